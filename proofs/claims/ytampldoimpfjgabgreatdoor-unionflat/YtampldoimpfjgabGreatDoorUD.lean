/-
  union.firstWith and Look; alive of chapter 4; the statements UnionSeen and UnionLook.
-/
import Derived.Test.YtampldoimpfjgabGreatDoorUC
namespace Go.Proofs.YtampldoimpfjgabGreatDoor
open Go.RowKit PM Go.Sort
set_option linter.unusedVariables false

namespace PM
/-- The first layer that has something at a path; -1, if none has. -/
def idxFrom (q : List UInt8) (i : Nat) : List (List Ent) → Int
  | [] => -1
  | x :: r => if (getL x q).isSome then (i : Int) else idxFrom q (i + 1) r
end PM
theorem idx_step {all : List (List Ent)} {q : List UInt8} {k : Nat} {x : List Ent} (hx : all[k]? = some x) : idxFrom q k (all.drop k) = if (getL x q).isSome then (k : Int) else idxFrom q (k + 1) (all.drop (k + 1)) := by
  obtain ⟨h1, h2⟩ := List.getElem?_eq_some_iff.1 hx
  rw [List.drop_eq_getElem_cons h1, h2, idxFrom]
set_option maxHeartbeats 1000000 in
set_option maxRecDepth 100000 in
theorem has1_any (x : Lay) (q : ByteArray) (P0 : Nat) (X : World) (hx : LayOK X x) (hs : Sorted x.es) (hq : q.size ≤ maxLen) (h0 : X.cell? ⟨P0, 0, none⟩ = some (.string q)) :
    Calls Tryz.prog 93 #[.slice x.ad x.es.length x.cap, .pointer (some ⟨P0, 0, none⟩)] X fun r X' => r = .returned (.bool (getL x.es q.data.toList).isSome) ∧ Below X.heap.size X X' := by
  have hg := get_det x.es q x.ad x.cap X hx.lies hx.fits hx.small hq hs _ _ rfl rfl
  generalize (getL x.es q.data.toList).isSome = b at hg ⊢
  generalize (getL x.es q.data.toList).getD zeroE = z at hg
  obtain ⟨zp, zk, zt, zo⟩ := z
  generalize x.es.length = n at hg ⊢
  clear hx
  go_enter Tryz.func93, Tryz.ntmps93
  go_wp2_with (go_at_call 23; refine hg.mono ?_; clear hg; rintro r w1 ⟨rfl, hN⟩)
  go_ret
  exact ⟨rfl, hN.alloc hN.size _⟩
set_option maxHeartbeats 2000000 in
set_option maxRecDepth 100000 in
theorem indexT_any (all : List Lay) (q : ByteArray) (P0 : Nat) (p : Option Addr) (cap : Nat) (w : World) (hT : LiesT w p all) (hOK : ∀ x ∈ all, LayOK w x ∧ Sorted x.es) (hn : all.length ≤ 80) (hq : q.size ≤ maxLen) (h0 : w.cell? ⟨P0, 0, none⟩ = some (.string q)) :
    Calls Tryz.prog 92 #[.slice p all.length cap, .func (.func 93) #[] #[.pointer (some ⟨P0, 0, none⟩)]] w fun r w' => r = .returned (.int .i64 (idxFrom q.data.toList 0 (all.map (·.es)))) ∧ Below w.heap.size w w' := by
  have eg : ∀ args w, (callFunc 93 args).run Tryz.prog w = .ok (.enter 93 args) w := enters_of Tryz.func93 (by kernel_rfl) rfl
  have HT : Aside (LiesT w p all) := hT
  have HOK : Aside (∀ x ∈ all, LayOK w x ∧ Sorted x.es) := hOK
  have hPl := block_lt_of_cell h0
  simp only at hPl
  obtain ⟨n, hnl⟩ : ∃ n, n = all.length := ⟨_, rfl⟩
  have HN : Aside (n = all.length) := hnl
  rw [← hnl] at hn ⊢
  obtain ⟨rr, hrr⟩ : ∃ rr, rr = idxFrom q.data.toList 0 (all.map (·.es)) := ⟨_, rfl⟩
  have HR : Aside (rr = idxFrom q.data.toList 0 (all.map (·.es))) := hrr
  rw [← hrr]
  clear hT hOK hnl hrr
  go_enter Tryz.func92, Tryz.ntmps92
  go_wp2
  go_loopg [8] n (fun gg s8 wr => ∃ k : Nat, k ≤ n ∧ n - k ≤ gg ∧ s8 = .int .i64 k ∧ Aside (Below w.heap.size w wr) ∧ Aside (idxFrom q.data.toList k ((all.map (·.es)).drop k) = rr))
  case atStart => exact ⟨0, Nat.zero_le _, by omega, rfl, Below.refl _ _, HR.out.symm⟩
  case round =>
    obtain ⟨k, hk, hgg, rfl, BW, HE⟩ := hrel
    by_cases hlt : k < n
    · have hltz : (k : Int) < (n : Int) := by omega
      obtain ⟨x, hx⟩ : ∃ x, all[k]? = some x := ⟨_, List.getElem?_eq_getElem (by have := HN.out; omega)⟩
      obtain ⟨hx1, hx2⟩ := HOK.out x (List.mem_of_getElem? hx)
      have hcall := has1_any x q P0 wr (hx1.kept BW.out) hx2 hq ((BW.out.cell (p := ⟨P0, 0, none⟩) hPl).trans h0)
      have HST : Aside (idxFrom q.data.toList k ((all.map (·.es)).drop k) = if (getL x.es q.data.toList).isSome then (k : Int) else idxFrom q.data.toList (k + 1) ((all.map (·.es)).drop (k + 1))) := idx_step (by rw [List.getElem?_map, hx]; rfl)
      rcases HT.out with h0 | ⟨b, off, rfl, hb, hc⟩
      · rw [h0] at hx; simp at hx
      have c0 : wr.cell? ⟨b, off + k, none⟩ = some (.slice x.ad x.es.length x.cap) := (BW.out.cell (p := ⟨b, off + k, none⟩) hb).trans (hc k x hx)
      clear hc hx hx1 hx2
      generalize x.es.length = xn at c0 hcall
      cases hb' : (getL x.es q.data.toList).isSome with
      | true =>
        rw [hb'] at hcall
        have HZ : Aside (rr = (k : Int)) := by show _ = _; rw [← HE.out, HST.out, hb']; rfl
        go_wp2_with (go_at_fn 93; refine hcall.mono ?_; clear hcall; rintro e w2 ⟨rfl, hN2⟩)
        go_ret
        exact ⟨ret_int HZ.out.symm, Below.onto BW.out hN2⟩
      | false =>
        rw [hb'] at hcall
        have HZ : Aside (idxFrom q.data.toList (k + 1) ((all.map (·.es)).drop (k + 1)) = rr) := by show _ = _; rw [← HE.out, HST.out, hb']; rfl
        go_wp2_with (go_at_fn 93; refine hcall.mono ?_; clear hcall; rintro e w2 ⟨rfl, hN2⟩)
        go_roundg (n - (k + 1))
        case measure => omega
        case rel => exact ⟨k + 1, by omega, by omega, by go_num, Below.onto BW.out hN2, HZ.out⟩
    · have hltz : ¬ (k : Int) < (n : Int) := by omega
      have HZ : Aside (rr = -1) := by
        show _ = _
        rw [← HE.out, List.drop_of_length_le (by rw [List.length_map]; have := HN.out; omega)]; rfl
      go_wp2
      go_ret
      exact ⟨ret_int HZ.out.symm, BW.out⟩
set_option maxHeartbeats 1000000 in
set_option maxRecDepth 100000 in
theorem firstWith_any (y : Lay) (ls : List Lay) (pl : Option Addr) (cl : Nat) (q : ByteArray) (w : World) (hUn : UnOK w y ls pl cl) (hr : ∀ x ∈ y :: ls, Sorted x.es) (hn : ls.length ≤ 4) (hq : q.size ≤ maxLen) :
    Calls Tryz.prog 57 #[.agg #[.slice y.ad y.es.length y.cap, .slice pl ls.length cl], .string q] w fun r w' => r = .returned (.int .i64 (idxFrom q.data.toList 0 (y.es :: ls.map (·.es)))) ∧ Below w.heap.size w w' := by
  obtain ⟨W0, hW0⟩ : ∃ W0, (w.alloc (.cells #[.slice y.ad y.es.length y.cap, .slice pl ls.length cl] 26)).alloc (.cells #[.string q] 9) = W0 := ⟨_, rfl⟩
  have hBw : Below w.heap.size w W0 := by rw [← hW0]; exact ((Below.refl _ _).alloc (Nat.le_refl _) _).alloc (by simp) _
  have hP : W0.cell? ⟨w.heap.size + 1, 0, none⟩ = some (.string q) := by rw [← hW0]; exact cell_top2 _ _ (by simp) _ _
  have h0 := hUn.kept hBw
  have hly := layers_any y ls pl cl W0 h0.lies (by omega) h0.nil
  have hix : ∀ X v base, Below W0.heap.size W0 X → RowsT X base v (y :: ls) → Calls Tryz.prog 92 #[v, .func (.func 93) #[] #[.pointer (some ⟨w.heap.size + 1, 0, none⟩)]] X fun r w' => r = .returned (.int .i64 (idxFrom q.data.toList 0 (y.es :: ls.map (·.es)))) ∧ Below X.heap.size X w' := fun X v base hB hR => by
    obtain ⟨p, c, rfl, hL⟩ := hR.form
    exact indexT_any (y :: ls) q (w.heap.size + 1) p c X hL (fun x hx => ⟨(h0.all x hx).kept hB, hr x hx⟩) (by simp; omega) hq ((hB.cell (p := ⟨w.heap.size + 1, 0, none⟩) (block_lt_of_cell hP)).trans hP)
  generalize idxFrom q.data.toList 0 (y.es :: ls.map (·.es)) = ri at hix ⊢
  have HBW : Aside (Below w.heap.size w W0) := hBw
  rw [← hW0] at hly hix
  obtain ⟨k, hk⟩ : ∃ k, k = y.es.length := ⟨_, rfl⟩
  obtain ⟨n, hn'⟩ : ∃ n, n = ls.length := ⟨_, rfl⟩
  rw [← hk, ← hn'] at hly hix hW0 ⊢
  have HW0 : Aside _ := hW0
  clear hUn hr h0 hP hBw hk hn' hW0
  go_enter Tryz.func57, Tryz.ntmps57
  go_wp2_with (first
    | (go_at_call 68; refine hly.mono ?_; clear hly; rintro r w2 ⟨⟨v2, rfl, hR2⟩, hN2⟩; have HR2 : Aside _ := hR2; have HN2 : Aside _ := hN2; clear hR2 hN2)
    | (go_at_call 92; refine (hix _ _ _ HN2.out HR2.out).mono ?_; clear hix; rintro r w3 ⟨rfl, hN3⟩))
  go_ret
  have h2 := HN2.out
  rw [HW0.out] at h2
  exact ⟨rfl, Below.onto (Below.onto HBW.out h2) hN3⟩
end Go.Proofs.YtampldoimpfjgabGreatDoor
namespace Go.Proofs.YtampldoimpfjgabGreatDoor
open Go.RowKit PM Go.Sort
set_option linter.unusedVariables false

namespace PM
def lookErr (all : List (List Ent)) (q : List UInt8) : Int := if (wrongU all).1 = 0 then (if clean q then (if (getL (seenU all) q).isSome then 0 else 6) else 7) else (wrongU all).1
end PM
theorem res4 {w W : World} {o : Obj} {a b c d : Value} {t : TypeId} (h : Below (w.heap.size + 2) ((w.alloc o).alloc (.cells #[a, b, c, d] t)) W) :
    (W.cell? ⟨w.heap.size + 1, 0, none⟩ = some a ∧ W.cell? ⟨w.heap.size + 1, 1, none⟩ = some b ∧ W.cell? ⟨w.heap.size + 1, 2, none⟩ = some c ∧ W.cell? ⟨w.heap.size + 1, 3, none⟩ = some d) ∧ (W.frozen? ⟨w.heap.size + 1, 0, none⟩ = false ∧ W.frozen? ⟨w.heap.size + 1, 1, none⟩ = false ∧ W.frozen? ⟨w.heap.size + 1, 2, none⟩ = false ∧ W.frozen? ⟨w.heap.size + 1, 3, none⟩ = false) := by
  have := new4 (w := w.alloc o) (B := w.heap.size + 2) (by simp) h
  simpa using this
theorem four_cells {X : World} {B : Nat} {x0 x1 x2 x3 : Value} (a b c d : Value) (r0 : X.cell? ⟨B, 0, none⟩ = some x0) (r1 : X.cell? ⟨B, 1, none⟩ = some x1) (r2 : X.cell? ⟨B, 2, none⟩ = some x2) (r3 : X.cell? ⟨B, 3, none⟩ = some x3) :
    ((((X.setCell ⟨B, 0, none⟩ a).setCell ⟨B, 1, none⟩ b).setCell ⟨B, 2, none⟩ c).setCell ⟨B, 3, none⟩ d).cell? ⟨B, 0, none⟩ = some a ∧ ((((X.setCell ⟨B, 0, none⟩ a).setCell ⟨B, 1, none⟩ b).setCell ⟨B, 2, none⟩ c).setCell ⟨B, 3, none⟩ d).cell? ⟨B, 1, none⟩ = some b ∧ ((((X.setCell ⟨B, 0, none⟩ a).setCell ⟨B, 1, none⟩ b).setCell ⟨B, 2, none⟩ c).setCell ⟨B, 3, none⟩ d).cell? ⟨B, 2, none⟩ = some c ∧ ((((X.setCell ⟨B, 0, none⟩ a).setCell ⟨B, 1, none⟩ b).setCell ⟨B, 2, none⟩ c).setCell ⟨B, 3, none⟩ d).cell? ⟨B, 3, none⟩ = some d := by
  have ne : ∀ i j : Nat, i ≠ j → (⟨B, i, none⟩ : Addr) ≠ ⟨B, j, none⟩ := fun i j h e => by cases e; exact h rfl
  refine ⟨?_, ?_, ?_, ?_⟩
  · rw [World.cell?_setCell_other _ _ _ _ (ne 3 0 (by decide)), World.cell?_setCell_other _ _ _ _ (ne 2 0 (by decide)), World.cell?_setCell_other _ _ _ _ (ne 1 0 (by decide))]
    exact World.cell?_setCell_same' _ _ _ (by rw [r0]; rfl)
  · rw [World.cell?_setCell_other _ _ _ _ (ne 3 1 (by decide)), World.cell?_setCell_other _ _ _ _ (ne 2 1 (by decide))]
    refine World.cell?_setCell_same' _ _ _ ?_
    rw [World.cell?_setCell_other _ _ _ _ (ne 0 1 (by decide)), r1]; rfl
  · rw [World.cell?_setCell_other _ _ _ _ (ne 3 2 (by decide))]
    refine World.cell?_setCell_same' _ _ _ ?_
    rw [World.cell?_setCell_other _ _ _ _ (ne 1 2 (by decide)), World.cell?_setCell_other _ _ _ _ (ne 0 2 (by decide)), r2]; rfl
  · refine World.cell?_setCell_same' _ _ _ ?_
    rw [World.cell?_setCell_other _ _ _ _ (ne 2 3 (by decide)), World.cell?_setCell_other _ _ _ _ (ne 1 3 (by decide)), World.cell?_setCell_other _ _ _ _ (ne 0 3 (by decide)), r3]; rfl
theorem store4 {w W : World} {o o2 : Obj} (h : Below (w.heap.size + 2) ((w.alloc o).alloc o2) W) (a b c d : Value) : Below w.heap.size w ((((W.setCell ⟨w.heap.size + 1, 0, none⟩ a).setCell ⟨w.heap.size + 1, 1, none⟩ b).setCell ⟨w.heap.size + 1, 2, none⟩ c).setCell ⟨w.heap.size + 1, 3, none⟩ d) :=
  ((((down2 h).setCell (p := ⟨w.heap.size + 1, 0, none⟩) (by simp) _).setCell (p := ⟨w.heap.size + 1, 1, none⟩) (by simp) _).setCell (p := ⟨w.heap.size + 1, 2, none⟩) (by simp) _).setCell (p := ⟨w.heap.size + 1, 3, none⟩) (by simp) _
set_option maxHeartbeats 2000000 in
set_option maxRecDepth 100000 in
theorem look_e1 (w : World) (a : Option Addr) (k c : Nat) (pl : Option Addr) (n cl : Nat) (er ea : Int) (sl : List Ent) (q : ByteArray) (hmd : MdC w a k c pl n cl er ea sl) (he : ¬ er = 0) :
    Calls Tryz.prog 22 #[.agg #[.slice a k c, .slice pl n cl], .string q] w fun r w' => r = .returned (.tuple #[.agg #[.string ⟨#[]⟩, .int .i64 0, .string ⟨#[]⟩, .bool false], .int .i64 0, .int .i64 er]) ∧ Below w.heap.size w w' := by
  have HB2 : Aside (Below (w.heap.size + 2) ((w.alloc (.cells #[.slice a k c, .slice pl n cl] 26)).alloc (.cells #[.string ⟨#[]⟩, .int .i64 0, .string ⟨#[]⟩, .bool false] 28)) ((w.alloc (.cells #[.slice a k c, .slice pl n cl] 26)).alloc (.cells #[.string ⟨#[]⟩, .int .i64 0, .string ⟨#[]⟩, .bool false] 28))) := Below.refl _ _
  go_enter Tryz.func22, Tryz.ntmps22
  go_wp2_with (go_at_call 33; refine (hmd _ (down2 HB2.out)).mono ?_; clear hmd; rintro e w3 ⟨p3, c3, rfl, hL3, hc3, hn3, hN3, hw3⟩; have HB3 : Aside (Below (w.heap.size + 2) ((w.alloc (.cells #[.slice a k c, .slice pl n cl] 26)).alloc (.cells #[.string ⟨#[]⟩, .int .i64 0, .string ⟨#[]⟩, .bool false] 28)) (w3.alloc (.cells #[.int .i64 er, .int .i64 ea] 44))) := up2 (up2 HB2.out hN3) ((Grown.refl _).alloc _).below; have HB3' : Aside (Below (w.heap.size + 2) ((w.alloc (.cells #[.slice a k c, .slice pl n cl] 26)).alloc (.cells #[.string ⟨#[]⟩, .int .i64 0, .string ⟨#[]⟩, .bool false] 28)) w3) := up2 HB2.out hN3; obtain ⟨⟨r0, r1, r2, r3⟩, ⟨g0, g1, g2, g3⟩⟩ := res4 HB3'.out; have HL3 : Aside (Lies (w3.alloc (.cells #[.int .i64 er, .int .i64 ea] 44)) p3 sl) := hL3.grown ((Grown.refl _).alloc _); have hlt := block_lt_of_cell r0; simp only at hlt; have hne : w.heap.size + 1 ≠ w3.heap.size := (by omega); clear hL3 hN3 hw3)
  go_region
  go_wp2
  obtain ⟨s0, s1, s2, s3⟩ := four_cells (.string ⟨#[]⟩) (.int .i64 0) (.string ⟨#[]⟩) (.bool false) r0 r1 r2 r3
  have t0 := Lib.cell?_alloc_some (.cells #[.int .i64 er, .int .i64 ea] 44) s0
  have t1 := Lib.cell?_alloc_some (.cells #[.int .i64 er, .int .i64 ea] 44) s1
  have t2 := Lib.cell?_alloc_some (.cells #[.int .i64 er, .int .i64 ea] 44) s2
  have t3 := Lib.cell?_alloc_some (.cells #[.int .i64 er, .int .i64 ea] 44) s3
  refine bodyPost_ret (v := .tuple #[.agg #[.string ⟨#[]⟩, .int .i64 0, .string ⟨#[]⟩, .bool false], .int .i64 0, .int .i64 er]) (by simp [results, Tryz.results22, go_sem, t0, t1, t2, t3]) rfl ?_
  have h := store4 HB3'.out (.string ⟨#[]⟩) (.int .i64 0) (.string ⟨#[]⟩) (.bool false)
  exact ⟨rfl, (h.alloc h.size _).drew⟩
set_option maxHeartbeats 2000000 in
set_option maxRecDepth 100000 in
theorem look_e2 (w : World) (a : Option Addr) (k c : Nat) (pl : Option Addr) (n cl : Nat) (er ea : Int) (sl : List Ent) (q : ByteArray) (hmd : MdC w a k c pl n cl 0 ea sl) (hcl : ∀ W, Below w.heap.size w W → Calls Tryz.prog 53 #[.string q] W fun r w' => r = .returned (.bool false) ∧ Below W.heap.size W w') :
    Calls Tryz.prog 22 #[.agg #[.slice a k c, .slice pl n cl], .string q] w fun r w' => r = .returned (.tuple #[.agg #[.string ⟨#[]⟩, .int .i64 0, .string ⟨#[]⟩, .bool false], .int .i64 0, .int .i64 7]) ∧ Below w.heap.size w w' := by
  have HB2 : Aside (Below (w.heap.size + 2) ((w.alloc (.cells #[.slice a k c, .slice pl n cl] 26)).alloc (.cells #[.string ⟨#[]⟩, .int .i64 0, .string ⟨#[]⟩, .bool false] 28)) ((w.alloc (.cells #[.slice a k c, .slice pl n cl] 26)).alloc (.cells #[.string ⟨#[]⟩, .int .i64 0, .string ⟨#[]⟩, .bool false] 28))) := Below.refl _ _
  go_enter Tryz.func22, Tryz.ntmps22
  go_wp2_with (first
    | (go_at_call 33; refine (hmd _ (down2 HB2.out)).mono ?_; clear hmd; rintro e w3 ⟨p3, c3, rfl, hL3, hc3, hn3, hN3, hw3⟩; have HB3 : Aside (Below (w.heap.size + 2) ((w.alloc (.cells #[.slice a k c, .slice pl n cl] 26)).alloc (.cells #[.string ⟨#[]⟩, .int .i64 0, .string ⟨#[]⟩, .bool false] 28)) (w3.alloc (.cells #[.int .i64 0, .int .i64 ea] 44))) := up2 (up2 HB2.out hN3) ((Grown.refl _).alloc _).below; have HB3' : Aside (Below (w.heap.size + 2) ((w.alloc (.cells #[.slice a k c, .slice pl n cl] 26)).alloc (.cells #[.string ⟨#[]⟩, .int .i64 0, .string ⟨#[]⟩, .bool false] 28)) w3) := up2 HB2.out hN3; obtain ⟨⟨r0, r1, r2, r3⟩, ⟨g0, g1, g2, g3⟩⟩ := res4 HB3'.out; have HL3 : Aside (Lies (w3.alloc (.cells #[.int .i64 0, .int .i64 ea] 44)) p3 sl) := hL3.grown ((Grown.refl _).alloc _); have hlt := block_lt_of_cell r0; simp only at hlt; have hne : w.heap.size + 1 ≠ w3.heap.size := (by omega); clear hL3 hN3 hw3)
    | (go_at_call 53; refine (hcl _ (down2 HB3.out)).mono ?_; clear hcl; rintro e w4 ⟨rfl, hN4⟩; have HB4 : Aside (Below (w.heap.size + 2) ((w.alloc (.cells #[.slice a k c, .slice pl n cl] 26)).alloc (.cells #[.string ⟨#[]⟩, .int .i64 0, .string ⟨#[]⟩, .bool false] 28)) w4) := up2 HB3.out hN4; have HL4 : Aside (Lies w4 p3 sl) := HL3.out.kept hN4; clear hN4 r0 r1 r2 r3 g0 g1 g2 g3; obtain ⟨⟨r0, r1, r2, r3⟩, ⟨g0, g1, g2, g3⟩⟩ := res4 HB4.out; obtain ⟨⟨u0, u1⟩, _⟩ := box2 HB4.out))
  obtain ⟨s0, s1, s2, s3⟩ := four_cells (.string ⟨#[]⟩) (.int .i64 0) (.string ⟨#[]⟩) (.bool false) r0 r1 r2 r3
  refine bodyPost_ret (v := .tuple #[.agg #[.string ⟨#[]⟩, .int .i64 0, .string ⟨#[]⟩, .bool false], .int .i64 0, .int .i64 7]) (by simp [results, Tryz.results22, go_sem, s0, s1, s2, s3]) rfl ?_
  exact ⟨rfl, store4 HB4.out _ _ _ _⟩
set_option maxHeartbeats 2000000 in
set_option maxRecDepth 100000 in
theorem look_e3 (w : World) (a : Option Addr) (k c : Nat) (pl : Option Addr) (n cl : Nat) (er ea : Int) (sl : List Ent) (q : ByteArray) (xp : ByteArray) (xk : Int) (xt : ByteArray) (xo : Bool) (hmd : MdC w a k c pl n cl 0 ea sl) (hcl : ∀ W, Below w.heap.size w W → Calls Tryz.prog 53 #[.string q] W fun r w' => r = .returned (.bool true) ∧ Below W.heap.size W w') (hgt : ∀ W p c, Below w.heap.size w W → Lies W p sl → Calls Tryz.prog 23 #[.slice p sl.length c, .string q] W fun r w' => r = .returned (.tuple #[.agg #[.string xp, .int .i64 xk, .string xt, .bool xo], .bool false]) ∧ Below W.heap.size W w') :
    Calls Tryz.prog 22 #[.agg #[.slice a k c, .slice pl n cl], .string q] w fun r w' => r = .returned (.tuple #[.agg #[.string ⟨#[]⟩, .int .i64 0, .string ⟨#[]⟩, .bool false], .int .i64 0, .int .i64 6]) ∧ Below w.heap.size w w' := by
  have HB2 : Aside (Below (w.heap.size + 2) ((w.alloc (.cells #[.slice a k c, .slice pl n cl] 26)).alloc (.cells #[.string ⟨#[]⟩, .int .i64 0, .string ⟨#[]⟩, .bool false] 28)) ((w.alloc (.cells #[.slice a k c, .slice pl n cl] 26)).alloc (.cells #[.string ⟨#[]⟩, .int .i64 0, .string ⟨#[]⟩, .bool false] 28))) := Below.refl _ _
  go_enter Tryz.func22, Tryz.ntmps22
  go_wp2_with (first
    | (go_at_call 33; refine (hmd _ (down2 HB2.out)).mono ?_; clear hmd; rintro e w3 ⟨p3, c3, rfl, hL3, hc3, hn3, hN3, hw3⟩; have HB3 : Aside (Below (w.heap.size + 2) ((w.alloc (.cells #[.slice a k c, .slice pl n cl] 26)).alloc (.cells #[.string ⟨#[]⟩, .int .i64 0, .string ⟨#[]⟩, .bool false] 28)) (w3.alloc (.cells #[.int .i64 0, .int .i64 ea] 44))) := up2 (up2 HB2.out hN3) ((Grown.refl _).alloc _).below; have HB3' : Aside (Below (w.heap.size + 2) ((w.alloc (.cells #[.slice a k c, .slice pl n cl] 26)).alloc (.cells #[.string ⟨#[]⟩, .int .i64 0, .string ⟨#[]⟩, .bool false] 28)) w3) := up2 HB2.out hN3; obtain ⟨⟨r0, r1, r2, r3⟩, ⟨g0, g1, g2, g3⟩⟩ := res4 HB3'.out; have HL3 : Aside (Lies (w3.alloc (.cells #[.int .i64 0, .int .i64 ea] 44)) p3 sl) := hL3.grown ((Grown.refl _).alloc _); have hlt := block_lt_of_cell r0; simp only at hlt; have hne : w.heap.size + 1 ≠ w3.heap.size := (by omega); clear hL3 hN3 hw3)
    | (go_at_call 53; refine (hcl _ (down2 HB3.out)).mono ?_; clear hcl; rintro e w4 ⟨rfl, hN4⟩; have HB4 : Aside (Below (w.heap.size + 2) ((w.alloc (.cells #[.slice a k c, .slice pl n cl] 26)).alloc (.cells #[.string ⟨#[]⟩, .int .i64 0, .string ⟨#[]⟩, .bool false] 28)) w4) := up2 HB3.out hN4; have HL4 : Aside (Lies w4 p3 sl) := HL3.out.kept hN4; clear hN4 r0 r1 r2 r3 g0 g1 g2 g3; obtain ⟨⟨r0, r1, r2, r3⟩, ⟨g0, g1, g2, g3⟩⟩ := res4 HB4.out; obtain ⟨⟨u0, u1⟩, _⟩ := box2 HB4.out)
    | (go_at_call 23; refine (hgt _ p3 c3 (down2 HB4.out) HL4.out).mono ?_; clear hgt; rintro e w5 ⟨rfl, hN5⟩; have HB5 : Aside (Below (w.heap.size + 2) ((w.alloc (.cells #[.slice a k c, .slice pl n cl] 26)).alloc (.cells #[.string ⟨#[]⟩, .int .i64 0, .string ⟨#[]⟩, .bool false] 28)) w5) := up2 HB4.out hN5; clear hN5 r0 r1 r2 r3 g0 g1 g2 g3 u0 u1; obtain ⟨⟨r0, r1, r2, r3⟩, ⟨g0, g1, g2, g3⟩⟩ := res4 HB5.out; obtain ⟨⟨u0, u1⟩, _⟩ := box2 HB5.out; have hl5 := block_lt_of_cell r0; simp only at hl5; have hn5 : w.heap.size + 1 ≠ w5.heap.size := (by omega); have hn5' : w.heap.size ≠ w5.heap.size := (by omega)))
  obtain ⟨s0, s1, s2, s3⟩ := four_cells (.string ⟨#[]⟩) (.int .i64 0) (.string ⟨#[]⟩) (.bool false) r0 r1 r2 r3
  have t0 := Lib.cell?_alloc_some (.cells #[.string xp, .int .i64 xk, .string xt, .bool xo] 28) s0
  have t1 := Lib.cell?_alloc_some (.cells #[.string xp, .int .i64 xk, .string xt, .bool xo] 28) s1
  have t2 := Lib.cell?_alloc_some (.cells #[.string xp, .int .i64 xk, .string xt, .bool xo] 28) s2
  have t3 := Lib.cell?_alloc_some (.cells #[.string xp, .int .i64 xk, .string xt, .bool xo] 28) s3
  refine bodyPost_ret (v := .tuple #[.agg #[.string ⟨#[]⟩, .int .i64 0, .string ⟨#[]⟩, .bool false], .int .i64 0, .int .i64 6]) (by simp [results, Tryz.results22, go_sem, t0, t1, t2, t3]) rfl ?_
  have h := store4 HB5.out (.string ⟨#[]⟩) (.int .i64 0) (.string ⟨#[]⟩) (.bool false)
  exact ⟨rfl, h.alloc h.size _⟩
set_option maxHeartbeats 2000000 in
set_option maxRecDepth 100000 in
theorem look_ok (w : World) (a : Option Addr) (k c : Nat) (pl : Option Addr) (n cl : Nat) (er ea : Int) (sl : List Ent) (q : ByteArray) (xp : ByteArray) (xk : Int) (xt : ByteArray) (xo : Bool) (ix : Int) (hmd : MdC w a k c pl n cl 0 ea sl) (hcl : ∀ W, Below w.heap.size w W → Calls Tryz.prog 53 #[.string q] W fun r w' => r = .returned (.bool true) ∧ Below W.heap.size W w') (hgt : ∀ W p c, Below w.heap.size w W → Lies W p sl → Calls Tryz.prog 23 #[.slice p sl.length c, .string q] W fun r w' => r = .returned (.tuple #[.agg #[.string xp, .int .i64 xk, .string xt, .bool xo], .bool true]) ∧ Below W.heap.size W w') (hfw : ∀ W, Below w.heap.size w W → Calls Tryz.prog 57 #[.agg #[.slice a k c, .slice pl n cl], .string q] W fun r w' => r = .returned (.int .i64 ix) ∧ Below W.heap.size W w') :
    Calls Tryz.prog 22 #[.agg #[.slice a k c, .slice pl n cl], .string q] w fun r w' => r = .returned (.tuple #[.agg #[.string xp, .int .i64 xk, .string xt, .bool xo], .int .i64 ix, .int .i64 0]) ∧ Below w.heap.size w w' := by
  have HB2 : Aside (Below (w.heap.size + 2) ((w.alloc (.cells #[.slice a k c, .slice pl n cl] 26)).alloc (.cells #[.string ⟨#[]⟩, .int .i64 0, .string ⟨#[]⟩, .bool false] 28)) ((w.alloc (.cells #[.slice a k c, .slice pl n cl] 26)).alloc (.cells #[.string ⟨#[]⟩, .int .i64 0, .string ⟨#[]⟩, .bool false] 28))) := Below.refl _ _
  go_enter Tryz.func22, Tryz.ntmps22
  go_wp2_with (first
    | (go_at_call 33; refine (hmd _ (down2 HB2.out)).mono ?_; clear hmd; rintro e w3 ⟨p3, c3, rfl, hL3, hc3, hn3, hN3, hw3⟩; have HB3 : Aside (Below (w.heap.size + 2) ((w.alloc (.cells #[.slice a k c, .slice pl n cl] 26)).alloc (.cells #[.string ⟨#[]⟩, .int .i64 0, .string ⟨#[]⟩, .bool false] 28)) (w3.alloc (.cells #[.int .i64 0, .int .i64 ea] 44))) := up2 (up2 HB2.out hN3) ((Grown.refl _).alloc _).below; have HB3' : Aside (Below (w.heap.size + 2) ((w.alloc (.cells #[.slice a k c, .slice pl n cl] 26)).alloc (.cells #[.string ⟨#[]⟩, .int .i64 0, .string ⟨#[]⟩, .bool false] 28)) w3) := up2 HB2.out hN3; obtain ⟨⟨r0, r1, r2, r3⟩, ⟨g0, g1, g2, g3⟩⟩ := res4 HB3'.out; have HL3 : Aside (Lies (w3.alloc (.cells #[.int .i64 0, .int .i64 ea] 44)) p3 sl) := hL3.grown ((Grown.refl _).alloc _); have hlt := block_lt_of_cell r0; simp only at hlt; have hne : w.heap.size + 1 ≠ w3.heap.size := (by omega); clear hL3 hN3 hw3)
    | (go_at_call 53; refine (hcl _ (down2 HB3.out)).mono ?_; clear hcl; rintro e w4 ⟨rfl, hN4⟩; have HB4 : Aside (Below (w.heap.size + 2) ((w.alloc (.cells #[.slice a k c, .slice pl n cl] 26)).alloc (.cells #[.string ⟨#[]⟩, .int .i64 0, .string ⟨#[]⟩, .bool false] 28)) w4) := up2 HB3.out hN4; have HL4 : Aside (Lies w4 p3 sl) := HL3.out.kept hN4; clear hN4 r0 r1 r2 r3 g0 g1 g2 g3; obtain ⟨⟨r0, r1, r2, r3⟩, ⟨g0, g1, g2, g3⟩⟩ := res4 HB4.out; obtain ⟨⟨u0, u1⟩, _⟩ := box2 HB4.out)
    | (go_at_call 23; refine (hgt _ p3 c3 (down2 HB4.out) HL4.out).mono ?_; clear hgt; rintro e w5 ⟨rfl, hN5⟩; have HB5 : Aside (Below (w.heap.size + 2) ((w.alloc (.cells #[.slice a k c, .slice pl n cl] 26)).alloc (.cells #[.string ⟨#[]⟩, .int .i64 0, .string ⟨#[]⟩, .bool false] 28)) w5) := up2 HB4.out hN5; clear hN5 r0 r1 r2 r3 g0 g1 g2 g3 u0 u1; obtain ⟨⟨r0, r1, r2, r3⟩, ⟨g0, g1, g2, g3⟩⟩ := res4 HB5.out; obtain ⟨⟨u0, u1⟩, _⟩ := box2 HB5.out; have hl5 := block_lt_of_cell r0; simp only at hl5; have hn5 : w.heap.size + 1 ≠ w5.heap.size := (by omega); have hn5' : w.heap.size ≠ w5.heap.size := (by omega)))
  obtain ⟨W6, hW6⟩ : ∃ W6, w5.alloc (.cells #[.string xp, .int .i64 xk, .string xt, .bool xo] 28) = W6 := ⟨_, rfl⟩
  rw [hW6]
  have HB6 : Aside (Below (w.heap.size + 2) ((w.alloc (.cells #[.slice a k c, .slice pl n cl] 26)).alloc (.cells #[.string ⟨#[]⟩, .int .i64 0, .string ⟨#[]⟩, .bool false] 28)) W6) := by
    show Below _ _ _
    rw [← hW6]; exact up2 HB5.out ((Grown.refl _).alloc _).below
  have hb5 : Below (w5.heap.size + 1) (w5.alloc (.cells #[.string xp, .int .i64 xk, .string xt, .bool xo] 28)) W6 := by rw [hW6]; exact Below.refl _ _
  obtain ⟨⟨b0, b1, b2, b3⟩, _⟩ := new4 (Nat.lt_succ_self _) hb5
  obtain ⟨⟨v0, v1, v2, v3⟩, ⟨h0, h1, h2, h3⟩⟩ := res4 HB6.out
  obtain ⟨⟨m0, m1⟩, _⟩ := box2 HB6.out
  clear hb5
  have hbl := block_lt_of_cell b0
  simp only at hbl
  clear hW6
  go_region_held3 (fun w' => (w'.cell? ⟨w5.heap.size, 0, none⟩ = some (.string xp) ∧ w'.cell? ⟨w5.heap.size, 1, none⟩ = some (.int .i64 xk) ∧ w'.cell? ⟨w5.heap.size, 2, none⟩ = some (.string xt) ∧ w'.cell? ⟨w5.heap.size, 3, none⟩ = some (.bool xo)) ∧ w'.cell? ⟨w.heap.size, 0, none⟩ = some (.slice a k c) ∧ w'.cell? ⟨w.heap.size, 1, none⟩ = some (.slice pl n cl)) (go_keep) (first
    | (go_at_call 57; refine (hfw _ (down2 HB6.out).drew).mono ?_; clear hfw; rintro r w7 ⟨rfl, hN7⟩; have HB7 : Aside (Below (w.heap.size + 2) ((w.alloc (.cells #[.slice a k c, .slice pl n cl] 26)).alloc (.cells #[.string ⟨#[]⟩, .int .i64 0, .string ⟨#[]⟩, .bool false] 28)) w7) := up2 HB6.out (((Below.refl _ _).drew).trans hN7); have y0 := (hN7.cell (p := ⟨w5.heap.size, 0, none⟩) hbl).trans b0; have y1 := (hN7.cell (p := ⟨w5.heap.size, 1, none⟩) hbl).trans b1; have y2 := (hN7.cell (p := ⟨w5.heap.size, 2, none⟩) hbl).trans b2; have y3 := (hN7.cell (p := ⟨w5.heap.size, 3, none⟩) hbl).trans b3; obtain ⟨⟨x0, x1, x2, x3⟩, ⟨z0, z1, z2, z3⟩⟩ := res4 HB7.out; obtain ⟨⟨m2, m3⟩, _⟩ := box2 HB7.out; clear hN7))
  all_goals go_wp2
  all_goals (obtain ⟨s0, s1, s2, s3⟩ := four_cells (.string xp) (.int .i64 xk) (.string xt) (.bool xo) x0 x1 x2 x3)
  all_goals refine bodyPost_ret (v := .tuple #[.agg #[.string xp, .int .i64 xk, .string xt, .bool xo], .int .i64 ix, .int .i64 0]) (by simp [results, Tryz.results22, go_sem, s0, s1, s2, s3]) rfl ?_
  all_goals exact ⟨rfl, store4 HB7.out _ _ _ _⟩
theorem look_any (y : Lay) (ls : List Lay) (m : Int) (pl : Option Addr) (cl : Nat) (q : ByteArray) (w : World) (hUn : UnOK w y ls pl cl) (hq : q.size ≤ maxLen) (hm : w.cell? ⟨0, 0, none⟩ = some (.int .i64 m)) (x : Ent) (ix er : Int)
    (her : er = lookErr (y.es :: ls.map (·.es)) q.data.toList) (hx : x = if er = 0 then (getL (seenU (y.es :: ls.map (·.es))) q.data.toList).getD zeroE else zeroE) (hix : ix = if er = 0 then idxFrom q.data.toList 0 (y.es :: ls.map (·.es)) else 0) :
    Calls Tryz.prog 22 #[.agg #[.slice y.ad y.es.length y.cap, .slice pl ls.length cl], .string q] w fun r w' => r = .returned (.tuple #[.agg #[.string x.path, .int .i64 x.kind, .string x.text, .bool x.opq], .int .i64 ix, .int .i64 er]) ∧ Below w.heap.size w w' := by
  have hmd : MdC w y.ad y.es.length y.cap pl ls.length cl (wrongU (y.es :: ls.map (·.es))).1 ((wrongU (y.es :: ls.map (·.es))).2 : Nat) (seenU (y.es :: ls.map (·.es))) := fun W hB => by
    have h := hUn.kept hB
    exact merged_any y ls m pl cl W h.lies h.all h.nil (held hB hm)
  by_cases h1 : (wrongU (y.es :: ls.map (·.es))).1 = 0
  · obtain ⟨hl5, hz, hr⟩ := wrongU_zero.1 h1
    rw [List.length_cons, List.length_map] at hl5
    have hsr := seenU_right (y.es :: ls.map (·.es))
    rw [h1] at hmd
    have hcl := fun W (hB : Below w.heap.size w W) => clean_any q m W hq (held hB hm)
    cases hc : clean q.data.toList with
    | false =>
      rw [hc] at hcl
      have e : er = 7 := by rw [her, lookErr, if_pos h1, hc]; rfl
      rw [hx, hix, e, if_neg (by decide), if_neg (by decide)]
      exact look_e2 w _ _ _ _ _ _ 0 _ _ q hmd hcl
    | true =>
      rw [hc] at hcl
      have hgt := fun W p c (hB : Below w.heap.size w W) (hL : Lies W p (seenU (y.es :: ls.map (·.es)))) => get_det _ q p c W hL (right_fitsL hsr) (by have := hsr.len; omega) hq hsr.sorted _ _ rfl rfl
      cases hs : (getL (seenU (y.es :: ls.map (·.es))) q.data.toList).isSome with
      | false =>
        rw [hs] at hgt
        have e : er = 6 := by rw [her, lookErr, if_pos h1, hc, if_pos rfl, hs]; rfl
        rw [hx, hix, e, if_neg (by decide), if_neg (by decide)]
        exact look_e3 w _ _ _ _ _ _ 0 _ _ q _ _ _ _ hmd hcl hgt
      | true =>
        rw [hs] at hgt
        have e : er = 0 := by rw [her, lookErr, if_pos h1, hc, if_pos rfl, hs]; rfl
        rw [hx, hix, e, if_pos rfl, if_pos rfl]
        exact look_ok w _ _ _ _ _ _ 0 _ _ q _ _ _ _ _ hmd hcl hgt (fun W hB => firstWith_any y ls pl cl q W (hUn.kept hB) (fun x hx => (hr x.es (by
          rcases List.mem_cons.1 hx with rfl | hx
          · simp
          · simp; exact .inr ⟨x, hx, rfl⟩)).sorted) (by omega) hq)
  · have e : er = (wrongU (y.es :: ls.map (·.es))).1 := by rw [her, lookErr, if_neg h1]
    rw [hx, hix, e, if_neg h1, if_neg h1]
    exact look_e1 w _ _ _ _ _ _ _ _ _ q hmd h1
end Go.Proofs.YtampldoimpfjgabGreatDoor
namespace Go.Proofs.YtampldoimpfjgabGreatDoor
open Go.RowKit PM Go.Sort
set_option linter.unusedVariables false

def small4 : List Ent := [⟨⟨#[97]⟩, 2, ⟨#[]⟩, false⟩, ⟨⟨#[97, 47, 98]⟩, 1, ⟨#[120]⟩, false⟩]
def up4 : List Ent := [⟨⟨#[97]⟩, 2, ⟨#[]⟩, false⟩, ⟨⟨#[97, 47, 98]⟩, 4, ⟨#[]⟩, false⟩]
def seen4 : List Ent := [⟨⟨#[97]⟩, 2, ⟨#[]⟩, false⟩]
def small4Cells : Array Value := #[.string ⟨#[97]⟩, .int .i64 2, .string ⟨#[]⟩, .bool false, .string ⟨#[97, 47, 98]⟩, .int .i64 1, .string ⟨#[120]⟩, .bool false]
theorem s4_wrong : wrongU [[], small4] = (0, 0) := by decide
theorem s4_seen : seenU [[], small4] = small4 := by decide
theorem s4_merge : (mergeF [small4]).2 = small4 := by decide
theorem s4_rem : remErr small4 [97, 47, 98] = 0 := by decide
theorem s4_drop : dropL [] small4 ⟨#[97, 47, 98]⟩ = up4 := by decide
theorem s4_wrong2 : wrongU [up4, small4] = (0, 0) := by decide
theorem s4_seen2 : seenU [up4, small4] = seen4 := by decide
theorem s4_look : lookErr [[], small4] [97, 47, 98] = 0 := by decide
theorem s4_idx : idxFrom [97, 47, 98] 0 [[], small4] = 1 := by decide
theorem s4_x : (⟨⟨#[97, 47, 98]⟩, 1, ⟨#[120]⟩, false⟩ : Ent) = if (0 : Int) = 0 then (getL (seenU [[], small4]) [97, 47, 98]).getD zeroE else zeroE := by decide
theorem s4_fits : Fits small4 := by unfold Fits small4 maxLen; decide
set_option maxHeartbeats 1000000 in
set_option maxRecDepth 100000 in
theorem small4_any (w : World) : Calls Tryz.prog 32 #[] w fun r w' => ∃ b b', r = .returned (.agg #[.slice none 0 0, .slice (some ⟨b', 0, none⟩) 1 1]) ∧ UnOK w' ⟨none, 0, []⟩ [⟨some ⟨b, 0, none⟩, 2, small4⟩] (some ⟨b', 0, none⟩) 1 ∧ Below w.heap.size w w' := by
  go_enter Tryz.func32, Tryz.ntmps32
  go_wp2
  refine bodyPost_ret (v := .agg #[.slice none 0 0, .slice (some ⟨w.heap.size + 1 + 1, 0, none⟩) 1 1]) (by simp [results, Tryz.results32, go_sem]) rfl ?_
  have hO := (own_alloc (w.alloc (.cells #[.slice none 0 0, .slice (some ⟨w.heap.size + 1 + 1, 0, none⟩) 1 1] 26)) small4Cells 2 small4 rfl (by decide) (by unfold maxLen; decide) (fun k v hk => by
      have : (small4.flatMap encE) = small4Cells.toList := rfl
      rw [this, Array.getElem?_toList] at hk; exact hk)).grown ((Grown.refl _).alloc (.cells #[.slice (some ⟨w.heap.size + 1, 0, none⟩) 2 2] 23))
  have hs : (w.alloc (.cells #[.slice none 0 0, .slice (some ⟨w.heap.size + 1 + 1, 0, none⟩) 1 1] 26)).heap.size = w.heap.size + 1 := World.size_alloc _ _
  rw [hs] at hO
  refine ⟨w.heap.size + 1, w.heap.size + 1 + 1, rfl, ⟨⟨Lies.nil _ _, fun e he => by simp at he, Nat.le_refl _, by decide⟩, fun _ => rfl, .inr ⟨w.heap.size + 1 + 1, 0, rfl, by simp, fun j x hx => ?_⟩, fun x hx => ?_, nofun, Nat.le_refl _⟩, (((Below.refl _ _).alloc (Nat.le_refl _) _).alloc (by simp) _).alloc (by simp; omega) _⟩
  · cases j with
    | zero =>
      simp at hx
      subst hx
      exact cell_top2 _ _ (by simp) _ _
    | succ j => simp at hx
  · rw [List.mem_singleton] at hx
    subst hx
    exact ⟨⟨hO.lies, s4_fits, Nat.le_refl _, by show small4.length < _; decide⟩, nofun⟩
theorem remS_any (m : Int) (b b' : Nat) (W : World) (hU : UnOK W ⟨none, 0, []⟩ [⟨some ⟨b, 0, none⟩, 2, small4⟩] (some ⟨b', 0, none⟩) 1) (hm : W.cell? ⟨0, 0, none⟩ = some (.int .i64 m)) :
    Calls Tryz.prog 16 #[.agg #[.slice none 0 0, .slice (some ⟨b', 0, none⟩) 1 1], .string ⟨#[97, 47, 98]⟩] W (UnPost 0 up4 [small4] W) := by
  have h := unionRemove_any ⟨none, 0, []⟩ [⟨some ⟨b, 0, none⟩, 2, small4⟩] m (some ⟨b', 0, none⟩) 1 ⟨#[97, 47, 98]⟩ (by unfold maxLen; decide) W hU hm
  have e1 : wrongU (([] : List Ent) :: List.map (·.es) [(⟨some ⟨b, 0, none⟩, 2, small4⟩ : Lay)]) = (0, 0) := s4_wrong
  have e2 : seenU (([] : List Ent) :: List.map (·.es) [(⟨some ⟨b, 0, none⟩, 2, small4⟩ : Lay)]) = small4 := s4_seen
  have e3 : (mergeF (List.map (·.es) [(⟨some ⟨b, 0, none⟩, 2, small4⟩ : Lay)])).2 = small4 := s4_merge
  have e4 : remErr small4 (⟨#[97, 47, 98]⟩ : ByteArray).data.toList = 0 := s4_rem
  simp only [] at h
  rw [e1, e2, e3, s4_drop, e4] at h
  exact h
theorem seenS_any (m : Int) (y : Lay) (lo : List Lay) (pl : Option Addr) (cl : Nat) (W : World) (h1 : y.es = up4) (h2 : lo.map (·.es) = [small4]) (hU : UnOK W y lo pl cl) (hm : W.cell? ⟨0, 0, none⟩ = some (.int .i64 m)) :
    Calls Tryz.prog 12 #[.agg #[.slice y.ad y.es.length y.cap, .slice pl lo.length cl]] W (NewPost 0 seen4 W) := by
  refine unionSeen_of W y.ad y.es.length y.cap pl lo.length cl 0 0 seen4 (fun X hX => ?_)
  have h := hU.kept hX
  have := merged_any y lo m pl cl X h.lies h.all h.nil (held hX hm)
  rw [List.map_cons, h1, h2, s4_wrong2, s4_seen2] at this
  rw [h1]
  exact this
theorem lookS_any (m : Int) (b b' : Nat) (W : World) (hU : UnOK W ⟨none, 0, []⟩ [⟨some ⟨b, 0, none⟩, 2, small4⟩] (some ⟨b', 0, none⟩) 1) (hm : W.cell? ⟨0, 0, none⟩ = some (.int .i64 m)) :
    Calls Tryz.prog 22 #[.agg #[.slice none 0 0, .slice (some ⟨b', 0, none⟩) 1 1], .string ⟨#[97, 47, 98]⟩] W fun r w' => r = .returned (.tuple #[.agg #[.string ⟨#[97, 47, 98]⟩, .int .i64 1, .string ⟨#[120]⟩, .bool false], .int .i64 1, .int .i64 0]) ∧ Below W.heap.size W w' :=
  look_any ⟨none, 0, []⟩ [⟨some ⟨b, 0, none⟩, 2, small4⟩] m (some ⟨b', 0, none⟩) 1 ⟨#[97, 47, 98]⟩ W hU (by unfold maxLen; decide) hm ⟨⟨#[97, 47, 98]⟩, 1, ⟨#[120]⟩, false⟩ 1 0 s4_look.symm s4_x (by rw [if_pos rfl]; exact s4_idx.symm)
theorem by_eq {P : Program} {f : Nat} {a b : Array Value} {W : World} {Q : Ending → World → Prop} (h : Calls P f a W Q) (e : a = b) : Calls P f b W Q := e ▸ h
theorem up4_cell {W X : World} {y : Lay} (h1 : y.es = up4) (hL : Lies W y.ad y.es) (hB : Below W.heap.size W X) : ∃ b off, y.ad = some ⟨b, off, none⟩ ∧ X.cell? ⟨b, off + 5, none⟩ = some (.int .i64 4) := by
  rw [h1] at hL
  rcases hL with h | ⟨b, off, hp, hb, hc⟩
  · cases h
  · exact ⟨b, off, hp, (hB.cell (p := ⟨b, off + 5, none⟩) hb).trans (hc 1 ⟨⟨#[97, 47, 98]⟩, 4, ⟨#[]⟩, false⟩ rfl 1 _ rfl)⟩
set_option maxHeartbeats 4000000 in
set_option maxRecDepth 100000 in
theorem unionAlive_any (m : Int) (w : World) (hm : w.cell? ⟨0, 0, none⟩ = some (.int .i64 m)) :
    Calls Tryz.prog 11 #[] w fun r w' => r = .returned (.bool true) ∧ Below w.heap.size w w' := by
  have hgo4 : True := trivial
  go_enter Tryz.func11, Tryz.ntmps11
  go_wp2_with (first
    | (go_at_call 32; clear hgo4; refine (small4_any _).mono ?_; rintro r w1 ⟨b1, b2, rfl, hU1, hN1⟩; have HU1 : Aside _ := hU1; have HB1 : Aside (Below w.heap.size w w1) := hN1; clear hU1 hN1)
    | (go_at_call 16; refine (remS_any m b1 b2 _ HU1.out (held HB1.out hm)).mono ?_; rintro r w2 ⟨y, lo, pl, cl, rfl, h1, h2, hok, hN2, hnew⟩; have hy2 : y.es.length = 2 := (by rw [h1]; rfl); have HOK : Aside (y.es = up4 ∧ lo.map (·.es) = [small4] ∧ UnOK w2 y lo pl cl) := ⟨h1, h2, hok⟩; have HB2 : Aside (Below w.heap.size w w2) := Below.onto HB1.out hN2; rw [hy2]; clear h1 h2 hok hN2 hnew HU1; obtain ⟨ln, hln⟩ : ∃ ln, ln = lo.length := ⟨_, rfl⟩; have HLN : Aside (ln = lo.length ∧ y.es.length = 2) := ⟨hln, hy2⟩; rw [← hln]; clear hln hy2)
    | (go_at_call 12; refine (by_eq (seenS_any m y lo pl cl _ HOK.out.1 HOK.out.2.1 (HOK.out.2.2.kept ((Grown.refl _).alloc _).below) (held (HB2.out.alloc HB2.out.size _) hm)) (by rw [HLN.out.1, HLN.out.2])).mono ?_; rintro r w3 ⟨p3, c3, rfl, hL3, hc3, hn3, hN3, hw3⟩; have HB3 : Aside (Below (w2.heap.size + 1) (w2.alloc (.cells #[.slice y.ad 2 y.cap, .slice pl ln cl] 26)) w3) := hN3.mono (by simp); clear hL3 hc3 hn3 hN3 hw3; have hgo5 : True := trivial)
    | (go_at_call 32; clear hgo5; refine (small4_any _).mono ?_; rintro r w4 ⟨b3, b4, rfl, hU4, hN4⟩; have HU4 : Aside _ := hU4; have HB4 : Aside (Below (w2.heap.size + 1) (w2.alloc (.cells #[.slice y.ad 2 y.cap, .slice pl ln cl] 26)) w4) := up1 HB3.out hN4; clear hU4 hN4)
    | (go_at_call 22; refine (lookS_any m b3 b4 _ HU4.out (held (Below.onto HB2.out (base1 HB4.out)) hm)).mono ?_; rintro r w5 ⟨rfl, hN5⟩; have HB5 : Aside (Below (w2.heap.size + 1) (w2.alloc (.cells #[.slice y.ad 2 y.cap, .slice pl ln cl] 26)) w5) := up1 HB4.out hN5; clear hN5 HU4; obtain ⟨⟨u0, u1⟩, _⟩ := new2 (Nat.lt_succ_self _) HB5.out; obtain ⟨bb, off, hyad, hc⟩ := up4_cell HOK.out.1 HOK.out.2.2.up.lies (base1 HB5.out); rw [hyad] at u0; have hul := block_lt_of_cell u0; simp only at hul; have hun : w2.heap.size ≠ w5.heap.size := (by omega); have hbl := block_lt_of_cell hc; simp only at hbl; have hbn : bb ≠ w5.heap.size := (by omega)))
  go_ret
  exact ⟨rfl, Below.onto HB2.out (base1 (upA HB5.out))⟩
end Go.Proofs.YtampldoimpfjgabGreatDoor
namespace Go.Proofs.YtampldoimpfjgabGreatDoor
open Go.RowKit PM Go.Sort
set_option linter.unusedVariables false

abbrev TrueC (f : Nat) (args : Array Value) (W : World) : Prop := Calls Tryz.prog f args W fun r w' => r = .returned (.bool true) ∧ Below W.heap.size W w'
set_option maxHeartbeats 1000000 in
set_option maxRecDepth 100000 in
theorem seenH_err (a : Option Addr) (k c : Nat) (pl : Option Addr) (n cl : Nat) (p : Option Addr) (tn tc : Nat) (x v : Int) (W : World) (h0 : ¬ x = 0) (h : x = 5 ∨ x = v) :
    TrueC 15 #[.agg #[.slice a k c, .slice pl n cl], .int .i64 x, .slice p tn tc, .int .i64 v] W := by
  by_cases h5 : x = 5
  · subst h5
    clear h
    go_enter Tryz.func15, Tryz.ntmps15
    go_wp2
    go_ret
    exact ⟨rfl, (Below.refl _ _).alloc (Nat.le_refl _) _⟩
  · obtain rfl : x = v := by
      rcases h with h | h
      · exact absurd h h5
      · exact h
    go_enter Tryz.func15, Tryz.ntmps15
    go_wp2
    go_ret
    exact ⟨rfl, (Below.refl _ _).alloc (Nat.le_refl _) _⟩
set_option maxHeartbeats 1000000 in
set_option maxRecDepth 100000 in
theorem seenH_ok (a : Option Addr) (k c : Nat) (pl : Option Addr) (n cl : Nat) (p : Option Addr) (tc : Nat) (t : List Ent) (W : World) (ht : t.length ≤ 80) (hL : Lies W p t) (hsn : ∀ X, Below W.heap.size W X → Calls Tryz.prog 12 #[.agg #[.slice a k c, .slice pl n cl]] X (NewPost 0 t X)) :
    TrueC 15 #[.agg #[.slice a k c, .slice pl n cl], .int .i64 0, .slice p t.length tc, .int .i64 0] W := by
  have hB : Below W.heap.size W (W.alloc (.cells #[.slice a k c, .slice pl n cl] 26)) := (Below.refl _ _).alloc (Nat.le_refl _) _
  have hsm := fun X p' c' (hB : Below W.heap.size W X) (hL' : Lies X p' t) => same_any t p' p c' tc X hL' (hL.kept hB) (by omega)
  obtain ⟨tn, htn⟩ : ∃ tn, tn = t.length := ⟨_, rfl⟩
  have HTN : Aside (tn = t.length) := htn
  rw [← htn] at hsm ⊢
  have HB : Aside _ := hB
  clear hB hL htn
  go_enter Tryz.func15, Tryz.ntmps15
  go_wp2_with (first
    | (go_at_call 12; refine (hsn _ HB.out).mono ?_; clear hsn; rintro r w1 ⟨p1, c1, rfl, hL1, hc1, hn1, hN1, hw1⟩; rw [← HTN.out]; have HB1 : Aside (Below W.heap.size W w1) := Below.onto HB.out hN1; have HL1 : Aside _ := hL1; clear hc1 hN1 hw1 hL1)
    | (go_at_call 24; refine (hsm _ p1 c1 HB1.out HL1.out).mono ?_; clear hsm; rintro r w2 ⟨rfl, hN2⟩))
  go_ret
  exact ⟨rfl, Below.onto HB1.out hN2⟩
/-- A box of a union. -/
theorem box_kept {W X : World} {A : Nat} {a b : Value} (h : (W.cell? ⟨A, 0, none⟩ = some a ∧ W.cell? ⟨A, 1, none⟩ = some b) ∧ (W.frozen? ⟨A, 0, none⟩ = false ∧ W.frozen? ⟨A, 1, none⟩ = false)) (hB : Below W.heap.size W X) :
    (X.cell? ⟨A, 0, none⟩ = some a ∧ X.cell? ⟨A, 1, none⟩ = some b) ∧ (X.frozen? ⟨A, 0, none⟩ = false ∧ X.frozen? ⟨A, 1, none⟩ = false) := by
  have hl := block_lt_of_cell h.1.1
  exact ⟨⟨(hB.cell (p := ⟨A, 0, none⟩) hl).trans h.1.1, (hB.cell (p := ⟨A, 1, none⟩) hl).trans h.1.2⟩, (hB.frozen (p := ⟨A, 0, none⟩) hl).trans h.2.1, (hB.frozen (p := ⟨A, 1, none⟩) hl).trans h.2.2⟩
theorem box_set {W : World} {A : Nat} {a b : Value} (h : (W.cell? ⟨A, 0, none⟩ = some a ∧ W.cell? ⟨A, 1, none⟩ = some b) ∧ (W.frozen? ⟨A, 0, none⟩ = false ∧ W.frozen? ⟨A, 1, none⟩ = false)) (a' b' : Value) :
    (((W.setCell ⟨A, 0, none⟩ a').setCell ⟨A, 1, none⟩ b').cell? ⟨A, 0, none⟩ = some a' ∧ ((W.setCell ⟨A, 0, none⟩ a').setCell ⟨A, 1, none⟩ b').cell? ⟨A, 1, none⟩ = some b') ∧ (((W.setCell ⟨A, 0, none⟩ a').setCell ⟨A, 1, none⟩ b').frozen? ⟨A, 0, none⟩ = false ∧ ((W.setCell ⟨A, 0, none⟩ a').setCell ⟨A, 1, none⟩ b').frozen? ⟨A, 1, none⟩ = false) := by
  refine ⟨res_set a' b' h.1.1 h.1.2, ?_, ?_⟩
  · rw [World.frozen?_setCell, World.frozen?_setCell]; exact h.2.1
  · rw [World.frozen?_setCell, World.frozen?_setCell]; exact h.2.2
abbrev BoxAt (W : World) (A : Nat) (a b : Value) : Prop := (W.cell? ⟨A, 0, none⟩ = some a ∧ W.cell? ⟨A, 1, none⟩ = some b) ∧ (W.frozen? ⟨A, 0, none⟩ = false ∧ W.frozen? ⟨A, 1, none⟩ = false)
abbrev SnC (w : World) (uv : Value) (er : Int) (sl : List Ent) : Prop := ∀ W, Below w.heap.size w W → Calls Tryz.prog 12 #[uv] W (NewPost er sl W)
abbrev UnC (w : World) (f : Nat) (args : Array Value) (x : Int) (up : List Ent) (lo : List (List Ent)) : Prop := ∀ W, Below w.heap.size w W → Calls Tryz.prog f args W (UnPost x up lo W)
abbrev TrC (w : World) (f : Nat) (sl : List Ent) (args : Array Value) (v : Int) (P : List Ent → Prop) : Prop := ∀ W p c, Below w.heap.size w W → Lies W p sl → sl.length ≤ c → (p = none → c = 0) → Calls Tryz.prog f (#[.slice p sl.length c] ++ args) W fun r w' => ∃ t, P t ∧ TreePost v t W r w'
abbrev ShC (w : World) (x v : Int) (up : List Ent) (lo : List (List Ent)) (P : List Ent → Prop) : Prop := ∀ W y lo' pl cl p c t, Below w.heap.size w W → UnOK W y lo' pl cl → y.es = up → lo'.map (·.es) = lo → P t → Lies W p t → TrueC 15 #[.agg #[.slice y.ad y.es.length y.cap, .slice pl lo'.length cl], .int .i64 x, .slice p t.length c, .int .i64 v] W
theorem ue_kept {w W0 X : World} {va vb : Value} {e : Ent} (h : (W0.cell? ⟨w.heap.size, 0, none⟩ = some va ∧ W0.cell? ⟨w.heap.size, 1, none⟩ = some vb) ∧ (W0.cell? ⟨w.heap.size + 1, 0, none⟩ = some (.string e.path) ∧ W0.cell? ⟨w.heap.size + 1, 1, none⟩ = some (.int .i64 e.kind) ∧ W0.cell? ⟨w.heap.size + 1, 2, none⟩ = some (.string e.text) ∧ W0.cell? ⟨w.heap.size + 1, 3, none⟩ = some (.bool e.opq))) (hs : W0.heap.size = w.heap.size + 2) (hB : Below W0.heap.size W0 X) :
    (X.cell? ⟨w.heap.size, 0, none⟩ = some va ∧ X.cell? ⟨w.heap.size, 1, none⟩ = some vb) ∧ (X.cell? ⟨w.heap.size + 1, 0, none⟩ = some (.string e.path) ∧ X.cell? ⟨w.heap.size + 1, 1, none⟩ = some (.int .i64 e.kind) ∧ X.cell? ⟨w.heap.size + 1, 2, none⟩ = some (.string e.text) ∧ X.cell? ⟨w.heap.size + 1, 3, none⟩ = some (.bool e.opq)) := by
  obtain ⟨⟨h1, h2⟩, h3, h4, h5, h6⟩ := h
  exact ⟨⟨(hB.cell (p := ⟨w.heap.size, 0, none⟩) (by simp only; omega)).trans h1, (hB.cell (p := ⟨w.heap.size, 1, none⟩) (by simp only; omega)).trans h2⟩, (hB.cell (p := ⟨w.heap.size + 1, 0, none⟩) (by simp only; omega)).trans h3, (hB.cell (p := ⟨w.heap.size + 1, 1, none⟩) (by simp only; omega)).trans h4, (hB.cell (p := ⟨w.heap.size + 1, 2, none⟩) (by simp only; omega)).trans h5, (hB.cell (p := ⟨w.heap.size + 1, 3, none⟩) (by simp only; omega)).trans h6⟩
set_option maxHeartbeats 8000000 in
set_option maxRecDepth 100000 in
theorem useen_walk (w : World) (a : Option Addr) (k c : Nat) (pl : Option Addr) (n cl : Nat) (e : Ent) (frm to : ByteArray) (sl : List Ent) (x1 v1 x2 v2 x3 v3 : Int) (up1 up2 up3 : List Ent) (lo1 lo2 lo3 : List (List Ent)) (P1 P2 P3 : List Ent → Prop)
    (hal : TrueC 11 #[] w) (hal' : ∀ W, Below w.heap.size w W → TrueC 11 #[] W) (hsn : SnC w (.agg #[.slice a k c, .slice pl n cl]) 0 sl)
    (hpu : UnC w 13 #[.agg #[.slice a k c, .slice pl n cl], .agg #[.string e.path, .int .i64 e.kind, .string e.text, .bool e.opq]] x1 up1 lo1) (htp : TrC w 14 sl #[.agg #[.string e.path, .int .i64 e.kind, .string e.text, .bool e.opq]] v1 P1) (hs1 : ShC w x1 v1 up1 lo1 P1)
    (hru : UnC w 16 #[.agg #[.slice a k c, .slice pl n cl], .string frm] x2 up2 lo2) (htr : TrC w 17 sl #[.string frm] v2 P2) (hs2 : ShC w x2 v2 up2 lo2 P2)
    (hmu : UnC w 18 #[.agg #[.slice a k c, .slice pl n cl], .string frm, .string to] x3 up3 lo3) (htm : TrC w 19 sl #[.string frm, .string to] v3 P3) (hs3 : ShC w x3 v3 up3 lo3 P3) :
    TrueC 3 #[.agg #[.slice a k c, .slice pl n cl], .agg #[.string e.path, .int .i64 e.kind, .string e.text, .bool e.opq], .string frm, .string to] w := by
  obtain ⟨W0, hW0⟩ : ∃ W0, ((w.alloc (.cells #[.slice a k c, .slice pl n cl] 26)).alloc (.cells #[.string e.path, .int .i64 e.kind, .string e.text, .bool e.opq] 28)) = W0 := ⟨_, rfl⟩
  have hBw : Below w.heap.size w W0 := by rw [← hW0]; exact ((Below.refl _ _).alloc (Nat.le_refl _) _).alloc (by simp) _
  have hu := (box2 (w := w) (hW0 ▸ Below.refl (w.heap.size + 2) ((w.alloc (.cells #[.slice a k c, .slice pl n cl] 26)).alloc (.cells #[.string e.path, .int .i64 e.kind, .string e.text, .bool e.opq] 28)) : Below (w.heap.size + 2) ((w.alloc (.cells #[.slice a k c, .slice pl n cl] 26)).alloc (.cells #[.string e.path, .int .i64 e.kind, .string e.text, .bool e.opq] 28)) W0)).1
  have hee := (new4 (w := w.alloc (.cells #[.slice a k c, .slice pl n cl] 26)) (B := w.heap.size + 2) (by simp) (hW0 ▸ Below.refl (w.heap.size + 2) ((w.alloc (.cells #[.slice a k c, .slice pl n cl] 26)).alloc (.cells #[.string e.path, .int .i64 e.kind, .string e.text, .bool e.opq] 28)) : Below (w.heap.size + 2) ((w.alloc (.cells #[.slice a k c, .slice pl n cl] 26)).alloc (.cells #[.string e.path, .int .i64 e.kind, .string e.text, .bool e.opq] 28)) W0)).1
  simp only [World.size_alloc] at hee
  have HW0 : Aside (((w.alloc (.cells #[.slice a k c, .slice pl n cl] 26)).alloc (.cells #[.string e.path, .int .i64 e.kind, .string e.text, .bool e.opq] 28)) = W0) := hW0
  have HBW : Aside (Below w.heap.size w W0) := hBw
  have HUE : Aside (((W0.cell? ⟨w.heap.size, 0, none⟩ = some (.slice a k c) ∧ W0.cell? ⟨w.heap.size, 1, none⟩ = some (.slice pl n cl))) ∧ (W0.cell? ⟨w.heap.size + 1, 0, none⟩ = some (.string e.path) ∧ W0.cell? ⟨w.heap.size + 1, 1, none⟩ = some (.int .i64 e.kind) ∧ W0.cell? ⟨w.heap.size + 1, 2, none⟩ = some (.string e.text) ∧ W0.cell? ⟨w.heap.size + 1, 3, none⟩ = some (.bool e.opq))) := ⟨hu, hee⟩
  have hs0 : W0.heap.size = w.heap.size + 2 := by rw [← hW0]; simp
  obtain ⟨sn, hsn'⟩ : ∃ sn, sn = sl.length := ⟨_, rfl⟩
  have HSN : Aside (sn = sl.length) := hsn'
  clear hu hee hBw hW0 hsn' hal
  go_enter Tryz.func3, Tryz.ntmps3
  go_wp2_with (first
    | (go_at_call 11; rw [HW0.out]; refine (hal' _ HBW.out).mono ?_; clear hal'; rintro r w1 ⟨rfl, hN1⟩; have HB1 : Aside (Below W0.heap.size W0 w1) := hN1; obtain ⟨⟨u0, u1⟩, ⟨e0, e1, e2, e3⟩⟩ := ue_kept HUE.out hs0 hN1; clear hN1)
    | (go_at_call 12; refine (hsn _ (Below.onto HBW.out HB1.out)).mono ?_; clear hsn; rintro r w2 ⟨p2, c2, rfl, hL2, hc2, hn2, hN2, hw2⟩; rw [← HSN.out] at hc2 ⊢; have HB2 : Aside (Below W0.heap.size W0 w2) := Below.onto HB1.out hN2; have HL2 : Aside (Lies w2 p2 sl) := hL2; clear u0 u1 e0 e1 e2 e3; obtain ⟨⟨u0, u1⟩, ⟨e0, e1, e2, e3⟩⟩ := ue_kept HUE.out hs0 HB2.out; clear hL2 hN2 hw2)
    | (go_at_call 13; refine (hpu _ (Below.onto HBW.out HB2.out)).mono ?_; clear hpu; rintro r w3 ⟨y3, l3, pl3, cl3, rfl, h31, h32, hok3, hN3, hnw3⟩; have HB3 : Aside (Below W0.heap.size W0 w3) := Below.onto HB2.out hN3; have HL3 : Aside (Lies w3 p2 sl) := HL2.out.kept hN3; have HU3 : Aside (y3.es = up1 ∧ l3.map (·.es) = lo1 ∧ UnOK w3 y3 l3 pl3 cl3) := ⟨h31, h32, hok3⟩; clear u0 u1 e0 e1 e2 e3; obtain ⟨⟨u0, u1⟩, ⟨e0, e1, e2, e3⟩⟩ := ue_kept HUE.out hs0 HB3.out; have hl3 := HB3.out.size; have hne3 : w.heap.size ≠ w3.heap.size := (by omega); have hne3' : w.heap.size + 1 ≠ w3.heap.size := (by omega); clear h31 h32 hok3 hN3 hnw3 HL2; obtain ⟨k3, hk3⟩ : ∃ k3, k3 = y3.es.length := ⟨_, rfl⟩; obtain ⟨n3, hn3⟩ : ∃ n3, n3 = l3.length := ⟨_, rfl⟩; have HK3 : Aside (k3 = y3.es.length ∧ n3 = l3.length) := ⟨hk3, hn3⟩; rw [← hk3, ← hn3]; clear hk3 hn3; have E0 := Lib.cell?_alloc_some (.cells #[.slice y3.ad k3 y3.cap, .slice pl3 n3 cl3] 26) e0; have E1 := Lib.cell?_alloc_some (.cells #[.slice y3.ad k3 y3.cap, .slice pl3 n3 cl3] 26) e1; have E2 := Lib.cell?_alloc_some (.cells #[.slice y3.ad k3 y3.cap, .slice pl3 n3 cl3] 26) e2; have E3 := Lib.cell?_alloc_some (.cells #[.slice y3.ad k3 y3.cap, .slice pl3 n3 cl3] 26) e3)
    | (go_at_call 14; refine (by_eq (htp (w3.alloc (.cells #[.slice y3.ad k3 y3.cap, .slice pl3 n3 cl3] 26)) p2 c2 (Below.onto HBW.out (Below.onto HB3.out ((Grown.refl _).alloc _).below)) (HL3.out.grown ((Grown.refl _).alloc _)) (by rw [← HSN.out]; exact hc2) hn2) (by rw [← HSN.out]; rfl)).mono ?_; clear htp; rintro r w4 ⟨t4, hP4, ⟨p4, c4, rfl, hL4, hc4, hn4, hN4⟩⟩; have HBA : Aside (BoxAt w4 w3.heap.size (.slice y3.ad k3 y3.cap) (.slice pl3 n3 cl3)) := new2 (Nat.lt_succ_self _) (hN4.mono (Nat.le_of_eq (World.size_alloc w3 _).symm)); obtain ⟨⟨b0, b1⟩, ⟨f0, f1⟩⟩ := HBA.out; have HB4 : Aside (Below w3.heap.size w3 w4) := base1 (hN4.mono (Nat.le_of_eq (World.size_alloc w3 _).symm)); have HT4 : Aside (P1 t4 ∧ Lies w4 p4 t4) := ⟨hP4, hL4⟩; clear hP4 hL4 hc4 hn4 hN4)
    | (go_at_call 15; refine (by_eq (hs1 w4 y3 l3 pl3 cl3 p4 c4 t4 (Below.onto HBW.out (Below.onto HB3.out HB4.out)) (HU3.out.2.2.kept HB4.out) HU3.out.1 HU3.out.2.1 HT4.out.1 HT4.out.2) (by rw [HK3.out.1, HK3.out.2])).mono ?_; clear hs1; rintro r w5 ⟨rfl, hN5⟩; have HB5 : Aside (Below w3.heap.size w3 w5) := Below.onto HB4.out hN5; have HBX : Aside (BoxAt w5 w3.heap.size (.slice y3.ad k3 y3.cap) (.slice pl3 n3 cl3)) := box_kept HBA.out hN5; clear u0 u1 e0 e1 e2 e3 b0 b1 f0 f1; obtain ⟨⟨u0, u1⟩, ⟨e0, e1, e2, e3⟩⟩ := ue_kept HUE.out hs0 (Below.onto HB3.out HB5.out); clear hN5 HT4 HBA HB4)
    | (go_at_call 16; refine (hru _ (Below.onto HBW.out (Below.onto HB3.out HB5.out))).mono ?_; clear hru; rintro r w6 ⟨y6, l6, pl6, cl6, rfl, h61, h62, hok6, hN6, hnw6⟩; obtain ⟨k6, hk6⟩ : ∃ k6, k6 = y6.es.length := ⟨_, rfl⟩; obtain ⟨n6, hn6⟩ : ∃ n6, n6 = l6.length := ⟨_, rfl⟩; rw [← hk6, ← hn6]; have hlA := block_lt_of_cell HBX.out.1.1; simp only at hlA; have HB6 : Aside (Below w3.heap.size w3 ((w6.setCell ⟨w3.heap.size, 0, none⟩ (.slice y6.ad k6 y6.cap)).setCell ⟨w3.heap.size, 1, none⟩ (.slice pl6 n6 cl6))) := ((Below.onto HB5.out hN6).setCell (p := ⟨w3.heap.size, 0, none⟩) (Nat.le_refl _) _).setCell (p := ⟨w3.heap.size, 1, none⟩) (Nat.le_refl _) _; have HBY : Aside (BoxAt ((w6.setCell ⟨w3.heap.size, 0, none⟩ (.slice y6.ad k6 y6.cap)).setCell ⟨w3.heap.size, 1, none⟩ (.slice pl6 n6 cl6)) w3.heap.size (.slice y6.ad k6 y6.cap) (.slice pl6 n6 cl6)) := box_set (box_kept HBX.out hN6) _ _; have HU6 : Aside (y6.es = up2 ∧ l6.map (·.es) = lo2 ∧ UnOK ((w6.setCell ⟨w3.heap.size, 0, none⟩ (.slice y6.ad k6 y6.cap)).setCell ⟨w3.heap.size, 1, none⟩ (.slice pl6 n6 cl6)) y6 l6 pl6 cl6) := ⟨h61, h62, (hok6.setFar hnw6 _ _ hlA).setFar hnw6 _ _ hlA⟩; have HK6 : Aside (k6 = y6.es.length ∧ n6 = l6.length) := ⟨hk6, hn6⟩; obtain ⟨⟨b0, b1⟩, ⟨f0, f1⟩⟩ := box_kept HBX.out hN6; clear h61 h62 hok6 hN6 hnw6 hk6 hn6 u0 u1 e0 e1 e2 e3)
    | (go_at_call 17; refine (by_eq (htr _ p2 c2 (Below.onto HBW.out (Below.onto HB3.out HB6.out)) (HL3.out.kept HB6.out) (by rw [← HSN.out]; exact hc2) hn2) (by rw [← HSN.out]; rfl)).mono ?_; clear htr; rintro r w7 ⟨t7, hP7, ⟨p7, c7, rfl, hL7, hc7, hn7, hN7⟩⟩; have HBZ : Aside (BoxAt w7 w3.heap.size (.slice y6.ad k6 y6.cap) (.slice pl6 n6 cl6)) := box_kept HBY.out hN7; have HT7 : Aside (P2 t7 ∧ Lies w7 p7 t7) := ⟨hP7, hL7⟩; have HU7 : Aside (UnOK w7 y6 l6 pl6 cl6) := HU6.out.2.2.kept hN7; have HB7 : Aside (Below w3.heap.size w3 w7) := Below.onto HB6.out hN7; clear b0 b1 f0 f1; obtain ⟨⟨b0, b1⟩, ⟨f0, f1⟩⟩ := HBZ.out; clear hP7 hL7 hc7 hn7 hN7)
    | (go_at_call 15; refine (by_eq (hs2 w7 y6 l6 pl6 cl6 p7 c7 t7 (Below.onto HBW.out (Below.onto HB3.out HB7.out)) HU7.out HU6.out.1 HU6.out.2.1 HT7.out.1 HT7.out.2) (by rw [HK6.out.1, HK6.out.2])).mono ?_; clear hs2; rintro r w8 ⟨rfl, hN8⟩; have HB8 : Aside (Below w3.heap.size w3 w8) := Below.onto HB7.out hN8; have HBQ : Aside (BoxAt w8 w3.heap.size (.slice y6.ad k6 y6.cap) (.slice pl6 n6 cl6)) := box_kept HBZ.out hN8; clear b0 b1 f0 f1; obtain ⟨⟨u0, u1⟩, ⟨e0, e1, e2, e3⟩⟩ := ue_kept HUE.out hs0 (Below.onto HB3.out HB8.out); clear hN8 HT7)
    | (go_at_call 18; refine (hmu _ (Below.onto HBW.out (Below.onto HB3.out HB8.out))).mono ?_; clear hmu; rintro r w9 ⟨y9, l9, pl9, cl9, rfl, h91, h92, hok9, hN9, hnw9⟩; obtain ⟨k9, hk9⟩ : ∃ k9, k9 = y9.es.length := ⟨_, rfl⟩; obtain ⟨n9, hn9⟩ : ∃ n9, n9 = l9.length := ⟨_, rfl⟩; rw [← hk9, ← hn9]; have hlA := block_lt_of_cell HBQ.out.1.1; simp only at hlA; have HB9 : Aside (Below w3.heap.size w3 ((w9.setCell ⟨w3.heap.size, 0, none⟩ (.slice y9.ad k9 y9.cap)).setCell ⟨w3.heap.size, 1, none⟩ (.slice pl9 n9 cl9))) := ((Below.onto HB8.out hN9).setCell (p := ⟨w3.heap.size, 0, none⟩) (Nat.le_refl _) _).setCell (p := ⟨w3.heap.size, 1, none⟩) (Nat.le_refl _) _; have HBR : Aside (BoxAt ((w9.setCell ⟨w3.heap.size, 0, none⟩ (.slice y9.ad k9 y9.cap)).setCell ⟨w3.heap.size, 1, none⟩ (.slice pl9 n9 cl9)) w3.heap.size (.slice y9.ad k9 y9.cap) (.slice pl9 n9 cl9)) := box_set (box_kept HBQ.out hN9) _ _; have HU9 : Aside (y9.es = up3 ∧ l9.map (·.es) = lo3 ∧ UnOK ((w9.setCell ⟨w3.heap.size, 0, none⟩ (.slice y9.ad k9 y9.cap)).setCell ⟨w3.heap.size, 1, none⟩ (.slice pl9 n9 cl9)) y9 l9 pl9 cl9) := ⟨h91, h92, (hok9.setFar hnw9 _ _ hlA).setFar hnw9 _ _ hlA⟩; have HK9 : Aside (k9 = y9.es.length ∧ n9 = l9.length) := ⟨hk9, hn9⟩; obtain ⟨⟨b0, b1⟩, ⟨f0, f1⟩⟩ := box_kept HBQ.out hN9; clear h91 h92 hok9 hN9 hnw9 hk9 hn9 u0 u1 e0 e1 e2 e3)
    | (go_at_call 19; refine (by_eq (htm _ p2 c2 (Below.onto HBW.out (Below.onto HB3.out HB9.out)) (HL3.out.kept HB9.out) (by rw [← HSN.out]; exact hc2) hn2) (by rw [← HSN.out]; rfl)).mono ?_; clear htm; rintro r wa ⟨ta, hPa, ⟨pa, ca, rfl, hLa, hca, hna, hNa⟩⟩; have HBS : Aside (BoxAt wa w3.heap.size (.slice y9.ad k9 y9.cap) (.slice pl9 n9 cl9)) := box_kept HBR.out hNa; have HTa : Aside (P3 ta ∧ Lies wa pa ta) := ⟨hPa, hLa⟩; have HUa : Aside (UnOK wa y9 l9 pl9 cl9) := HU9.out.2.2.kept hNa; have HBa : Aside (Below w3.heap.size w3 wa) := Below.onto HB9.out hNa; clear b0 b1 f0 f1; obtain ⟨⟨b0, b1⟩, ⟨f0, f1⟩⟩ := HBS.out; clear hPa hLa hca hna hNa)
    | (go_at_call 15; refine (by_eq (hs3 wa y9 l9 pl9 cl9 pa ca ta (Below.onto HBW.out (Below.onto HB3.out HBa.out)) HUa.out HU9.out.1 HU9.out.2.1 HTa.out.1 HTa.out.2) (by rw [HK9.out.1, HK9.out.2])).mono ?_; clear hs3; rintro r wb ⟨rfl, hNb⟩; have HBb : Aside (Below w3.heap.size w3 wb) := Below.onto HBa.out hNb))
  go_ret
  exact ⟨rfl, Below.onto HBW.out (Below.onto HB3.out HBb.out)⟩
end Go.Proofs.YtampldoimpfjgabGreatDoor
namespace Go.Proofs.YtampldoimpfjgabGreatDoor
open Go.RowKit PM Go.Sort
set_option linter.unusedVariables false

theorem union_right {ls : List (List Ent)} {t : List Ent} (hl : ls.length ≤ 5) (h : mergeF ls = (0, t)) : wrongU ls = (0, 0) ∧ seenU ls = t := by
  have h1 : (mergeF ls).1 = 0 := by rw [h]
  have h0 : (wrongU ls).1 = 0 := wrongU_zero.2 ⟨hl, h1, mergeF_layers h1⟩
  refine ⟨?_, by rw [seenU, if_pos h0, h]⟩
  unfold wrongU
  rw [if_neg (by omega), if_pos ((badFrom_zero ls 0).2 (mergeF_layers h1)), h1]
theorem chg_err {we ae : Int} {n : Nat} (h : we = 0) (h0 : ¬ chgErr we ae n = 0) : chgErr we ae n = 5 ∨ chgErr we ae n = ae := by
  unfold chgErr at h0 ⊢
  rw [if_pos h] at h0 ⊢
  by_cases h1 : ae = 0
  · rw [if_pos h1] at h0 ⊢
    by_cases h2 : 80 < n
    · rw [if_pos h2]; exact .inl rfl
    · rw [if_neg h2] at h0; exact absurd rfl h0
  · rw [if_neg h1]; exact .inr rfl
/-- What is seen of a union in memory. -/
theorem seen_any (y : Lay) (lo : List Lay) (m : Int) (pl : Option Addr) (cl : Nat) (W : World) (hU : UnOK W y lo pl cl) (hm : W.cell? ⟨0, 0, none⟩ = some (.int .i64 m)) :
    Calls Tryz.prog 12 #[.agg #[.slice y.ad y.es.length y.cap, .slice pl lo.length cl]] W (NewPost (wrongU (y.es :: lo.map (·.es))).1 (seenU (y.es :: lo.map (·.es))) W) :=
  unionSeen_of W y.ad y.es.length y.cap pl lo.length cl _ _ _ (fun X hX => by
    have h := hU.kept hX
    exact merged_any y lo m pl cl X h.lies h.all h.nil (held hX hm))
/-- One change: what is seen behind it is what the tree says. -/
theorem show_any (m : Int) (w : World) (hm : w.cell? ⟨0, 0, none⟩ = some (.int .i64 m)) (we ae : Int) (n : Nat) (hwe : we = 0) (own' : List Ent) (hn : n = own'.length) (lows : List (List Ent)) (P : List Ent → Prop)
    (h : ae = 0 → own'.length ≤ 80 → ∀ t, P t → lows.length ≤ 4 ∧ Right false t ∧ mergeF (own' :: lows) = (0, t)) :
    ShC w (chgErr we ae n) ae (if chgErr we ae n = 0 then own' else []) (if chgErr we ae n = 0 then lows else []) P := by
  intro W y lo pl cl p c t hB hU h1 h2 hP hL
  by_cases h0 : chgErr we ae n = 0
  · rw [if_pos h0] at h1 h2
    obtain ⟨_, ha, hl⟩ := chgErr_zero.1 h0
    obtain ⟨hlo, hr, hmg⟩ := h ha (by omega) t hP
    obtain ⟨e1, e2⟩ := union_right (by rw [List.length_cons]; omega) hmg
    rw [h0, ha]
    refine seenH_ok _ _ _ _ _ _ p c t W hr.len hL (fun X hX => ?_)
    have := seen_any y lo m pl cl X (hU.kept hX) (held (Below.onto hB hX) hm)
    rw [h1, h2, e1, e2] at this
    rw [h1]
    exact this
  · exact seenH_err _ _ _ _ _ _ p _ c _ _ W h0 (chg_err hwe h0)
set_option maxHeartbeats 1000000 in
set_option maxRecDepth 100000 in
theorem useen_err (w : World) (a : Option Addr) (k c : Nat) (pl : Option Addr) (n cl : Nat) (e : Ent) (frm to : ByteArray) (er : Int) (he : ¬ er = 0)
    (hal : ∀ W, Below w.heap.size w W → TrueC 11 #[] W) (hsn : SnC w (.agg #[.slice a k c, .slice pl n cl]) er []) :
    TrueC 3 #[.agg #[.slice a k c, .slice pl n cl], .agg #[.string e.path, .int .i64 e.kind, .string e.text, .bool e.opq], .string frm, .string to] w := by
  obtain ⟨W0, hW0⟩ : ∃ W0, ((w.alloc (.cells #[.slice a k c, .slice pl n cl] 26)).alloc (.cells #[.string e.path, .int .i64 e.kind, .string e.text, .bool e.opq] 28)) = W0 := ⟨_, rfl⟩
  have hBw : Below w.heap.size w W0 := by rw [← hW0]; exact ((Below.refl _ _).alloc (Nat.le_refl _) _).alloc (by simp) _
  have hu := (box2 (w := w) (hW0 ▸ Below.refl (w.heap.size + 2) ((w.alloc (.cells #[.slice a k c, .slice pl n cl] 26)).alloc (.cells #[.string e.path, .int .i64 e.kind, .string e.text, .bool e.opq] 28)) : Below (w.heap.size + 2) ((w.alloc (.cells #[.slice a k c, .slice pl n cl] 26)).alloc (.cells #[.string e.path, .int .i64 e.kind, .string e.text, .bool e.opq] 28)) W0))
  have HW0 : Aside (((w.alloc (.cells #[.slice a k c, .slice pl n cl] 26)).alloc (.cells #[.string e.path, .int .i64 e.kind, .string e.text, .bool e.opq] 28)) = W0) := hW0
  have HBW : Aside (Below w.heap.size w W0) := hBw
  have HU : Aside _ := hu
  clear hBw hW0 hu
  go_enter Tryz.func3, Tryz.ntmps3
  go_wp2_with (first
    | (go_at_call 11; rw [HW0.out]; refine (hal _ HBW.out).mono ?_; clear hal; rintro r w1 ⟨rfl, hN1⟩; have HB1 : Aside (Below W0.heap.size W0 w1) := hN1; obtain ⟨⟨u0, u1⟩, _⟩ := box_kept HU.out hN1; clear hN1)
    | (go_at_call 12; refine (hsn _ (Below.onto HBW.out HB1.out)).mono ?_; clear hsn; rintro r w2 ⟨p2, c2, rfl, hL2, hc2, hn2, hN2, hw2⟩; have HB2 : Aside (Below W0.heap.size W0 w2) := Below.onto HB1.out hN2; clear hL2 hN2 hw2))
  go_ret
  exact ⟨rfl, Below.onto HBW.out HB2.out⟩
theorem unionSeen_law (y : Lay) (ls : List Lay) (m : Int) (pl : Option Addr) (cl : Nat) (e : Ent) (frm to : ByteArray) (w : World) (hUn : UnOK w y ls pl cl) (he : e.path.size ≤ maxLen) (he62 : e.path.size < 4611686018427387904) (het : e.text.size ≤ maxLen) (hf : frm.size ≤ maxLen) (ht : to.size ≤ maxLen)
    (hm : w.cell? ⟨0, 0, none⟩ = some (.int .i64 m)) :
    TrueC 3 #[.agg #[.slice y.ad y.es.length y.cap, .slice pl ls.length cl], .agg #[.string e.path, .int .i64 e.kind, .string e.text, .bool e.opq], .string frm, .string to] w := by
  have hal : ∀ W, Below w.heap.size w W → TrueC 11 #[] W := fun W hB => unionAlive_any m W (held hB hm)
  have hsn : SnC w (.agg #[.slice y.ad y.es.length y.cap, .slice pl ls.length cl]) (wrongU (y.es :: ls.map (·.es))).1 (seenU (y.es :: ls.map (·.es))) := fun W hB => seen_any y ls m pl cl W (hUn.kept hB) (held hB hm)
  by_cases h0 : (wrongU (y.es :: ls.map (·.es))).1 = 0
  · obtain ⟨hl5, hz, hr⟩ := wrongU_zero.1 h0
    rw [List.length_cons, List.length_map] at hl5
    have hs : seenU (y.es :: ls.map (·.es)) = (mergeF (y.es :: ls.map (·.es))).2 := by rw [seenU, if_pos h0]
    have hmg : mergeF (y.es :: ls.map (·.es)) = (0, seenU (y.es :: ls.map (·.es))) := by rw [hs]; exact Prod.ext hz rfl
    have hsr := seenU_right (y.es :: ls.map (·.es))
    have hsF := right_fitsL hsr
    have hs80 := hsr.len
    have hll : (ls.map (·.es)).length ≤ 4 := by rw [List.length_map]; omega
    have hpu : UnC w 13 #[.agg #[.slice y.ad y.es.length y.cap, .slice pl ls.length cl], .agg #[.string e.path, .int .i64 e.kind, .string e.text, .bool e.opq]] _ _ _ := fun W hB => unionPut_any y ls m pl cl e he he62 het W (hUn.kept hB) (held hB hm)
    have hru : UnC w 16 #[.agg #[.slice y.ad y.es.length y.cap, .slice pl ls.length cl], .string frm] _ _ _ := fun W hB => unionRemove_any y ls m pl cl frm hf W (hUn.kept hB) (held hB hm)
    have hmu : UnC w 18 #[.agg #[.slice y.ad y.es.length y.cap, .slice pl ls.length cl], .string frm, .string to] _ _ _ := fun W hB => unionMove_any y ls m pl cl frm to hf ht W (hUn.kept hB) (held hB hm)
    rw [h0] at hsn
    refine useen_walk w y.ad y.es.length y.cap pl ls.length cl e frm to (seenU (y.es :: ls.map (·.es))) _ (putErr (seenU (y.es :: ls.map (·.es))) e) _ (remErr (seenU (y.es :: ls.map (·.es))) frm.data.toList) _ (moveErr (seenU (y.es :: ls.map (·.es))) frm to) _ _ _ _ _ _
      (fun t => t = if putErr (seenU (y.es :: ls.map (·.es))) e = 0 then putL (seenU (y.es :: ls.map (·.es))) e else [])
      (fun t => t = if remErr (seenU (y.es :: ls.map (·.es))) frm.data.toList = 0 then remL (seenU (y.es :: ls.map (·.es))) frm.data.toList else [])
      (fun t => moveErr (seenU (y.es :: ls.map (·.es))) frm to = 0 → (frm.data.toList = to.data.toList → t = seenU (y.es :: ls.map (·.es))) ∧ (frm.data.toList ≠ to.data.toList → t.Perm (movedPre (seenU (y.es :: ls.map (·.es))) frm to) ∧ t.Pairwise fun a b => ¬ cmp b.p a.p < 0))
      (hal w (Below.refl _ _)) hal hsn hpu ?_ ?_ hru ?_ ?_ hmu ?_ ?_
    · intro W p c hB hL hc hn
      exact (put_any _ e m p c W hL hsF (by omega) hc hn he he62 het (held hB hm)).mono fun r w' h => ⟨_, rfl, h⟩
    · refine show_any m w hm _ _ _ h0 _ rfl _ _ (fun ha hl t hP => ?_)
      rw [if_pos ha] at hP
      subst hP
      exact ⟨hll, (put_okU ha).2.2, (put_union hmg ha).2 hl⟩
    · intro W p c hB hL hc hn
      exact (remove_any _ frm m p c W hL hsF (by omega) hc hn hf (held hB hm)).mono fun r w' h => ⟨_, rfl, h⟩
    · refine show_any m w hm _ _ _ h0 _ rfl _ _ (fun ha hl t hP => ?_)
      rw [if_pos ha] at hP
      subst hP
      obtain ⟨_, ⟨a, ha1, ha2⟩, hfr⟩ := remErr_zero ha
      exact ⟨hll, hsr.rem (by rw [← ha2]; exact hsr.ne ha1) hfr, (remove_union hmg ha).2 hl⟩
    · intro W p c hB hL hc hn
      refine (move_any _ frm to m p c W hL hsF (by omega) hc hn hf ht (held hB hm)).mono ?_
      rintro r w' ⟨l, hT, _, h2⟩
      exact ⟨l, h2, hT⟩
    · refine show_any m w hm _ _ _ h0 _ rfl _ _ (fun ha hl t hP => ?_)
      obtain ⟨p1, p2⟩ := hP ha
      by_cases hft : frm.data.toList = to.data.toList
      · rw [if_pos hft] at hl ⊢
        rw [p1 hft]
        exact ⟨hll, hsr, hmg⟩
      · rw [if_neg hft] at hl ⊢
        obtain ⟨q1, q2⟩ := p2 hft
        exact ⟨hll, (mvOK_of ha hft).rightL q1 q2, (move_union hmg ha hft).2 hl t q1 q2⟩
  · have hs : seenU (y.es :: ls.map (·.es)) = [] := by rw [seenU, if_neg h0]
    rw [hs] at hsn
    exact useen_err w _ _ _ _ _ _ e frm to _ h0 hal hsn
end Go.Proofs.YtampldoimpfjgabGreatDoor
namespace Go.Proofs.YtampldoimpfjgabGreatDoor
open Go.RowKit PM Go.Sort
set_option linter.unusedVariables false

theorem eqU (p t : ByteArray) (k : Int) (o : Bool) (w : World) : Sem.run Tryz.prog (binOp .eql 28 (.agg #[.string p, .int .i64 k, .string t, .bool o]) (.agg #[.string p, .int .i64 k, .string t, .bool o])) w = .ok (.bool true) w := by
  have u3 := Tryz.underlying3
  have a3 := Tryz.isAgg3
  have z3 := Tryz.sizeOf3
  have u9 := Tryz.underlying9
  have a9 := Tryz.isAgg9
  have z9 := Tryz.sizeOf9
  have u4 := Tryz.underlying4
  have a4 := Tryz.isAgg4
  have z4 := Tryz.sizeOf4
  have hS : Tryz.prog.underlying 28 = some (.struct (Tryz.prog.fieldsOf 28)) := by kernel_rfl
  have hp : Tryz.prog.stoodInHeld 28 = false := by kernel_rfl
  rw [run_eql_struct, show (10000 : Nat) = 9999 + 1 from rfl, run_equalIn_agg w 9999 28 _ _ hS hp]
  simp only [Program.fieldsOf, Tryz.underlying28]
  go_simp
theorem guardU (op : BinOp) (a b : Operand) (p t p' t' : ByteArray) (k k' : Int) (o o' : Bool) (w : World) : (eqGuard op 28 a b (.agg #[.string p, .int .i64 k, .string t, .bool o]) (.agg #[.string p', .int .i64 k', .string t', .bool o'])).run Tryz.prog w = .ok () w := guardE op a b ⟨p, k, t, o⟩ ⟨p', k', t', o'⟩ w
/-- The first layer that has something has what is seen. -/
theorem look_math : ∀ (all : List (List Ent)) (i : Nat) {q : List UInt8} {x : Ent}, (mergeF all).1 = 0 → q ≠ [] → getL (mergeF all).2 q = some x → ∃ k l z, idxFrom q i all = ((i + k : Nat) : Int) ∧ all[k]? = some l ∧ getL l q = some z ∧ clearE z = x
  | [], i, q, x, _, hq, hg => by
    have : getL [] q = none := getL_none_of hq (by simp)
    have hg' : getL [] q = some x := hg
    rw [this] at hg'; cases hg'
  | a :: r, i, q, x, h0, hq, hg => by
    obtain ⟨h1, h2, h3⟩ := mergeF_zero h0
    obtain ⟨g1, g2, _⟩ := overErr_zero.1 h2
    rw [h3, get_over g1.sorted g2.sorted hq] at hg
    unfold seeL at hg
    cases hga : getL a q with
    | some z =>
      rw [hga] at hg
      simp only at hg
      split at hg
      · cases hg
      · cases hg
        refine ⟨0, a, z, ?_, rfl, hga, rfl⟩
        rw [idxFrom, hga]; rfl
    | none =>
      rw [hga] at hg
      simp only at hg
      split at hg
      · cases hg
      · obtain ⟨k, l, z, e1, e2, e3, e4⟩ := look_math r (i + 1) h1 hq hg
        refine ⟨k + 1, l, z, ?_, by simpa using e2, e3, e4⟩
        rw [idxFrom, hga]
        simp only [Option.isSome_none, Bool.false_eq_true, if_false]
        rw [e1, show i + 1 + k = i + (k + 1) by omega]
abbrev LkC (w : World) (uv : Value) (q : ByteArray) (xp : ByteArray) (xk : Int) (xt : ByteArray) (xo : Bool) (ix er : Int) : Prop := ∀ W, Below w.heap.size w W → Calls Tryz.prog 22 #[uv, .string q] W fun r w' => r = .returned (.tuple #[.agg #[.string xp, .int .i64 xk, .string xt, .bool xo], .int .i64 ix, .int .i64 er]) ∧ Below W.heap.size W w'
abbrev GtC (w : World) (sl : List Ent) (q : ByteArray) (xp : ByteArray) (xk : Int) (xt : ByteArray) (xo : Bool) (b : Bool) : Prop := ∀ W p c, Below w.heap.size w W → Lies W p sl → Calls Tryz.prog 23 #[.slice p sl.length c, .string q] W fun r w' => r = .returned (.tuple #[.agg #[.string xp, .int .i64 xk, .string xt, .bool xo], .bool b]) ∧ Below W.heap.size W w'
set_option maxHeartbeats 2000000 in
set_option maxRecDepth 100000 in
theorem ulook_e1 (w : World) (a : Option Addr) (k c : Nat) (pl : Option Addr) (n cl : Nat) (q : ByteArray) (sl : List Ent) (xp : ByteArray) (xk : Int) (xt : ByteArray) (xo : Bool) (ix er wr : Int) (hal : ∀ W, Below w.heap.size w W → TrueC 11 #[] W) (hsn : SnC w (.agg #[.slice a k c, .slice pl n cl]) wr sl) (hlk : LkC w (.agg #[.slice a k c, .slice pl n cl]) q xp xk xt xo ix er) (h1 : er = wr) (h2 : ix = 0) (h0 : ¬ wr = 0) :
    TrueC 5 #[.agg #[.slice a k c, .slice pl n cl], .string q] w := by
  subst h1 h2
  have HB0 : Aside (Below (w.heap.size + 1) (w.alloc (.cells #[.slice a k c, .slice pl n cl] 26)) (w.alloc (.cells #[.slice a k c, .slice pl n cl] 26))) := Below.refl _ _
  obtain ⟨sn, hsn'⟩ : ∃ sn, sn = sl.length := ⟨_, rfl⟩
  have HSN : Aside (sn = sl.length) := hsn'
  clear hsn'
  go_enter Tryz.func5, Tryz.ntmps5
  go_wp2_with (first
    | (go_at_call 11; refine (hal _ (base1 HB0.out)).mono ?_; clear hal; rintro r w1 ⟨rfl, hN1⟩; have HB1 : Aside (Below (w.heap.size + 1) (w.alloc (.cells #[.slice a k c, .slice pl n cl] 26)) w1) := up1 HB0.out (hN1.mono (by simp)); obtain ⟨⟨u0, u1⟩, _⟩ := new2 (Nat.lt_succ_self _) HB1.out; clear hN1)
    | (go_at_call 12; refine (hsn _ (base1 HB1.out)).mono ?_; clear hsn; rintro r w2 ⟨p2, c2, rfl, hL2, hc2, hn2, hN2, hw2⟩; rw [← HSN.out] at hc2 ⊢; have HB2 : Aside (Below (w.heap.size + 1) (w.alloc (.cells #[.slice a k c, .slice pl n cl] 26)) w2) := up1 HB1.out hN2; have HL2 : Aside (Lies w2 p2 sl) := hL2; obtain ⟨⟨u2, u3⟩, _⟩ := new2 (Nat.lt_succ_self _) HB2.out; clear hL2 hN2 hw2)
    | (go_at_call 22; refine (hlk _ (base1 HB2.out)).mono ?_; clear hlk; rintro r w3 ⟨rfl, hN3⟩; have HB3 : Aside (Below (w.heap.size + 1) (w.alloc (.cells #[.slice a k c, .slice pl n cl] 26)) (w3.alloc (.cells #[.string xp, .int .i64 xk, .string xt, .bool xo] 28))) := upA (up1 HB2.out hN3); have HL3 : Aside (Lies (w3.alloc (.cells #[.string xp, .int .i64 xk, .string xt, .bool xo] 28)) p2 sl) := (HL2.out.kept hN3).grown ((Grown.refl _).alloc _); have HE3 : Aside (Below (w3.heap.size + 1) (w3.alloc (.cells #[.string xp, .int .i64 xk, .string xt, .bool xo] 28)) (w3.alloc (.cells #[.string xp, .int .i64 xk, .string xt, .bool xo] 28))) := Below.refl _ _; clear hN3))
  go_ret
  exact ⟨rfl, base1 HB3.out⟩
set_option maxHeartbeats 2000000 in
set_option maxRecDepth 100000 in
theorem ulook_e2 (w : World) (a : Option Addr) (k c : Nat) (pl : Option Addr) (n cl : Nat) (q : ByteArray) (sl : List Ent) (xp : ByteArray) (xk : Int) (xt : ByteArray) (xo : Bool) (ix er wr : Int) (hal : ∀ W, Below w.heap.size w W → TrueC 11 #[] W) (hsn : SnC w (.agg #[.slice a k c, .slice pl n cl]) wr sl) (hlk : LkC w (.agg #[.slice a k c, .slice pl n cl]) q xp xk xt xo ix er) (zp : ByteArray) (zk : Int) (zt : ByteArray) (zo : Bool) (zb : Bool) (hgt : GtC w sl q zp zk zt zo zb) (h0 : wr = 0) (h1 : ¬ er = 0) (h : (er = 7 ∧ q.data.toList = []) ∨ zb = false) :
    TrueC 5 #[.agg #[.slice a k c, .slice pl n cl], .string q] w := by
  subst h0
  have hgo4 : True := trivial
  have HB0 : Aside (Below (w.heap.size + 1) (w.alloc (.cells #[.slice a k c, .slice pl n cl] 26)) (w.alloc (.cells #[.slice a k c, .slice pl n cl] 26))) := Below.refl _ _
  obtain ⟨sn, hsn'⟩ : ∃ sn, sn = sl.length := ⟨_, rfl⟩
  have HSN : Aside (sn = sl.length) := hsn'
  clear hsn'
  rcases h with ⟨rfl, hq⟩ | rfl
  · have hq1 := empty_of hq
    clear h1 hq
    go_enter Tryz.func5, Tryz.ntmps5
    go_wp2_with (first
      | (go_at_call 11; refine (hal _ (base1 HB0.out)).mono ?_; clear hal; rintro r w1 ⟨rfl, hN1⟩; have HB1 : Aside (Below (w.heap.size + 1) (w.alloc (.cells #[.slice a k c, .slice pl n cl] 26)) w1) := up1 HB0.out (hN1.mono (by simp)); obtain ⟨⟨u0, u1⟩, _⟩ := new2 (Nat.lt_succ_self _) HB1.out; clear hN1)
      | (go_at_call 12; refine (hsn _ (base1 HB1.out)).mono ?_; clear hsn; rintro r w2 ⟨p2, c2, rfl, hL2, hc2, hn2, hN2, hw2⟩; rw [← HSN.out] at hc2 ⊢; have HB2 : Aside (Below (w.heap.size + 1) (w.alloc (.cells #[.slice a k c, .slice pl n cl] 26)) w2) := up1 HB1.out hN2; have HL2 : Aside (Lies w2 p2 sl) := hL2; obtain ⟨⟨u2, u3⟩, _⟩ := new2 (Nat.lt_succ_self _) HB2.out; clear hL2 hN2 hw2)
      | (go_at_call 22; refine (hlk _ (base1 HB2.out)).mono ?_; clear hlk; rintro r w3 ⟨rfl, hN3⟩; have HB3 : Aside (Below (w.heap.size + 1) (w.alloc (.cells #[.slice a k c, .slice pl n cl] 26)) (w3.alloc (.cells #[.string xp, .int .i64 xk, .string xt, .bool xo] 28))) := upA (up1 HB2.out hN3); have HL3 : Aside (Lies (w3.alloc (.cells #[.string xp, .int .i64 xk, .string xt, .bool xo] 28)) p2 sl) := (HL2.out.kept hN3).grown ((Grown.refl _).alloc _); have HE3 : Aside (Below (w3.heap.size + 1) (w3.alloc (.cells #[.string xp, .int .i64 xk, .string xt, .bool xo] 28)) (w3.alloc (.cells #[.string xp, .int .i64 xk, .string xt, .bool xo] 28))) := Below.refl _ _; clear hN3)
      | (go_at_call 23; clear hgo4; refine (by_eq (hgt _ p2 c2 (base1 HB3.out) HL3.out) (by rw [← HSN.out])).mono ?_; clear hgt; rintro r w4 ⟨rfl, hN4⟩; have HB4 : Aside (Below (w.heap.size + 1) (w.alloc (.cells #[.slice a k c, .slice pl n cl] 26)) w4) := up1 HB3.out hN4; have HE4 : Aside (Below (w3.heap.size + 1) (w3.alloc (.cells #[.string xp, .int .i64 xk, .string xt, .bool xo] 28)) w4) := HE3.out.trans (hN4.mono (by simp)); obtain ⟨⟨u4, u5⟩, _⟩ := new2 (Nat.lt_succ_self _) HB4.out; obtain ⟨⟨x0, x1, x2, x3⟩, _⟩ := new4 (Nat.lt_succ_self _) HE4.out; have hw4 := block_lt_of_cell u4; simp only at hw4; have hw4' : w.heap.size ≠ w4.heap.size := (by omega); have hy4 := block_lt_of_cell x0; simp only at hy4; have hy4' : w3.heap.size ≠ w4.heap.size := (by omega); clear hN4))
    go_ret
    exact ⟨rfl, base1 (upA HB4.out)⟩
  · by_cases h7 : er = 7
    · subst h7
      by_cases hq : q.data.toList = []
      · have hq1 := empty_of hq
        clear h1 hq
        go_enter Tryz.func5, Tryz.ntmps5
        go_wp2_with (first
          | (go_at_call 11; refine (hal _ (base1 HB0.out)).mono ?_; clear hal; rintro r w1 ⟨rfl, hN1⟩; have HB1 : Aside (Below (w.heap.size + 1) (w.alloc (.cells #[.slice a k c, .slice pl n cl] 26)) w1) := up1 HB0.out (hN1.mono (by simp)); obtain ⟨⟨u0, u1⟩, _⟩ := new2 (Nat.lt_succ_self _) HB1.out; clear hN1)
          | (go_at_call 12; refine (hsn _ (base1 HB1.out)).mono ?_; clear hsn; rintro r w2 ⟨p2, c2, rfl, hL2, hc2, hn2, hN2, hw2⟩; rw [← HSN.out] at hc2 ⊢; have HB2 : Aside (Below (w.heap.size + 1) (w.alloc (.cells #[.slice a k c, .slice pl n cl] 26)) w2) := up1 HB1.out hN2; have HL2 : Aside (Lies w2 p2 sl) := hL2; obtain ⟨⟨u2, u3⟩, _⟩ := new2 (Nat.lt_succ_self _) HB2.out; clear hL2 hN2 hw2)
          | (go_at_call 22; refine (hlk _ (base1 HB2.out)).mono ?_; clear hlk; rintro r w3 ⟨rfl, hN3⟩; have HB3 : Aside (Below (w.heap.size + 1) (w.alloc (.cells #[.slice a k c, .slice pl n cl] 26)) (w3.alloc (.cells #[.string xp, .int .i64 xk, .string xt, .bool xo] 28))) := upA (up1 HB2.out hN3); have HL3 : Aside (Lies (w3.alloc (.cells #[.string xp, .int .i64 xk, .string xt, .bool xo] 28)) p2 sl) := (HL2.out.kept hN3).grown ((Grown.refl _).alloc _); have HE3 : Aside (Below (w3.heap.size + 1) (w3.alloc (.cells #[.string xp, .int .i64 xk, .string xt, .bool xo] 28)) (w3.alloc (.cells #[.string xp, .int .i64 xk, .string xt, .bool xo] 28))) := Below.refl _ _; clear hN3)
          | (go_at_call 23; clear hgo4; refine (by_eq (hgt _ p2 c2 (base1 HB3.out) HL3.out) (by rw [← HSN.out])).mono ?_; clear hgt; rintro r w4 ⟨rfl, hN4⟩; have HB4 : Aside (Below (w.heap.size + 1) (w.alloc (.cells #[.slice a k c, .slice pl n cl] 26)) w4) := up1 HB3.out hN4; have HE4 : Aside (Below (w3.heap.size + 1) (w3.alloc (.cells #[.string xp, .int .i64 xk, .string xt, .bool xo] 28)) w4) := HE3.out.trans (hN4.mono (by simp)); obtain ⟨⟨u4, u5⟩, _⟩ := new2 (Nat.lt_succ_self _) HB4.out; obtain ⟨⟨x0, x1, x2, x3⟩, _⟩ := new4 (Nat.lt_succ_self _) HE4.out; have hw4 := block_lt_of_cell u4; simp only at hw4; have hw4' : w.heap.size ≠ w4.heap.size := (by omega); have hy4 := block_lt_of_cell x0; simp only at hy4; have hy4' : w3.heap.size ≠ w4.heap.size := (by omega); clear hN4))
        go_ret
        exact ⟨rfl, base1 (upA HB4.out)⟩
      · have hq1 := empty_not hq
        clear h1 hq
        go_enter Tryz.func5, Tryz.ntmps5
        go_wp2_with (first
          | (go_at_call 11; refine (hal _ (base1 HB0.out)).mono ?_; clear hal; rintro r w1 ⟨rfl, hN1⟩; have HB1 : Aside (Below (w.heap.size + 1) (w.alloc (.cells #[.slice a k c, .slice pl n cl] 26)) w1) := up1 HB0.out (hN1.mono (by simp)); obtain ⟨⟨u0, u1⟩, _⟩ := new2 (Nat.lt_succ_self _) HB1.out; clear hN1)
          | (go_at_call 12; refine (hsn _ (base1 HB1.out)).mono ?_; clear hsn; rintro r w2 ⟨p2, c2, rfl, hL2, hc2, hn2, hN2, hw2⟩; rw [← HSN.out] at hc2 ⊢; have HB2 : Aside (Below (w.heap.size + 1) (w.alloc (.cells #[.slice a k c, .slice pl n cl] 26)) w2) := up1 HB1.out hN2; have HL2 : Aside (Lies w2 p2 sl) := hL2; obtain ⟨⟨u2, u3⟩, _⟩ := new2 (Nat.lt_succ_self _) HB2.out; clear hL2 hN2 hw2)
          | (go_at_call 22; refine (hlk _ (base1 HB2.out)).mono ?_; clear hlk; rintro r w3 ⟨rfl, hN3⟩; have HB3 : Aside (Below (w.heap.size + 1) (w.alloc (.cells #[.slice a k c, .slice pl n cl] 26)) (w3.alloc (.cells #[.string xp, .int .i64 xk, .string xt, .bool xo] 28))) := upA (up1 HB2.out hN3); have HL3 : Aside (Lies (w3.alloc (.cells #[.string xp, .int .i64 xk, .string xt, .bool xo] 28)) p2 sl) := (HL2.out.kept hN3).grown ((Grown.refl _).alloc _); have HE3 : Aside (Below (w3.heap.size + 1) (w3.alloc (.cells #[.string xp, .int .i64 xk, .string xt, .bool xo] 28)) (w3.alloc (.cells #[.string xp, .int .i64 xk, .string xt, .bool xo] 28))) := Below.refl _ _; clear hN3)
          | (go_at_call 23; clear hgo4; refine (by_eq (hgt _ p2 c2 (base1 HB3.out) HL3.out) (by rw [← HSN.out])).mono ?_; clear hgt; rintro r w4 ⟨rfl, hN4⟩; have HB4 : Aside (Below (w.heap.size + 1) (w.alloc (.cells #[.slice a k c, .slice pl n cl] 26)) w4) := up1 HB3.out hN4; have HE4 : Aside (Below (w3.heap.size + 1) (w3.alloc (.cells #[.string xp, .int .i64 xk, .string xt, .bool xo] 28)) w4) := HE3.out.trans (hN4.mono (by simp)); obtain ⟨⟨u4, u5⟩, _⟩ := new2 (Nat.lt_succ_self _) HB4.out; obtain ⟨⟨x0, x1, x2, x3⟩, _⟩ := new4 (Nat.lt_succ_self _) HE4.out; have hw4 := block_lt_of_cell u4; simp only at hw4; have hw4' : w.heap.size ≠ w4.heap.size := (by omega); have hy4 := block_lt_of_cell x0; simp only at hy4; have hy4' : w3.heap.size ≠ w4.heap.size := (by omega); clear hN4))
        go_ret
        exact ⟨rfl, base1 (upA HB4.out)⟩
    · go_enter Tryz.func5, Tryz.ntmps5
      go_wp2_with (first
        | (go_at_call 11; refine (hal _ (base1 HB0.out)).mono ?_; clear hal; rintro r w1 ⟨rfl, hN1⟩; have HB1 : Aside (Below (w.heap.size + 1) (w.alloc (.cells #[.slice a k c, .slice pl n cl] 26)) w1) := up1 HB0.out (hN1.mono (by simp)); obtain ⟨⟨u0, u1⟩, _⟩ := new2 (Nat.lt_succ_self _) HB1.out; clear hN1)
        | (go_at_call 12; refine (hsn _ (base1 HB1.out)).mono ?_; clear hsn; rintro r w2 ⟨p2, c2, rfl, hL2, hc2, hn2, hN2, hw2⟩; rw [← HSN.out] at hc2 ⊢; have HB2 : Aside (Below (w.heap.size + 1) (w.alloc (.cells #[.slice a k c, .slice pl n cl] 26)) w2) := up1 HB1.out hN2; have HL2 : Aside (Lies w2 p2 sl) := hL2; obtain ⟨⟨u2, u3⟩, _⟩ := new2 (Nat.lt_succ_self _) HB2.out; clear hL2 hN2 hw2)
        | (go_at_call 22; refine (hlk _ (base1 HB2.out)).mono ?_; clear hlk; rintro r w3 ⟨rfl, hN3⟩; have HB3 : Aside (Below (w.heap.size + 1) (w.alloc (.cells #[.slice a k c, .slice pl n cl] 26)) (w3.alloc (.cells #[.string xp, .int .i64 xk, .string xt, .bool xo] 28))) := upA (up1 HB2.out hN3); have HL3 : Aside (Lies (w3.alloc (.cells #[.string xp, .int .i64 xk, .string xt, .bool xo] 28)) p2 sl) := (HL2.out.kept hN3).grown ((Grown.refl _).alloc _); have HE3 : Aside (Below (w3.heap.size + 1) (w3.alloc (.cells #[.string xp, .int .i64 xk, .string xt, .bool xo] 28)) (w3.alloc (.cells #[.string xp, .int .i64 xk, .string xt, .bool xo] 28))) := Below.refl _ _; clear hN3)
        | (go_at_call 23; clear hgo4; refine (by_eq (hgt _ p2 c2 (base1 HB3.out) HL3.out) (by rw [← HSN.out])).mono ?_; clear hgt; rintro r w4 ⟨rfl, hN4⟩; have HB4 : Aside (Below (w.heap.size + 1) (w.alloc (.cells #[.slice a k c, .slice pl n cl] 26)) w4) := up1 HB3.out hN4; have HE4 : Aside (Below (w3.heap.size + 1) (w3.alloc (.cells #[.string xp, .int .i64 xk, .string xt, .bool xo] 28)) w4) := HE3.out.trans (hN4.mono (by simp)); obtain ⟨⟨u4, u5⟩, _⟩ := new2 (Nat.lt_succ_self _) HB4.out; obtain ⟨⟨x0, x1, x2, x3⟩, _⟩ := new4 (Nat.lt_succ_self _) HE4.out; have hw4 := block_lt_of_cell u4; simp only at hw4; have hw4' : w.heap.size ≠ w4.heap.size := (by omega); have hy4 := block_lt_of_cell x0; simp only at hy4; have hy4' : w3.heap.size ≠ w4.heap.size := (by omega); clear hN4))
      go_ret
      exact ⟨rfl, base1 (upA HB4.out)⟩
set_option maxHeartbeats 2000000 in
set_option maxRecDepth 100000 in
theorem ulook_ok0 (w : World) (a : Option Addr) (k c : Nat) (pl : Option Addr) (n cl : Nat) (q : ByteArray) (sl : List Ent) (xp : ByteArray) (xk : Int) (xt : ByteArray) (xo : Bool) (ix : Int) (hal : ∀ W, Below w.heap.size w W → TrueC 11 #[] W) (hsn : SnC w (.agg #[.slice a k c, .slice pl n cl]) 0 sl) (hlk : LkC w (.agg #[.slice a k c, .slice pl n cl]) q xp xk xt xo ix 0) (hgt : GtC w sl q xp xk xt xo true) (go : Bool) (hgl : ∀ W, Below w.heap.size w W → Calls Tryz.prog 23 #[.slice a k c, .string q] W fun r w' => r = .returned (.tuple #[.agg #[.string xp, .int .i64 xk, .string xt, .bool go], .bool true]) ∧ Below W.heap.size W w') (hi : ix = 0) (hxo : xo = false) :
    TrueC 5 #[.agg #[.slice a k c, .slice pl n cl], .string q] w := by
  subst hi hxo
  have hgo4 : True := trivial
  have hgu := guardU
  have heq := eqU
  have HB0 : Aside (Below (w.heap.size + 1) (w.alloc (.cells #[.slice a k c, .slice pl n cl] 26)) (w.alloc (.cells #[.slice a k c, .slice pl n cl] 26))) := Below.refl _ _
  obtain ⟨sn, hsn'⟩ : ∃ sn, sn = sl.length := ⟨_, rfl⟩
  have HSN : Aside (sn = sl.length) := hsn'
  clear hsn'
  go_enter Tryz.func5, Tryz.ntmps5
  go_wp2_with (first
    | (go_at_call 11; refine (hal _ (base1 HB0.out)).mono ?_; clear hal; rintro r w1 ⟨rfl, hN1⟩; have HB1 : Aside (Below (w.heap.size + 1) (w.alloc (.cells #[.slice a k c, .slice pl n cl] 26)) w1) := up1 HB0.out (hN1.mono (by simp)); obtain ⟨⟨u0, u1⟩, _⟩ := new2 (Nat.lt_succ_self _) HB1.out; clear hN1)
    | (go_at_call 12; refine (hsn _ (base1 HB1.out)).mono ?_; clear hsn; rintro r w2 ⟨p2, c2, rfl, hL2, hc2, hn2, hN2, hw2⟩; rw [← HSN.out] at hc2 ⊢; have HB2 : Aside (Below (w.heap.size + 1) (w.alloc (.cells #[.slice a k c, .slice pl n cl] 26)) w2) := up1 HB1.out hN2; have HL2 : Aside (Lies w2 p2 sl) := hL2; obtain ⟨⟨u2, u3⟩, _⟩ := new2 (Nat.lt_succ_self _) HB2.out; clear hL2 hN2 hw2)
    | (go_at_call 22; refine (hlk _ (base1 HB2.out)).mono ?_; clear hlk; rintro r w3 ⟨rfl, hN3⟩; have HB3 : Aside (Below (w.heap.size + 1) (w.alloc (.cells #[.slice a k c, .slice pl n cl] 26)) (w3.alloc (.cells #[.string xp, .int .i64 xk, .string xt, .bool false] 28))) := upA (up1 HB2.out hN3); have HL3 : Aside (Lies (w3.alloc (.cells #[.string xp, .int .i64 xk, .string xt, .bool false] 28)) p2 sl) := (HL2.out.kept hN3).grown ((Grown.refl _).alloc _); have HE3 : Aside (Below (w3.heap.size + 1) (w3.alloc (.cells #[.string xp, .int .i64 xk, .string xt, .bool false] 28)) (w3.alloc (.cells #[.string xp, .int .i64 xk, .string xt, .bool false] 28))) := Below.refl _ _; clear hN3)
    | (go_at_call 23; clear hgo4; refine (by_eq (hgt _ p2 c2 (base1 HB3.out) HL3.out) (by rw [← HSN.out])).mono ?_; clear hgt; rintro r w4 ⟨rfl, hN4⟩; have HB4 : Aside (Below (w.heap.size + 1) (w.alloc (.cells #[.slice a k c, .slice pl n cl] 26)) w4) := up1 HB3.out hN4; have HE4 : Aside (Below (w3.heap.size + 1) (w3.alloc (.cells #[.string xp, .int .i64 xk, .string xt, .bool false] 28)) w4) := HE3.out.trans (hN4.mono (by simp)); obtain ⟨⟨u4, u5⟩, _⟩ := new2 (Nat.lt_succ_self _) HB4.out; obtain ⟨⟨x0, x1, x2, x3⟩, _⟩ := new4 (Nat.lt_succ_self _) HE4.out; have hw4 := block_lt_of_cell u4; simp only at hw4; have hw4' : w.heap.size ≠ w4.heap.size := (by omega); have hy4 := block_lt_of_cell x0; simp only at hy4; have hy4' : w3.heap.size ≠ w4.heap.size := (by omega); have HY4 : Aside (Below (w4.heap.size + 1) (w4.alloc (.cells #[.string xp, .int .i64 xk, .string xt, .bool false] 28)) (w4.alloc (.cells #[.string xp, .int .i64 xk, .string xt, .bool false] 28))) := Below.refl _ _; have hgo5 : True := trivial; clear hN4)
    | (go_at_call 23; clear hgo5; refine (by_eq (hgl _ (base1 (upA HB4.out))) rfl).mono ?_; clear hgl; rintro r w5 ⟨rfl, hN5⟩; have HB5 : Aside (Below (w.heap.size + 1) (w.alloc (.cells #[.slice a k c, .slice pl n cl] 26)) w5) := up1 (upA HB4.out) hN5; have HE5 : Aside (Below (w3.heap.size + 1) (w3.alloc (.cells #[.string xp, .int .i64 xk, .string xt, .bool false] 28)) w5) := up1 (upA HE4.out) hN5; have HY5 : Aside (Below (w4.heap.size + 1) (w4.alloc (.cells #[.string xp, .int .i64 xk, .string xt, .bool false] 28)) w5) := HY4.out.trans (hN5.mono (by simp)); clear x0 x1 x2 x3; obtain ⟨⟨x0, x1, x2, x3⟩, _⟩ := new4 (Nat.lt_succ_self _) HE5.out; obtain ⟨⟨y0, y1, y2, y3⟩, _⟩ := new4 (Nat.lt_succ_self _) HY5.out; have hx5 := block_lt_of_cell x0; simp only at hx5; have hx5' : w3.heap.size ≠ w5.heap.size := (by omega); have hz5 := block_lt_of_cell y0; simp only at hz5; have hz5' : w4.heap.size ≠ w5.heap.size := (by omega); clear hN5))
  go_ret
  exact ⟨rfl, base1 (upA HB5.out)⟩
set_option maxHeartbeats 2000000 in
set_option maxRecDepth 100000 in
theorem ulook_okk (w : World) (a : Option Addr) (k c : Nat) (pl : Option Addr) (n cl : Nat) (q : ByteArray) (sl : List Ent) (xp : ByteArray) (xk : Int) (xt : ByteArray) (xo : Bool) (ix : Int) (hal : ∀ W, Below w.heap.size w W → TrueC 11 #[] W) (hsn : SnC w (.agg #[.slice a k c, .slice pl n cl]) 0 sl) (hlk : LkC w (.agg #[.slice a k c, .slice pl n cl]) q xp xk xt xo ix 0) (hgt : GtC w sl q xp xk xt xo true) (go : Bool) (j : Nat) (lv : Value) (hgl : ∀ W, Below w.heap.size w W → Calls Tryz.prog 23 #[lv, .string q] W fun r w' => r = .returned (.tuple #[.agg #[.string xp, .int .i64 xk, .string xt, .bool go], .bool true]) ∧ Below W.heap.size W w') (b off : Nat) (hpl : pl = some ⟨b, off, none⟩) (hcell : w.cell? ⟨b, off + j, none⟩ = some lv) (hj : j < n) (hn4 : n ≤ 4) (hi : ix = ((j + 1 : Nat) : Int)) (hxo : xo = false) :
    TrueC 5 #[.agg #[.slice a k c, .slice pl n cl], .string q] w := by
  subst hi hxo hpl
  have hgo4 : True := trivial
  have hgu := guardU
  have heq := eqU
  have hbl := block_lt_of_cell hcell
  simp only at hbl
  have hjz : (0 : Int) < ((j + 1 : Nat) : Int) := by omega
  have hjn : ((j + 1 : Nat) : Int) ≤ (n : Int) := by omega
  have hjs : ((j + 1 : Nat) : Int) - 1 = (j : Int) := by omega
  have hjw : IntKind.i64.wrap (j : Int) = (j : Int) := by rw [IntKind.wrap_i64]; omega
  have hjn' : (j : Int) < (n : Int) := by omega
  have hj0 : (0 : Int) ≤ (j : Int) := by omega
  generalize ((j + 1 : Nat) : Int) = jx at *
  have HB0 : Aside (Below (w.heap.size + 1) (w.alloc (.cells #[.slice a k c, .slice (some ⟨b, off, none⟩) n cl] 26)) (w.alloc (.cells #[.slice a k c, .slice (some ⟨b, off, none⟩) n cl] 26))) := Below.refl _ _
  obtain ⟨sn, hsn'⟩ : ∃ sn, sn = sl.length := ⟨_, rfl⟩
  have HSN : Aside (sn = sl.length) := hsn'
  clear hsn'
  go_enter Tryz.func5, Tryz.ntmps5
  go_wp2_with (first
    | (go_at_call 11; refine (hal _ (base1 HB0.out)).mono ?_; clear hal; rintro r w1 ⟨rfl, hN1⟩; have HB1 : Aside (Below (w.heap.size + 1) (w.alloc (.cells #[.slice a k c, .slice (some ⟨b, off, none⟩) n cl] 26)) w1) := up1 HB0.out (hN1.mono (by simp)); obtain ⟨⟨u0, u1⟩, _⟩ := new2 (Nat.lt_succ_self _) HB1.out; clear hN1)
    | (go_at_call 12; refine (hsn _ (base1 HB1.out)).mono ?_; clear hsn; rintro r w2 ⟨p2, c2, rfl, hL2, hc2, hn2, hN2, hw2⟩; rw [← HSN.out] at hc2 ⊢; have HB2 : Aside (Below (w.heap.size + 1) (w.alloc (.cells #[.slice a k c, .slice (some ⟨b, off, none⟩) n cl] 26)) w2) := up1 HB1.out hN2; have HL2 : Aside (Lies w2 p2 sl) := hL2; obtain ⟨⟨u2, u3⟩, _⟩ := new2 (Nat.lt_succ_self _) HB2.out; clear hL2 hN2 hw2)
    | (go_at_call 22; refine (hlk _ (base1 HB2.out)).mono ?_; clear hlk; rintro r w3 ⟨rfl, hN3⟩; have HB3 : Aside (Below (w.heap.size + 1) (w.alloc (.cells #[.slice a k c, .slice (some ⟨b, off, none⟩) n cl] 26)) (w3.alloc (.cells #[.string xp, .int .i64 xk, .string xt, .bool false] 28))) := upA (up1 HB2.out hN3); have HL3 : Aside (Lies (w3.alloc (.cells #[.string xp, .int .i64 xk, .string xt, .bool false] 28)) p2 sl) := (HL2.out.kept hN3).grown ((Grown.refl _).alloc _); have HE3 : Aside (Below (w3.heap.size + 1) (w3.alloc (.cells #[.string xp, .int .i64 xk, .string xt, .bool false] 28)) (w3.alloc (.cells #[.string xp, .int .i64 xk, .string xt, .bool false] 28))) := Below.refl _ _; clear hN3)
    | (go_at_call 23; clear hgo4; refine (by_eq (hgt _ p2 c2 (base1 HB3.out) HL3.out) (by rw [← HSN.out])).mono ?_; clear hgt; rintro r w4 ⟨rfl, hN4⟩; have HB4 : Aside (Below (w.heap.size + 1) (w.alloc (.cells #[.slice a k c, .slice (some ⟨b, off, none⟩) n cl] 26)) w4) := up1 HB3.out hN4; have HE4 : Aside (Below (w3.heap.size + 1) (w3.alloc (.cells #[.string xp, .int .i64 xk, .string xt, .bool false] 28)) w4) := HE3.out.trans (hN4.mono (by simp)); obtain ⟨⟨u4, u5⟩, _⟩ := new2 (Nat.lt_succ_self _) HB4.out; obtain ⟨⟨x0, x1, x2, x3⟩, _⟩ := new4 (Nat.lt_succ_self _) HE4.out; have hw4 := block_lt_of_cell u4; simp only at hw4; have hw4' : w.heap.size ≠ w4.heap.size := (by omega); have hy4 := block_lt_of_cell x0; simp only at hy4; have hy4' : w3.heap.size ≠ w4.heap.size := (by omega); have HY4 : Aside (Below (w4.heap.size + 1) (w4.alloc (.cells #[.string xp, .int .i64 xk, .string xt, .bool false] 28)) (w4.alloc (.cells #[.string xp, .int .i64 xk, .string xt, .bool false] 28))) := Below.refl _ _; have lc := ((base1 HB4.out).cell (p := ⟨b, off + j, none⟩) hbl).trans hcell; have lc2 := Lib.cell?_alloc_some (.cells #[.string xp, .int .i64 xk, .string xt, .bool false] 28) lc; have hb4 := block_lt_of_cell lc; simp only at hb4; have hb4n : b ≠ w4.heap.size := (by omega); have hgo5 : True := trivial; clear hN4)
    | (go_at_call 23; clear hgo5; refine (by_eq (hgl _ (base1 (upA HB4.out))) rfl).mono ?_; clear hgl; rintro r w5 ⟨rfl, hN5⟩; have HB5 : Aside (Below (w.heap.size + 1) (w.alloc (.cells #[.slice a k c, .slice (some ⟨b, off, none⟩) n cl] 26)) w5) := up1 (upA HB4.out) hN5; have HE5 : Aside (Below (w3.heap.size + 1) (w3.alloc (.cells #[.string xp, .int .i64 xk, .string xt, .bool false] 28)) w5) := up1 (upA HE4.out) hN5; have HY5 : Aside (Below (w4.heap.size + 1) (w4.alloc (.cells #[.string xp, .int .i64 xk, .string xt, .bool false] 28)) w5) := HY4.out.trans (hN5.mono (by simp)); clear x0 x1 x2 x3; obtain ⟨⟨x0, x1, x2, x3⟩, _⟩ := new4 (Nat.lt_succ_self _) HE5.out; obtain ⟨⟨y0, y1, y2, y3⟩, _⟩ := new4 (Nat.lt_succ_self _) HY5.out; have hx5 := block_lt_of_cell x0; simp only at hx5; have hx5' : w3.heap.size ≠ w5.heap.size := (by omega); have hz5 := block_lt_of_cell y0; simp only at hz5; have hz5' : w4.heap.size ≠ w5.heap.size := (by omega); clear hN5))
  go_ret
  exact ⟨rfl, base1 (upA HB5.out)⟩
theorem unionLook_law (y : Lay) (ls : List Lay) (m : Int) (pl : Option Addr) (cl : Nat) (q : ByteArray) (w : World) (hUn : UnOK w y ls pl cl) (hq : q.size ≤ maxLen) (hm : w.cell? ⟨0, 0, none⟩ = some (.int .i64 m)) :
    TrueC 5 #[.agg #[.slice y.ad y.es.length y.cap, .slice pl ls.length cl], .string q] w := by
  have hal : ∀ W, Below w.heap.size w W → TrueC 11 #[] W := fun W hB => unionAlive_any m W (held hB hm)
  have hsn : SnC w (.agg #[.slice y.ad y.es.length y.cap, .slice pl ls.length cl]) (wrongU (y.es :: ls.map (·.es))).1 (seenU (y.es :: ls.map (·.es))) := fun W hB => seen_any y ls m pl cl W (hUn.kept hB) (held hB hm)
  have hlk := fun W (hB : Below w.heap.size w W) => look_any y ls m pl cl q W (hUn.kept hB) hq (held hB hm) _ _ _ rfl rfl rfl
  by_cases h0 : (wrongU (y.es :: ls.map (·.es))).1 = 0
  · obtain ⟨hl5, hz, hr⟩ := wrongU_zero.1 h0
    rw [List.length_cons, List.length_map] at hl5
    have hs : seenU (y.es :: ls.map (·.es)) = (mergeF (y.es :: ls.map (·.es))).2 := by rw [seenU, if_pos h0]
    have hsr := seenU_right (y.es :: ls.map (·.es))
    have hgt := fun W p c (hB : Below w.heap.size w W) (hL : Lies W p (seenU (y.es :: ls.map (·.es)))) => get_det _ q p c W hL (right_fitsL hsr) (by have := hsr.len; omega) hq hsr.sorted _ _ rfl rfl
    by_cases he : lookErr (y.es :: ls.map (·.es)) q.data.toList = 0
    · have hc : clean q.data.toList = true := by
        cases hc : clean q.data.toList with
        | true => rfl
        | false => rw [lookErr, if_pos h0, hc] at he; simp at he
      have hi : (getL (seenU (y.es :: ls.map (·.es))) q.data.toList).isSome = true := by
        cases hi : (getL (seenU (y.es :: ls.map (·.es))) q.data.toList).isSome with
        | true => rfl
        | false => rw [lookErr, if_pos h0, hc, hi] at he; simp at he
      obtain ⟨x, hx⟩ := Option.isSome_iff_exists.1 hi
      have hqn := clean_ne hc
      obtain ⟨kk, l, z, e1, e2, e3, e4⟩ := look_math (y.es :: ls.map (·.es)) 0 hz hqn (by rw [← hs]; exact hx)
      have hxo : x.opq = false := (kind_layer (hsr.each x (getL_some hqn hx).1)).2
      obtain ⟨xp, xk, xt, xo⟩ := x
      obtain ⟨zp, zk, zt, zo⟩ := z
      have hxe : (⟨zp, zk, zt, false⟩ : Ent) = ⟨xp, xk, xt, xo⟩ := e4
      injection hxe with i1 i2 i3 i4
      subst i1 i2 i3
      simp only at hxo
      subst hxo
      rw [he, if_pos rfl, if_pos rfl, hx] at hlk
      rw [hx] at hgt
      rw [h0] at hsn
      rw [Nat.zero_add] at e1
      cases kk with
      | zero =>
        have hl : l = y.es := by simpa using e2.symm
        subst hl
        refine ulook_ok0 w _ _ _ _ _ _ q _ zp zk zt false _ hal hsn hlk hgt zo (fun W hB => ?_) (by rw [e1]; rfl) rfl
        have h := hUn.kept hB
        have := get_det y.es q y.ad y.cap W h.up.lies h.up.fits h.up.small hq (hr y.es (by simp)).sorted _ _ rfl rfl
        rw [e3] at this
        exact this
      | succ j =>
        have hj : (ls.map (·.es))[j]? = some l := by simpa using e2
        rw [List.getElem?_map] at hj
        obtain ⟨v, hv, rfl⟩ := Option.map_eq_some_iff.1 hj
        obtain ⟨hjl, _⟩ := List.getElem?_eq_some_iff.1 hv
        rcases hUn.lies with h | ⟨b, off, hpl, hb, hcl⟩
        · rw [h] at hv; simp at hv
        · refine ulook_okk w _ _ _ _ _ _ q _ zp zk zt false _ hal hsn hlk hgt zo j _ (fun W hB => ?_) b off hpl (hcl j v hv) hjl (by omega) (by rw [e1]) rfl
          have hvm := List.mem_of_getElem? hv
          have h := ((hUn.each v hvm).1.kept hB)
          have := get_det v.es q v.ad v.cap W h.lies h.fits h.small hq (hr v.es (by simp; exact .inr ⟨v, hvm, rfl⟩)).sorted _ _ rfl rfl
          rw [e3] at this
          exact this
    · rw [if_neg he, if_neg he] at hlk
      refine ulook_e2 w _ _ _ _ _ _ q _ _ _ _ _ _ _ _ hal hsn hlk _ _ _ _ _ hgt h0 he ?_
      cases hc : clean q.data.toList with
      | false =>
        have h7 : lookErr (y.es :: ls.map (·.es)) q.data.toList = 7 := by rw [lookErr, if_pos h0, hc]; rfl
        by_cases hq0 : q.data.toList = []
        · exact .inl ⟨h7, hq0⟩
        · right
          have : getL (seenU (y.es :: ls.map (·.es))) q.data.toList = none := getL_none_of hq0 fun x hx hp => by
            have := hsr.clean hx
            rw [hp, hc] at this; cases this
          rw [this]; rfl
      | true =>
        right
        cases hi : (getL (seenU (y.es :: ls.map (·.es))) q.data.toList).isSome with
        | false => rfl
        | true => exact absurd (by rw [lookErr, if_pos h0, hc, if_pos rfl, hi]; rfl) he
  · have he : lookErr (y.es :: ls.map (·.es)) q.data.toList = (wrongU (y.es :: ls.map (·.es))).1 := by rw [lookErr, if_neg h0]
    rw [he, if_neg h0, if_neg h0] at hlk
    exact ulook_e1 w _ _ _ _ _ _ q _ _ _ _ _ _ _ _ hal hsn hlk rfl rfl h0
end Go.Proofs.YtampldoimpfjgabGreatDoor
