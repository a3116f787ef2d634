/-
  TopFollows.
-/
import Derived.Test.YthfeoiffoeagkaaGreatDoorQA46
import Derived.KernelRfl
namespace Go.Proofs.YthfeoiffoeagkaaGreatDoor
open Go.RowKit PM Go.Sort
set_option linter.unusedVariables false
def pathA : ByteArray := ⟨#[100, 105, 114, 47, 97]⟩
def twoL : List Cl := [⟨1, 0, 0, 1, 0, pathA, ⟨#[]⟩, ⟨#[]⟩, false⟩, ⟨1, 0, 0, 34, 0, pathA, ⟨#[]⟩, ⟨#[]⟩, false⟩]
def callW (x : ByteArray) : Cl := ⟨4, 0, 1, 0, 0, ⟨#[]⟩, ⟨#[]⟩, x, false⟩
def callR : Cl := ⟨3, 0, 0, 100, 0, ⟨#[]⟩, ⟨#[]⟩, ⟨#[]⟩, false⟩
noncomputable def s2F : Sy := (runB twoL).1
def flA : Fl := ⟨pathA, ⟨#[]⟩, []⟩
def opW : Opn := ⟨0, 34, 0⟩
def opR : Opn := ⟨0, 1, 0⟩
theorem stepW (x : ByteArray) : s2F.stepR (callW x) = (s2F.wrErr opW flA x, s2F.wrDo 1 opW flA x, ans x.size ⟨#[]⟩) := by kernel_rfl
theorem textA : s2F.textOf flA = ⟨#[]⟩ := by kernel_rfl
theorem atA : s2F.wrAt opW flA = 0 := by kernel_rfl
theorem wrongA : (wrongU s2F.all).1 = 0 := by kernel_rfl
theorem lenA (x : ByteArray) : (haveL s2F.up ⟨pathA, 1, x, false⟩).length = 2 := by kernel_rfl
def entD6 : Ent := ⟨⟨#[100, 105, 114]⟩, 2, ⟨#[]⟩, false⟩
def entB6 : Ent := ⟨⟨#[100, 105, 114, 47, 98]⟩, 1, ⟨#[116, 119, 111]⟩, false⟩
theorem seenS : s2F.seen = [entD6, ⟨pathA, 1, ⟨#[]⟩, false⟩, entB6] := by kernel_rfl
theorem wrongX (x : ByteArray) (hx : x.size ≤ 100) : wrongE ⟨pathA, 1, x, false⟩ false = 0 := by
 unfold wrongE
 have hc : clean (Ent.p ⟨pathA, 1, x, false⟩) = true := by kernel_rfl
 rw [hc]
 simp
 omega
theorem askX (x : ByteArray) (hx : x.size ≤ 100) : putAsk s2F.seen ⟨pathA, 1, x, false⟩ = 0 := by
 unfold putAsk
 rw [wrongX x hx]
 kernel_rfl
theorem putX (x : ByteArray) (hx : x.size ≤ 100) : putErr s2F.seen ⟨pathA, 1, x, false⟩ = 0 := by
 unfold putErr
 rw [if_pos (askX x hx), if_neg, if_neg]
 ·rintro ⟨h, _⟩
  exact h ⟨pathA, 1, ⟨#[]⟩, false⟩ (by rw [seenS]; simp) rfl
 ·rintro ⟨y, hy, h1, h2⟩
  rw [seenS] at hy
  simp only [List.mem_cons, List.not_mem_nil, or_false] at hy
  rcases hy with rfl | rfl | rfl
  ·exact absurd (show entD6.p = pathA.data.toList from h1) (by decide)
  ·exact h2 rfl
  ·exact absurd (show entB6.p = pathA.data.toList from h1) (by decide)
theorem chgX (x : ByteArray) (hx : x.size ≤ 100) : chgErr (wrongU s2F.all).1 (putErr s2F.seen ⟨pathA, 1, x, false⟩) (haveL s2F.up ⟨pathA, 1, x, false⟩).length = 0 :=
 chgErr_zero.2 ⟨wrongA, putX x hx, by rw [lenA]; decide⟩
theorem seenP (x : ByteArray) (hx : x.size ≤ 100) : seenU (haveL s2F.up ⟨pathA, 1, x, false⟩ :: s2F.lows) = putL s2F.seen ⟨pathA, 1, x, false⟩ := (put_wrong (chgX x hx)).2
theorem putT (x : ByteArray) : ((getL (putL s2F.seen ⟨pathA, 1, x, false⟩) pathA.data.toList).getD zeroE).text = x := by kernel_rfl
theorem textX (x : ByteArray) (hx : x.size ≤ 100) (o : Opn) : ((s2F.withU (haveL s2F.up ⟨pathA, 1, x, false⟩) s2F.lows).setO 1 o).textOf flA = x := by
 have h : ((s2F.withU (haveL s2F.up ⟨pathA, 1, x, false⟩) s2F.lows).setO 1 o).seen = putL s2F.seen ⟨pathA, 1, x, false⟩ := seenP x hx
 unfold Sy.textOf
 rw [h, if_neg (by decide)]
 exact putT x
theorem ba_whole (x : ByteArray) : x.extract 0 x.size = x := by simp
theorem readT_all (x : ByteArray) (hx : x.size ≤ 100) : readT x 0 100 = x := by
 unfold readT
 have h1 : (min (0 : Int) x.size).toNat = 0 := by omega
 have h3 : (min (100 : Int) x.size).toNat = x.size := by omega
 rw [h1, ba_whole, h3, ba_whole]
theorem sized0 : sizedL ⟨#[]⟩ 0 = ⟨#[]⟩ := by kernel_rfl
theorem wrTextX (x : ByteArray) (h0 : ¬ x.data.toList = []) : wrText ⟨#[]⟩ x 0 = x := by
 unfold wrText
 rw [if_neg h0, sized0]
 apply ba_ext
 simp
theorem stepR1 (x : ByteArray) (o : Opn) : ((s2F.withU (haveL s2F.up ⟨pathA, 1, x, false⟩) s2F.lows).setO 1 o).stepR callR = (0, ((s2F.withU (haveL s2F.up ⟨pathA, 1, x, false⟩) s2F.lows).setO 1 o).setO 0 { opR with pos := opR.pos + (readT (((s2F.withU (haveL s2F.up ⟨pathA, 1, x, false⟩) s2F.lows).setO 1 o).textOf flA) 0 100).size }, ans (readT (((s2F.withU (haveL s2F.up ⟨pathA, 1, x, false⟩) s2F.lows).setO 1 o).textOf flA) 0 100).size (readT (((s2F.withU (haveL s2F.up ⟨pathA, 1, x, false⟩) s2F.lows).setO 1 o).textOf flA) 0 100)) := by kernel_rfl
theorem stepR0 (o : Opn) : (s2F.setO 1 o).stepR callR = (0, (s2F.setO 1 o).setO 0 { opR with pos := opR.pos + (readT ((s2F.setO 1 o).textOf flA) 0 100).size }, ans (readT ((s2F.setO 1 o).textOf flA) 0 100).size (readT ((s2F.setO 1 o).textOf flA) 0 100)) := by kernel_rfl
theorem text0 (o : Opn) : (s2F.setO 1 o).textOf flA = ⟨#[]⟩ := by kernel_rfl
theorem readT_none : readT ⟨#[]⟩ 0 100 = ⟨#[]⟩ := by kernel_rfl
def followL (x : ByteArray) : List Cl := twoL ++ [callW x, callR]
theorem follow_at (x : ByteArray) : (runB (followL x)).2[3]? = some ((s2F.answer (callW x)).1.answer callR).2 := rfl
theorem wrErrX (x : ByteArray) (hx : x.size ≤ 90) : s2F.wrErr opW flA x = 0 := by
 unfold Sy.wrErr
 rw [if_neg (by decide), atA, textA, if_neg (by omega)]
 unfold Sy.keepErr
 rw [textA]
 by_cases h0 : x.data.toList = []
 ·unfold wrText
  rw [if_pos h0, if_pos rfl]
 ·rw [wrTextX x h0, if_neg h0, if_neg (by decide)]
  exact chgX x (by omega)
theorem follow_text (x : ByteArray) (hx : x.size ≤ 90) : ∃ a, (runB (followL x)).2[3]? = some a ∧ a.err = 0 ∧ a.text = x := by
 refine ⟨_, follow_at x, ?_⟩
 have hs : (s2F.answer (callW x)).1 = s2F.wrDo 1 opW flA x := by
  unfold Sy.answer
  rw [stepW, if_pos (wrErrX x hx)]
 rw [hs]
 unfold Sy.wrDo
 rw [atA, textA]
 unfold Sy.keepDo
 rw [textA]
 by_cases h0 : x.data.toList = []
 ·have hx0 : x = ⟨#[]⟩ := ba_ext h0
  unfold wrText
  rw [if_pos h0, if_pos rfl]
  unfold Sy.answer
  rw [stepR0, if_pos rfl, text0, readT_none]
  exact ⟨rfl, hx0.symm⟩
 ·rw [wrTextX x h0, if_neg h0, if_neg (by decide)]
  unfold Sy.answer
  rw [show flA.path = pathA from rfl, stepR1, if_pos rfl, textX x (by omega), readT_all x (by omega)]
  exact ⟨rfl, rfl⟩
theorem follow_play (x : ByteArray) (hx : x.size ≤ 90) (W : World) (b b' H cc : Nat) (hU : UnOK W ⟨none, 0, []⟩ [⟨some ⟨b, 0, none⟩, 3, base6⟩] (some ⟨b', 0, none⟩) 1) (hG : Gl W.heap.size W) (hC : LiesC W (some ⟨H, 0, none⟩) (followL x)) :
  Calls Tryz.prog 16 #[.agg #[.slice none 0 0, .slice (some ⟨b', 0, none⟩) 1 1], .slice (some ⟨H, 0, none⟩) 4 cc] W (fun r w' => ∃ a0 k0 c0 a1 k1 c1 ps sn sc op b ac, r = .returned (.tuple #[.agg #[.slice a0 k0 c0, .slice a1 k1 c1, .slice ps sn sc, .int .i64 op], .slice (some ⟨b, 0, none⟩) 4 ac, .int .i64 0]) ∧ w'.cell? ⟨b, 12, none⟩ = some (.int .i64 0) ∧ w'.cell? ⟨b, 14, none⟩ = some (.string x) ∧ Below W.heap.size W w') := by
 refine (top_play (followL x) 4 rfl (by show 4 ≤ 80; decide) (by simp [followL, twoL]) (fun c hc => by
  simp only [followL, twoL, List.cons_append, List.nil_append, List.mem_cons, List.not_mem_nil, or_false] at hc
  rcases hc with rfl | rfl | rfl | rfl
  ·exact ⟨by decide, by decide, by decide⟩
  ·exact ⟨by decide, by decide, by decide⟩
  ·exact ⟨by show 0 ≤ _; decide, by show 0 ≤ _; decide, by show x.size ≤ _; omega⟩
  ·exact ⟨by decide, by decide, by decide⟩) W b b' H cc hU hG hC).mono fun r w' ⟨y, pl, cl, ps, sc, yn, ln, sn, op, b1, ac, e, hB, hx⟩ => ?_
 obtain ⟨_, _, _, e4⟩ := hx.out
 obtain ⟨a, ha, he, ht⟩ := follow_text x (by assumption)
 obtain ⟨_, _, _, g0, _, g2, _⟩ := e4 3 a ha
 rw [he] at g0
 rw [ht] at g2
 exact ⟨_, _, _, _, _, _, _, _, _, _, _, _, e, g0, g2, hB⟩
set_option maxRecDepth 100000 in
set_option maxHeartbeats 1000000 in
theorem topFollows_in (x : ByteArray) (hx : x.size ≤ 90) (w : World) (hg : Gl w.heap.size w) : TrueC 11 #[.string x] w := by
 have hal := topAlive_any w hg
 have hpl := follow_play x hx
 have HG : Aside (Gl w.heap.size w) := hg
 have n1 : ¬ (90 : Int) < (x.size : Int) := by omega
 have n2 : ¬ 90 < x.size := by omega
 clear hg hx
 go_enter Tryz.func11, Tryz.ntmps11
 go_wp2_with (first
  | (go_at_call 32; refine hal.mono ?_; clear hal; rintro r w2 ⟨rfl, hB2⟩; have H2 : Aside (Below w.heap.size w w2) := hB2; clear hB2; have hbase := base_any w2)
  | (go_at_call 36; refine hbase.mono ?_; clear hbase; rintro r w3 ⟨b, b', rfl, hU, hB3⟩; have H3 : Aside (UnOK w3 ⟨none, 0, []⟩ [⟨some ⟨b, 0, none⟩, 3, base6⟩] (some ⟨b', 0, none⟩) 1 ∧ Below w.heap.size w w3) := ⟨hU, Below.onto H2.out hB3⟩; clear hU hB3; have H4 : Aside (Below w3.heap.size w3 w3) := Below.refl _ _)
  | (go_at_call 33; refine (open_call _ _ _).mono ?_; rintro r w4 ⟨rfl, hB4⟩; replace H4 : Aside (Below w3.heap.size w3 w4) := Below.onto H4.out hB4; clear hB4)
  | (go_at_call 34; refine (on_call _ _ _ _ _).mono ?_; rintro r w4 ⟨rfl, hB4⟩; replace H4 : Aside (Below w3.heap.size w3 w4) := Below.onto H4.out hB4; clear hB4)
  | (go_at_call 16; have HB : Aside (Below w3.heap.size w3 (w4.alloc (.cells ((followL x).flatMap encC).toArray 50))) := Below.onto H4.out ((Grown.refl w4).alloc _).below; refine (hpl _ b b' _ _ (H3.out.1.kept HB.out) (HG.out.up (Below.onto H3.out.2 HB.out)) (liesC_new w4 (followL x) _ rfl)).mono ?_; clear hpl; rintro r w7 ⟨a0, k0, c0, a1, k1, c1, ps, sn, sc, op, b1, ac, rfl, q0, q2, hB7⟩; have H7 : Aside (Below w.heap.size w w7) := Below.onto (Below.onto H3.out.2 HB.out) hB7; clear hB7; have q0' := Lib.cell?_alloc_some (.cells #[.slice a0 k0 c0, .slice a1 k1 c1, .slice ps sn sc, .int .i64 op] 29) q0; have q2' := Lib.cell?_alloc_some (.cells #[.slice a0 k0 c0, .slice a1 k1 c1, .slice ps sn sc, .int .i64 op] 29) q2))
 go_ret
 first
  | exact ⟨rfl, H7.out⟩
  | exact ⟨rfl, H7.out.alloc H7.out.size _⟩
theorem topFollows_out (x : ByteArray) (h : ¬ x.size ≤ 90) (w : World) (hg : Gl w.heap.size w) : TrueC 11 #[.string x] w := by
 have hal := topAlive_any w hg
 clear hg
 have h1 : (90 : Int) < (x.size : Int) := by omega
 have h2 : 90 < x.size := by omega
 go_enter Tryz.func11, Tryz.ntmps11
 go_wp2_with (first
  | (go_at_call 32; refine hal.mono ?_; clear hal; rintro r w2 ⟨rfl, hB2⟩; have H2 : Aside (Below w.heap.size w w2) := hB2; clear hB2))
 all_goals go_ret
 all_goals exact ⟨rfl, H2.out⟩
theorem topFollows_law (x : ByteArray) (w : World) (hg : Gl w.heap.size w) : TrueC 11 #[.string x] w := by
 by_cases h : x.size ≤ 90
 ·exact topFollows_in x h w hg
 ·exact topFollows_out x h w hg
end Go.Proofs.YthfeoiffoeagkaaGreatDoor
