/-
  What the document's own answers traceref1.Names and traceref1.List answer.
-/
import Derived.Test.YtampldoimpfjgaaDoorRTWalks3
import Derived.Test.YtampldoimpfjgaaDoorTList
namespace Go.Proofs.YtampldoimpfjgaaDoor
open Go.RowKit PM Go.Sort
set_option linter.unusedVariables false

set_option maxHeartbeats 4000000 in
set_option maxRecDepth 100000 in
theorem refNames_any (t : List Ent) (q : ByteArray) (p : Option Addr) (cap : Nat) (w : World) (hL : Lies w p t) (hF : ∀ e ∈ t, e.path.size ≤ 1048576) (hn80 : t.length ≤ 80) :
    Calls Tryd.prog 60 #[.slice p t.length cap, .string q] w (ListPost w (namesL t q.data.toList)) := by
  have HF : Aside (∀ e ∈ t, e.path.size ≤ 1048576) := hF
  have HL : Aside (Lies w p t) := hL
  obtain ⟨i0, hi, hz0, hz1, hz2⟩ := info9
  obtain ⟨n, hnl⟩ : ∃ n, n = t.length := ⟨_, rfl⟩
  have HN : Aside (n = t.length) := hnl
  rw [← hnl] at hn80 ⊢
  clear hnl hL hF
  go_enter Tryd.func60, Tryd.ntmps60
  go_wp2
  go_loopg [5, 12] n (fun gg v i wr => ∃ (k : Nat) (bs : List ByteArray), k ≤ n ∧ n - k ≤ gg ∧ i = .int .i64 k ∧ bs.length ≤ k ∧ Aside (Strs wr w.heap.size v bs) ∧ Aside (Below w.heap.size w wr) ∧ Aside (bs.map (·.data.toList) = namesL (t.take k) q.data.toList))
  case atStart => exact ⟨0, [], Nat.zero_le _, by omega, rfl, Nat.le_refl _, Strs.nil _ _, Below.refl _ _, by simp [namesL, Aside]⟩
  case round =>
    obtain ⟨k, bs, hk, hgg, rfl, hbl, ST, BW, NM⟩ := hrel
    by_cases hlt : k < n
    · have hltz : (k : Int) < (n : Int) := by omega
      obtain ⟨y, hy⟩ : ∃ y, t[k]? = some y := ⟨_, List.getElem?_eq_getElem (by have := HN.out; omega)⟩
      have HY : Aside (t[k]? = some y) := hy
      have hyf := HF.out y (List.mem_of_getElem? hy)
      rcases HL.out with h0 | ⟨b, off, rfl, hb, hc⟩
      · rw [h0] at hy; simp at hy
      obtain ⟨c0, c1, c2, c3⟩ := Lies.cells hc hb BW.out hy
      clear hc hy
      have hcu := fun W => refCut_grown y.path W (by omega)
      go_wp2_with (first
        | (go_at_call 21; refine (hcu _).mono ?_; clear hcu; rintro e w3 ⟨⟨d, nm, rfl, hd, hnm⟩, hG⟩; have HDN : Aside (d.data.toList = dirOf y.p ∧ nm.data.toList = (cutL y.p).2) := ⟨hd, hnm⟩; clear hd hnm; have hS3 : w3.ownsRow w.heap.size 9 1 u5 bs.length (bs.map Value.string) := ST.out.below (((Grown.refl wr).alloc _).trans hG).below; rcases eq_cases d q with ⟨hdq, HDQ⟩ | ⟨hdq, HDQ⟩)
        | (at_builtin; refine wpList_append_own _ rfl _ _ 28 rfl w.heap.size 9 i0 (.string ByteArray.empty) 1 16 Tryd.underlying28 hi hz0 hz1 hz2 rfl (by decide) _ _ _ rfl (hS3.alloc _) ⟨w3.heap.size, 0, none⟩ 1 1 [.string nm] rfl rfl ?c1 ?c2 ?c3 ?c4 ?c5 ?_))
      case c1 => exact cell_one_new _ _ _
      case c2 => intro u hu; simp at hu; subst hu; rfl
      case c3 => unfold maxLen; omega
      case c4 => omega
      case c5 => have := hG.size; have := BW.out.size; simp at *; omega
      · intro v' w4 hown hgrow _
        have HB4 : Aside (Below w.heap.size w w4) := below_build BW.out BW.out.size hG _ hgrow (fun j hj => (hS3.lt j hj).1)
        have HS4 : Aside (Strs w4 w.heap.size v' (bs ++ [nm])) := by simpa [Strs, Aside] using hown
        clear hown hgrow
        go_wp2
        go_roundg (n - (k + 1))
        case measure => omega
        case rel => exact ⟨k + 1, bs ++ [nm], by omega, by omega, by go_num, by simp; omega, HS4.out, HB4.out, by
            show _ = _
            rw [names_step HY.out, if_pos (HDN.out.1.symm.trans HDQ.out), ← NM.out, ← HDN.out.2]; simp⟩
      · go_roundg (n - (k + 1))
        case measure => omega
        case rel => exact ⟨k + 1, bs, by omega, by omega, by go_num, by omega, hS3, (BW.out.alloc BW.out.size _).trans (hG.below.mono (by have := BW.out.size; simp; omega)), by
            show _ = _
            rw [names_step HY.out, if_neg (fun h => HDQ.out (HDN.out.1.trans h)), NM.out]; simp⟩
    · have hltz : ¬ (k : Int) < (n : Int) := by omega
      have HE : Aside (namesL t q.data.toList = bs.map (·.data.toList)) := by
        show _ = _
        rw [NM.out, List.take_of_length_le (by have := HN.out; omega)]
      go_wp2
      go_ret
      exact ⟨⟨_, bs, rfl, ST.out, HE.out.symm⟩, BW.out⟩

set_option maxHeartbeats 4000000 in
set_option maxRecDepth 100000 in
theorem refList_any (t : List Ent) (q : ByteArray) (p : Option Addr) (cap : Nat) (w : World) (hL : Lies w p t) (hF : ∀ e ∈ t, e.path.size ≤ 1048576) (hn80 : t.length ≤ 80) :
    Calls Tryd.prog 34 #[.slice p t.length cap, .string q] w (ParsePost w (listL t q.data.toList).1 (listL t q.data.toList).2) := by
  obtain ⟨⟨xp, xk, xt, xo⟩, hxx⟩ : ∃ x, (getL t q.data.toList).getD zeroE = x := ⟨_, rfl⟩
  obtain ⟨bb, hbb⟩ : ∃ bb, (getL t q.data.toList).isSome = bb := ⟨_, rfl⟩
  have hge := refGet_any t q p cap w hL (by omega) ⟨xp, xk, xt, xo⟩ bb hxx hbb
  have hna := fun W (hB : Below w.heap.size w W) => refNames_any t q p cap W (hL.kept hB) hF hn80
  have HC : (Aside (listL t q.data.toList = (namesL t q.data.toList, 0)) ∧ bb = true ∧ xk = 2) ∨ (Aside (listL t q.data.toList = ([], 6)) ∧ bb = false) ∨ (Aside (listL t q.data.toList = ([], 10)) ∧ bb = true ∧ ¬ xk = 2) := by
    unfold listL noDirL
    cases hgg : getL t q.data.toList with
    | none => rw [hgg] at hbb; exact .inr (.inl ⟨rfl, hbb.symm⟩)
    | some z =>
      rw [hgg] at hbb hxx
      obtain rfl : z = ⟨xp, xk, xt, xo⟩ := hxx
      by_cases hk2 : xk = 2
      · exact .inl ⟨by simp [hk2, Aside], hbb.symm, hk2⟩
      · exact .inr (.inr ⟨by simp [hk2, Aside], hbb.symm, hk2⟩)
  obtain ⟨n, hnl⟩ : ∃ n, n = t.length := ⟨_, rfl⟩
  rw [← hnl] at hge hna hn80 ⊢
  clear hnl hL hF hxx hbb
  rcases HC with ⟨HE, rfl, rfl⟩ | ⟨HE, rfl⟩ | ⟨HE, rfl, hkk⟩
  · go_enter Tryd.func34, Tryd.ntmps34
    go_wp2_with (first
      | (go_at_call 32; refine hge.mono ?_; clear hge; rintro r w1 ⟨rfl, hB⟩; replace hB := hB.alloc hB.size (.cells #[.string xp, .int .i64 2, .string xt, .bool xo] 38))
      | (go_at_call 60; refine (hna _ hB).mono ?_; clear hna; rintro r w2 ⟨⟨v, bs, rfl, hS, hbs⟩, hB2⟩; have HB2 : Aside (Below w.heap.size w w2) := Below.onto hB hB2; have HS : Aside (Strs w2 w.heap.size v bs) := Strs.mono hS hB.size; have HBS : Aside (bs.map (·.data.toList) = namesL t q.data.toList) := hbs; clear hS hbs hB2))
    go_ret2
    exact ParsePost.mk (HE.out.trans (by rw [HBS.out])) rfl rfl HS.out rfl HB2.out
  · go_enter Tryd.func34, Tryd.ntmps34
    go_wp2_with (go_at_call 32; refine hge.mono ?_; clear hge; rintro r w1 ⟨rfl, hB⟩; replace hB := hB.alloc hB.size (.cells #[.string xp, .int .i64 xk, .string xt, .bool xo] 38))
    go_ret2
    exact ParsePost.mk HE.out rfl rfl (Strs.nil _ _) rfl hB
  · go_enter Tryd.func34, Tryd.ntmps34
    go_wp2_with (go_at_call 32; refine hge.mono ?_; clear hge; rintro r w1 ⟨rfl, hB⟩; replace hB := hB.alloc hB.size (.cells #[.string xp, .int .i64 xk, .string xt, .bool xo] 38))
    go_ret2
    exact ParsePost.mk HE.out rfl rfl (Strs.nil _ _) rfl hB
end Go.Proofs.YtampldoimpfjgaaDoor
