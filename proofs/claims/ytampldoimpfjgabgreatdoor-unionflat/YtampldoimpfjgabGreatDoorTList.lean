/-
  tree.List of a right tree: the names of what lies right in a directory.
-/
import Derived.Test.YtampldoimpfjgabGreatDoorTSame
namespace Go.Proofs.YtampldoimpfjgabGreatDoor
open Go.RowKit PM Go.Sort
set_option linter.unusedVariables false

def namesL (t : List Ent) (q : List UInt8) : List (List UInt8) := (t.filter fun e => decide (dirOf e.p = q)).map fun e => (cutL e.p).2
def listL (t : List Ent) (q : List UInt8) : List (List UInt8) × Int := if noDirL t q = 0 then (namesL t q, 0) else ([], noDirL t q)
theorem names_step {t : List Ent} {k : Nat} {y : Ent} {q : List UInt8} (hy : t[k]? = some y) : namesL (t.take (k + 1)) q = namesL (t.take k) q ++ (if dirOf y.p = q then [(cutL y.p).2] else []) := by
  rw [take_step hy]
  unfold namesL
  rw [List.filter_append, List.map_append]
  by_cases h : dirOf y.p = q <;> simp [h]
theorem cut_grown (s : ByteArray) (w : World) (hs : s.size < 4611686018427387904) : Calls Tryz.prog 73 #[.string s] w fun e w' => (∃ d n : ByteArray, e = .returned (.tuple #[.string d, .string n]) ∧ d.data.toList = (cutL s.data.toList).1 ∧ n.data.toList = (cutL s.data.toList).2) ∧ Grown w w' :=
  (cut_any s w hs).mono fun e w' ⟨h, n, hw⟩ => ⟨h, by rw [hw]; exact (Grown.refl w).drewN n⟩
theorem below_build {w wr w3 w1 : World} {o : Obj} {base : Nat} {r : Option Nat} (hB : Below base w wr) (hb : base ≤ wr.heap.size) (hG : Grown (wr.alloc o) w3) (o2 : Obj) (hg : (w3.alloc o2).grownBy w1 r) (hr : ∀ k, r = some k → base ≤ k) : Below base w w1 := by
  have h1 : Below base w w3 := (hB.alloc hb o).trans (hG.below.mono (by simp; omega))
  have h3 := hG.size
  simp at h3
  exact (h1.alloc (by omega) o2).grown hg (by simp; omega) hr

theorem eq_cases (d q : ByteArray) : ((d.toList == q.toList) = true ∧ Aside (d.data.toList = q.data.toList)) ∨ ((d.toList == q.toList) = false ∧ Aside (¬ d.data.toList = q.data.toList)) := by
  by_cases h : d.data.toList = q.data.toList
  · exact .inl ⟨(eq_parts h).1, h⟩
  · exact .inr ⟨(ne_parts h).1, h⟩
set_option maxHeartbeats 4000000 in
set_option maxRecDepth 100000 in
theorem list_any (t : List Ent) (q : ByteArray) (p : Option Addr) (cap : Nat) (w : World) (hL : Lies w p t) (hF : Fits t) (hr : Right false t) (hq : q.size ≤ maxLen) :
    Calls Tryz.prog 179 #[.slice p t.length cap, .string q] w (ParsePost w (listL t q.data.toList).1 (listL t q.data.toList).2) := by
  have hn80 := hr.len
  have hnd := noDir_any t q p cap w hL hF (by omega) hq
  have HR : Aside (Right false t) := hr
  have HL : Aside (Lies w p t) := hL
  have HLL : Aside (listL t q.data.toList = if noDirL t q.data.toList = 0 then (namesL t q.data.toList, 0) else ([], noDirL t q.data.toList)) := rfl
  obtain ⟨i0, hi, hz0, hz1, hz2⟩ := info9
  obtain ⟨n, hnl⟩ : ∃ n, n = t.length := ⟨_, rfl⟩
  have HN : Aside (n = t.length) := hnl
  rw [← hnl] at hnd hn80 ⊢
  clear hnl hr hL hF
  go_enter Tryz.func179, Tryz.ntmps179
  go_wp2_with (go_at_call 76; refine hnd.mono ?_; clear hnd; rintro e w1 ⟨r, rfl, hrr, hB⟩; have HD : Aside (r = noDirL t q.data.toList) := hrr HR.out.sorted; clear hrr; by_cases hr0 : r = 0)
  · subst hr0
    go_loopg [7, 20] n (fun gg v i wr => ∃ (k : Nat) (bs : List ByteArray), k ≤ n ∧ n - k ≤ gg ∧ i = .int .i64 k ∧ bs.length ≤ k ∧ Aside (Strs wr w.heap.size v bs) ∧ Aside (Below w.heap.size w wr) ∧ Aside (bs.map (·.data.toList) = namesL (t.take k) q.data.toList))
    case atStart => exact ⟨0, [], Nat.zero_le _, by omega, rfl, Nat.le_refl _, Strs.nil _ _, hB, by simp [namesL, Aside]⟩
    case round =>
      obtain ⟨k, bs, hk, hgg, rfl, hbl, ST, BW, NM⟩ := hrel
      by_cases hlt : k < n
      · have hltz : (k : Int) < (n : Int) := by omega
        obtain ⟨y, hy⟩ : ∃ y, t[k]? = some y := ⟨_, List.getElem?_eq_getElem (by have := HN.out; omega)⟩
        have HY : Aside (t[k]? = some y) := hy
        have hy80 := clean_size (HR.out.clean (List.mem_of_getElem? hy))
        rcases HL.out with h0 | ⟨b, off, rfl, hb, hc⟩
        · rw [h0] at hy; simp at hy
        obtain ⟨c0, c1, c2, c3⟩ := Lies.cells hc hb BW.out hy
        clear hc hy
        have hcu := fun W => cut_grown y.path W (by omega)
        go_wp2_with (first
          | (go_at_call 73; refine (hcu _).mono ?_; clear hcu; rintro e w3 ⟨⟨d, nm, rfl, hd, hnm⟩, hG⟩; have HDN : Aside (d.data.toList = dirOf y.p ∧ nm.data.toList = (cutL y.p).2) := ⟨hd, hnm⟩; clear hd hnm; have hS3 : w3.ownsRow w.heap.size 9 1 u7 bs.length (bs.map Value.string) := ST.out.below (((Grown.refl wr).alloc _).trans hG).below; rcases eq_cases d q with ⟨hdq, HDQ⟩ | ⟨hdq, HDQ⟩)
          | (at_builtin; refine wpList_append_own _ rfl _ _ 60 rfl w.heap.size 9 i0 (.string ByteArray.empty) 1 16 Tryz.underlying60 hi hz0 hz1 hz2 rfl (by decide) _ _ _ rfl (hS3.alloc _) ⟨w3.heap.size, 0, none⟩ 1 1 [.string nm] rfl rfl ?c1 ?c2 ?c3 ?c4 ?c5 ?_))
        case c1 => exact cell_one_new _ _ _
        case c2 => intro u hu; simp at hu; subst hu; rfl
        case c3 => unfold maxLen; omega
        case c4 => omega
        case c5 => have := hG.size; have := BW.out.size; simp at *; omega
        · intro v' w4 hown hgrow _
          have HB4 : Aside (Below w.heap.size w w4) := below_build BW.out BW.out.size hG _ hgrow (fun j hj => (hS3.lt j hj).1)
          have HS4 : Aside (Strs w4 w.heap.size v' (bs ++ [nm])) := by simpa [Strs, Aside] using hown
          clear hown hgrow
          go_wp2
          go_roundg (n - (k + 1))
          case measure => omega
          case rel => exact ⟨k + 1, bs ++ [nm], by omega, by omega, by go_num, by simp; omega, HS4.out, HB4.out, by
              show _ = _
              rw [names_step HY.out, if_pos (HDN.out.1.symm.trans HDQ.out), ← NM.out, ← HDN.out.2]; simp⟩
        · go_roundg (n - (k + 1))
          case measure => omega
          case rel => exact ⟨k + 1, bs, by omega, by omega, by go_num, by omega, hS3, (BW.out.alloc BW.out.size _).trans (hG.below.mono (by have := BW.out.size; simp; omega)), by
              show _ = _
              rw [names_step HY.out, if_neg (fun h => HDQ.out (HDN.out.1.trans h)), NM.out]; simp⟩
      · have hltz : ¬ (k : Int) < (n : Int) := by omega
        have HE : Aside (listL t q.data.toList = (bs.map (·.data.toList), 0)) := by
          show _ = _
          rw [HLL.out, if_pos HD.out.symm, NM.out, List.take_of_length_le (by have := HN.out; omega)]
        go_wp2
        go_ret2
        exact ParsePost.mk HE.out rfl rfl ST.out rfl BW.out
  · have HE : Aside (listL t q.data.toList = ([], r)) := by show _ = _; rw [HLL.out, if_neg (by rw [← HD.out]; exact hr0), HD.out]
    go_ret2
    exact ParsePost.mk HE.out rfl rfl (Strs.nil _ _) rfl hB
end Go.Proofs.YtampldoimpfjgabGreatDoor
