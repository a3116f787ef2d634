/-
  What the document's own answers on paths that make lists (package traceref1) say: Split, Clean, Parse, Less, SameTexts.
-/
import Derived.Test.YtampldoimpfjgaaDoorRefWalks1
namespace Go.Proofs.YtampldoimpfjgaaDoor
open Go.RowKit PM
set_option linter.unusedVariables false

/-- What a call that answers a list of strings leaves. -/
def ListPost (w : World) (l : List (List UInt8)) (e : Ending) (w' : World) : Prop :=
  (∃ v bs, e = .returned v ∧ Strs w' w.heap.size v bs ∧ bs.map (·.data.toList) = l) ∧ Below w.heap.size w w'

theorem pa_eat_slash (s : ByteArray) (cur : List UInt8) (k : Nat) (h : k < s.size) (hc : s[k] = 47) : pa cur (s.data.toList.drop k) = cur :: pa [] (s.data.toList.drop (k + 1)) := by
  rw [drop_get s k h, pa, if_pos hc]
theorem pa_eat (s : ByteArray) (cur : List UInt8) (k : Nat) (h : k < s.size) (hc : ¬ s[k] = 47) : pa cur (s.data.toList.drop k) = pa (cur ++ [s[k]]) (s.data.toList.drop (k + 1)) := by
  rw [drop_get s k h, pa, if_neg hc]
theorem extract_snoc (s : ByteArray) (a k : Nat) (ha : a ≤ k) (h : k < s.size) : (s.extract a (k + 1)).data.toList = (s.extract a k).data.toList ++ [s[k]] := by
  rw [Lib.extract_data, Lib.extract_data, show k + 1 - a = (k - a) + 1 by omega, List.take_add_one, List.getElem?_drop, show a + (k - a) = k by omega, List.getElem?_eq_getElem (by rw [szl]; exact h), Array.getElem_toList]
  rfl
theorem extract_same (s : ByteArray) (k : Nat) : (s.extract k k).data.toList = [] := by
  rw [Lib.extract_data]; simp
theorem grown_below {w wr w1 : World} {v : Value} {o : Obj} {B : Nat} {e : TypeId} {n : Nat} {xs : List Value} (hB : Below B w wr) (hb : B ≤ wr.heap.size) (hS : wr.ownsRow B e 1 v n xs) (hg : (wr.alloc o).grownBy w1 v.ownBlock) : Below B w w1 :=
  (hB.alloc hb _).grown hg (by simp; omega) (fun j hj => (hS.lt j hj).1)

set_option maxHeartbeats 4000000 in
theorem refSplit_any (s : ByteArray) (w : World) (hs : s.size ≤ 4294967296) :
    Calls Tryd.prog 53 #[.string s] w (ListPost w (parts s.data.toList)) := by
  obtain ⟨i0, hi, hz0, hz1, hz2⟩ := info9
  go_enter Tryd.func53, Tryd.ntmps53
  go_wp2
  go_loopw [3, 4, 8] (fun v at_ i wr => ∃ (k a : Nat) (bs : List ByteArray), k ≤ s.size ∧ a ≤ k ∧ i = .int .i64 k ∧ at_ = .int .i64 a ∧ bs.length ≤ k ∧ Strs wr w.heap.size v bs ∧ Below w.heap.size w wr ∧
      Hid (bs.map (·.data.toList) ++ pa (s.extract a k).data.toList (s.data.toList.drop k) = parts s.data.toList))
    (fun _ _ i _ => s.size - (intOf i).toNat)
  case atStart => exact ⟨0, 0, [], Nat.zero_le _, Nat.le_refl _, rfl, rfl, Nat.le_refl _, Strs.nil _ _, Below.refl _ _, by show _ = _; rw [extract_same]; simp [parts]⟩
  case round =>
    obtain ⟨k, a, bs, hk, hak, rfl, rfl, hbl, hS, hB, HI⟩ := hrel
    have hS' : wr.ownsRow w.heap.size 9 1 u3 bs.length (bs.map Value.string) := hS
    by_cases hlt : k < s.size
    · have hlt' : (k : Int) < (s.size : Int) := by omega
      have hak' : (a : Int) ≤ (k : Int) := by omega
      by_cases hc : s[k] = 47
      · have h4 : ((s[k].toNat : Int) == 47) = true := by rw [hc]; rfl
        have HN : Hid ((bs ++ [s.extract a k]).map (·.data.toList) ++ pa (s.extract (k + 1) (k + 1)).data.toList (s.data.toList.drop (k + 1)) = parts s.data.toList) := by
          show _ = _
          rw [← HI.out, pa_eat_slash s _ k hlt hc, extract_same]; simp
        clear HI hc hS
        go_wp2_with (at_builtin; refine wpList_append_own _ rfl _ _ 28 rfl w.heap.size 9 i0 (.string ByteArray.empty) 1 16 Tryd.underlying28 hi hz0 hz1 hz2 rfl (by decide) _ _ _ rfl (hS'.alloc _) ⟨wr.heap.size, 0, none⟩ 1 1 [.string (s.extract a k)] rfl rfl ?c1 ?c2 ?c3 ?c4 ?c5 ?_)
        case c1 => exact cell_one_new _ _ _
        case c2 => intro u hu; simp at hu; subst hu; rfl
        case c3 => unfold maxLen; omega
        case c4 => omega
        case c5 => have := hB.size; simp; omega
        · intro v' w1 hown hgrow _
          go_wp2
          have hB1 := grown_below hB hB.size hS' hgrow
          exact ⟨⟨k + 1, k + 1, bs ++ [s.extract a k], by omega, by omega, by go_num, by go_num, by simp; omega, by simpa [Strs] using hown, hB1, HN⟩, by simp [intOf]; omega⟩
      · have h4 : ((s[k].toNat : Int) == 47) = false := byte_eq (y := 47) hc
        have HN : Hid (bs.map (·.data.toList) ++ pa (s.extract a (k + 1)).data.toList (s.data.toList.drop (k + 1)) = parts s.data.toList) := by
          show _ = _
          rw [← HI.out, pa_eat s _ k hlt hc, extract_snoc s a k hak hlt]
        clear HI hc
        go_wp2
        exact ⟨⟨k + 1, a, bs, by omega, by omega, by go_num, rfl, by omega, hS, hB, HN⟩, by simp [intOf]; omega⟩
    · have hlt' : ¬ (k : Int) < (s.size : Int) := by omega
      obtain rfl : k = s.size := by omega
      have HN : Hid ((bs ++ [s.extract a s.size]).map (·.data.toList) = parts s.data.toList) := by
        show _ = _
        rw [← HI.out, List.drop_of_length_le (by rw [szl]; omega), pa]; simp
      clear HI hS
      go_wp2_with (at_builtin; refine wpList_append_own _ rfl _ _ 28 rfl w.heap.size 9 i0 (.string ByteArray.empty) 1 16 Tryd.underlying28 hi hz0 hz1 hz2 rfl (by decide) _ _ _ rfl (hS'.alloc _) ⟨wr.heap.size, 0, none⟩ 1 1 [.string (s.extract a s.size)] rfl rfl ?c1 ?c2 ?c3 ?c4 ?c5 ?_)
      try (case c1 => exact cell_one_new _ _ _)
      case c2 => first | rfl | (intro u hu; simp at hu; subst hu; rfl)
      case c3 => unfold maxLen; omega
      case c4 => omega
      case c5 => have := hB.size; simp; omega
      · intro v' w1 hown hgrow _
        go_wp2
        go_ret
        have hB1 := grown_below hB hB.size hS' hgrow
        exact ⟨⟨_, bs ++ [s.extract a s.size], rfl, by simpa [Strs] using hown, HN.out⟩, hB1⟩
end Go.Proofs.YtampldoimpfjgaaDoor
