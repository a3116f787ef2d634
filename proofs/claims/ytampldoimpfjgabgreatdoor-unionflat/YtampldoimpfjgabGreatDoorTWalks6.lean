/-
  What tree.wrongPlace, tree.firstFault and tree.Wrong answer.
-/
import Derived.Test.YtampldoimpfjgabGreatDoorTWalks5
namespace Go.Proofs.YtampldoimpfjgabGreatDoor
open Go.RowKit PM Go.Sort
set_option linter.unusedVariables false

theorem placeL_of {t : List Ent} {q : List UInt8} {r : Int} (ha : notAhead t q = false) (hr : Sorted t → r = noDirL t (dirOf q)) (hs : Sorted t) : placeL t q = if r = 0 then 0 else 10 := by
  rw [placeL, ha, ← hr hs]; rfl
set_option maxHeartbeats 1000000 in
theorem wrongPlace_any (t : List Ent) (q : ByteArray) (p : Option Addr) (cap : Nat) (w : World) (hL : Lies w p t) (hF : Fits t) (hn : t.length < 4611686018427387904) (hq : q.size ≤ maxLen) (hq62 : q.size < 4611686018427387904) :
    Calls Tryz.prog 111 #[.slice p t.length cap, .string q] w (NumPost (fun n => Sorted t → n = placeL t q.data.toList) w) := by
  have hs := fun W (hB : Below w.heap.size w W) => noDirFor_any t q p cap W (hL.kept hB) hF hn hq hq62
  by_cases h0 : t = []
  · have HA : Aside (notAhead t q.data.toList = false) := by show _ = _; rw [h0]; rfl
    obtain ⟨n, hnl⟩ : ∃ n, n = t.length := ⟨_, rfl⟩
    have hz : n = 0 := by rw [hnl, h0]; rfl
    rw [← hnl] at hs ⊢
    clear hnl h0
    subst hz
    go_enter Tryz.func111, Tryz.ntmps111
    go_wp2_with (go_at_call 40; refine (hs _ (Below.refl _ _)).mono ?_; clear hs; rintro e w' ⟨r, rfl, hr, hB⟩; have HR : Aside (Sorted t → r = noDirL t (dirOf q.data.toList)) := hr; clear hr; by_cases hr0 : r = 0)
    · go_ret
      exact ⟨_, rfl, (fun h => by rw [placeL_of HA.out HR.out h, if_pos hr0]), hB⟩
    · go_ret
      exact ⟨_, rfl, (fun h => by rw [placeL_of HA.out HR.out h, if_neg hr0]), hB⟩
  · rcases hL with h | ⟨b, off, rfl, hb, hc⟩
    · exact absurd h h0
    obtain ⟨n, hnl⟩ : ∃ n, t.length = n + 1 := ⟨t.length - 1, by cases t with | nil => exact absurd rfl h0 | cons => simp⟩
    obtain ⟨y, hy⟩ : ∃ y, t[n]? = some y := ⟨_, List.getElem?_eq_getElem (by omega)⟩
    have HA : Aside (notAhead t q.data.toList = decide (0 ≤ cmp y.p q.data.toList)) := by
      show _ = _
      have : t.getLast? = some y := by rw [List.getLast?_eq_getElem?, hnl]; exact hy
      rw [notAhead, this]
    have hyp := (hF.at hy).1
    obtain ⟨c0, _, _, _⟩ := Lies.cells hc hb (Below.refl _ w) hy
    rw [hnl] at hs hn ⊢
    clear hc hy h0 hnl hF
    have hcmp := compare_any y.path q w hyp hq
    rw [show cmp y.path.data.toList q.data.toList = cmp y.p q.data.toList from rfl] at hcmp
    generalize cmp y.p q.data.toList = c at hcmp HA
    have hidx : ((n : Int) + 1 - 1) = n := by omega
    by_cases hge : 0 ≤ c
    · go_enter Tryz.func111, Tryz.ntmps111
      go_wp2_with (go_at_call 79; refine hcmp.mono ?_; clear hcmp; rintro e w' ⟨rfl, k, rfl⟩)
      go_ret
      exact ⟨2, rfl, (fun h => by rw [placeL, HA.out]; simp [hge]), below_drewN (Below.refl _ _) _⟩
    · have hge' : decide (0 ≤ c) = false := by simpa using hge
      have HA' : Aside (notAhead t q.data.toList = false) := by show _ = _; rw [HA.out, hge']
      go_enter Tryz.func111, Tryz.ntmps111
      go_wp2_with (first
        | (go_at_call 79; refine hcmp.mono ?_; clear hcmp; rintro e w' ⟨rfl, k, rfl⟩)
        | (go_at_call 40; refine (hs _ (below_drewN (Below.refl _ _) _)).mono ?_; clear hs; rintro e w' ⟨r, rfl, hr, hB⟩; have HR : Aside (Sorted t → r = noDirL t (dirOf q.data.toList)) := hr; clear hr; by_cases hr0 : r = 0))
      · go_ret
        exact ⟨_, rfl, (fun h => by rw [placeL_of HA'.out HR.out h, if_pos hr0]), Below.onto (below_drewN (Below.refl _ _) _) hB⟩
      · go_ret
        exact ⟨_, rfl, (fun h => by rw [placeL_of HA'.out HR.out h, if_neg hr0]), Below.onto (below_drewN (Below.refl _ _) _) hB⟩
end Go.Proofs.YtampldoimpfjgabGreatDoor
