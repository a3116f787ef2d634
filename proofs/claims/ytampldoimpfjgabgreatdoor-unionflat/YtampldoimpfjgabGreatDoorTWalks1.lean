/-
  How a slice of entries lies in memory; what tree.find, tree.Get and their like answer.
-/
import Derived.Test.YtampldoimpfjgabGreatDoorWalks2
import Derived.Test.YtampldoimpfjgabGreatDoorTMath2
import Derived.Shelf.SlSortCmp.QuietGrown
import Derived.Shelf.SlicesQ.Load
import Derived.Deep.LoopGhost
namespace Go.Proofs.YtampldoimpfjgabGreatDoor
open Go.RowKit PM Go.Sort
set_option linter.unusedVariables false

def encE (e : Ent) : List Value := [.string e.path, .int .i64 e.kind, .string e.text, .bool e.opq]
/-- So many draws on, with blocks laid behind it. -/
def Grown (w w' : World) : Prop := ∃ n os, w' = grow (w.drewN n) os
theorem grow_nil (w : World) : grow w #[] = w := by simp [grow]
theorem grow_two (w : World) (a b : Array Obj) : grow (grow w a) b = grow w (a ++ b) := by simp [grow]
theorem Grown.refl (w : World) : Grown w w := ⟨0, #[], by simp [grow, World.drewN]⟩
theorem Grown.trans {a b c : World} (h : Grown a b) (g : Grown b c) : Grown a c := by
  obtain ⟨n, os, rfl⟩ := h
  obtain ⟨m, ps, rfl⟩ := g
  exact ⟨n + m, os ++ ps, by simp [grow, World.drewN, Nat.add_assoc]⟩
theorem Grown.alloc {a b : World} (h : Grown a b) (o : Obj) : Grown a (b.alloc o) := h.trans ⟨0, #[o], by rw [alloc_eq_grow]; rfl⟩
theorem Grown.drewN {a b : World} (h : Grown a b) (n : Nat) : Grown a (b.drewN n) := h.trans ⟨n, #[], by simp [grow, World.drewN]⟩
theorem Grown.below {a b : World} (h : Grown a b) : Below a.heap.size a b := by
  obtain ⟨n, os, rfl⟩ := h
  refine ⟨rfl, rfl, rfl, by simp [grow, World.drewN], fun k hk => ?_⟩
  show (a.heap ++ os)[k]? = _
  rw [Array.getElem?_append_left hk]
theorem Grown.cell {a b : World} (h : Grown a b) {p : Addr} (hp : p.block < a.heap.size) : b.cell? p = a.cell? p := h.below.cell hp
theorem Grown.size {a b : World} (h : Grown a b) : a.heap.size ≤ b.heap.size := h.below.size

/-- The entries lie there. -/
def Lies (w : World) (p : Option Addr) (l : List Ent) : Prop :=
  l = [] ∨ ∃ b off, p = some ⟨b, off, none⟩ ∧ b < w.heap.size ∧ ∀ j e, l[j]? = some e → ∀ i v, (encE e)[i]? = some v → w.cell? ⟨b, off + j * 4 + i, none⟩ = some v
theorem Lies.below {w w' : World} {p : Option Addr} {l : List Ent} (h : Lies w p l) {B : Nat} (hB : Below B w w') (hs : w.heap.size ≤ B) : Lies w' p l := by
  rcases h with h | ⟨b, off, h1, h2, h3⟩
  · exact .inl h
  · exact .inr ⟨b, off, h1, Nat.lt_of_lt_of_le h2 hB.size, fun j e hj i v hv => (hB.cell (p := ⟨b, off + j * 4 + i, none⟩) (Nat.lt_of_lt_of_le h2 hs)).trans (h3 j e hj i v hv)⟩
theorem Lies.kept {w w' : World} {p : Option Addr} {l : List Ent} (h : Lies w p l) (hB : Below w.heap.size w w') : Lies w' p l := h.below hB (Nat.le_refl _)
theorem Lies.grown {w w' : World} {p : Option Addr} {l : List Ent} (h : Lies w p l) (hB : Grown w w') : Lies w' p l := h.kept hB.below
theorem Lies.nil (w : World) (p : Option Addr) : Lies w p [] := .inl rfl
theorem Lies.take {w : World} {p : Option Addr} {l : List Ent} (h : Lies w p l) (k : Nat) : Lies w p (l.take k) := by
  rcases h with h | ⟨b, off, h1, h2, h3⟩
  · exact .inl (by rw [h]; simp)
  · refine .inr ⟨b, off, h1, h2, fun j e hj => h3 j e ?_⟩
    rw [List.getElem?_take] at hj
    split at hj
    · exact hj
    · cases hj
/-- What stands there. -/
theorem Lies.cells {w : World} {b off : Nat} {l : List Ent} (h3 : ∀ j e, l[j]? = some e → ∀ i v, (encE e)[i]? = some v → w.cell? ⟨b, off + j * 4 + i, none⟩ = some v) (hb : b < w.heap.size) {W : World} (hW : Below w.heap.size w W) {j : Nat} {e : Ent} (he : l[j]? = some e) :
    W.cell? ⟨b, off + j * 4, none⟩ = some (.string e.path) ∧ W.cell? ⟨b, off + j * 4 + 1, none⟩ = some (.int .i64 e.kind) ∧ W.cell? ⟨b, off + j * 4 + 2, none⟩ = some (.string e.text) ∧ W.cell? ⟨b, off + j * 4 + 3, none⟩ = some (.bool e.opq) := by
  have h := fun i v hv => (hW.cell (p := ⟨b, off + j * 4 + i, none⟩) hb).trans (h3 j e he i v hv)
  exact ⟨h 0 _ rfl, h 1 _ rfl, h 2 _ rfl, h 3 _ rfl⟩
/-- No text is longer than a machine's. -/
def Fits (l : List Ent) : Prop := ∀ e ∈ l, e.path.size ≤ maxLen ∧ e.text.size ≤ maxLen
theorem Fits.at {l : List Ent} (h : Fits l) {j : Nat} {e : Ent} (he : l[j]? = some e) : e.path.size ≤ maxLen ∧ e.text.size ≤ maxLen := h e (List.mem_of_getElem? he)

theorem cmpE_any (e : Ent) (q : ByteArray) (w : World) (he : e.path.size ≤ maxLen) (hq : q.size ≤ maxLen) :
    Calls Tryz.prog 78 #[.agg #[.string e.path, .int .i64 e.kind, .string e.text, .bool e.opq], .string q] w fun r w' => r = .returned (.int .i64 (cmp e.p q.data.toList)) ∧ Grown w w' := by
  go_enter Tryz.func78, Tryz.ntmps78
  go_wp2_with (go_at_call 79; refine (compare_any _ _ _ he hq).mono ?_; rintro r w' ⟨rfl, n, rfl⟩)
  go_ret
  exact ⟨rfl, ((Grown.refl w).alloc _).drewN _⟩

def FindPost (t : List Ent) (q : List UInt8) (w : World) (e : Ending) (w' : World) : Prop :=
  ∃ i : Nat, e = .returned (.tuple #[.int .i64 i, .bool (isAt t q i)]) ∧ PlaceAt t q i ∧ Grown w w'

set_option maxHeartbeats 4000000 in
theorem search_any (t : List Ent) (q : ByteArray) (p : Option Addr) (cap : Nat) (w : World) (hL : Lies w p t) (hF : Fits t) (hn : t.length < 4611686018427387904) (hq : q.size ≤ maxLen) :
    Calls Tryz.prog 77 #[.slice p t.length cap, .string q, .func (.func 78) #[] #[]] w (FindPost t q.data.toList w) := by
  have HF : Aside (Fits t) := hF
  have HL : Aside (Lies w p t) := hL
  clear hL hF
  obtain ⟨n, hnl⟩ : ∃ n, n = t.length := ⟨_, rfl⟩
  have HN : Aside (n = t.length) := hnl
  rw [← hnl] at hn ⊢
  clear hnl
  go_enter Tryz.func77, Tryz.ntmps77
  go_wp2
  go_loopg [9, 10] n (fun kx s9 s10 wr => ∃ lo hi : Nat, s9 = .int .i64 lo ∧ s10 = .int .i64 hi ∧ lo ≤ hi ∧ hi ≤ n ∧ hi - lo ≤ kx ∧ Aside (Grown w wr) ∧
    Aside ((∀ (h : 0 < lo) (h' : lo - 1 < t.length), cmp (t[lo - 1]'h').p q.data.toList < 0) ∧ (∀ (h : hi < t.length), 0 ≤ cmp (t[hi]'h).p q.data.toList)))
  case atStart => exact ⟨0, n, rfl, rfl, Nat.zero_le _, Nat.le_refl _, by omega, Grown.refl w, (⟨fun h => absurd h (Nat.not_lt_zero _), fun h => by have := HN.out; omega⟩ : (∀ (h : 0 < 0) (h' : 0 - 1 < t.length), cmp (t[0 - 1]'h').p q.data.toList < 0) ∧ (∀ (h : n < t.length), 0 ≤ cmp (t[n]'h).p q.data.toList))⟩
  case round =>
    obtain ⟨lo, hi, rfl, rfl, hlh, hin, hg, S1, I⟩ := hrel
    by_cases hlt : lo < hi
    · obtain ⟨y, hy⟩ : ∃ y, t[(lo + hi) / 2]? = some y := ⟨_, List.getElem?_eq_getElem (by have := HN.out; omega)⟩
      have Y : Aside (t[(lo + hi) / 2]? = some y) := hy
      rcases HL.out with h0 | ⟨b, off, rfl, hb, hc⟩
      · rw [h0] at hy; simp at hy
      obtain ⟨c0, c1, c2, c3⟩ := Lies.cells hc hb S1.out.below hy
      have hyp := (HF.out.at hy).1
      clear hc hy
      have hcl := fun W => cmpE_any y q W hyp hq
      have HI1 : Aside (cmp y.p q.data.toList < 0 → ∀ (h : 0 < (lo + hi) / 2 + 1) (h' : (lo + hi) / 2 + 1 - 1 < t.length), cmp (t[(lo + hi) / 2 + 1 - 1]'h').p q.data.toList < 0) := fun h1 _ h' => by
        have := (List.getElem?_eq_some_iff.1 Y.out).2; simp only [Nat.add_sub_cancel] at h' ⊢; rw [this]; exact h1
      have HI2 : Aside (¬ cmp y.p q.data.toList < 0 → ∀ (h : (lo + hi) / 2 < t.length), 0 ≤ cmp (t[(lo + hi) / 2]'h).p q.data.toList) := fun h1 h => by
        have := (List.getElem?_eq_some_iff.1 Y.out).2; rw [this]; omega
      generalize cmp y.p q.data.toList = c at hcl HI1 HI2
      by_cases hyx : c < 0
      · go_wp2_with (go_at_call 78; refine (hcl _).mono ?_; rintro e w' ⟨rfl, hgr⟩)
        go_roundg (hi - ((lo + hi) / 2 + 1))
        case measure => omega
        case rel =>
          exact ⟨(lo + hi) / 2 + 1, hi, by rw [show ((lo : Int) + (hi : Int)) / 2 + 1 = (((lo + hi) / 2 + 1 : Nat) : Int) by omega], rfl, by omega, hin, Nat.le_refl _, S1.out.trans hgr, (⟨HI1.out hyx, I.out.2⟩ : _ ∧ _)⟩
      · go_wp2_with (go_at_call 78; refine (hcl _).mono ?_; rintro e w' ⟨rfl, hgr⟩)
        go_roundg ((lo + hi) / 2 - lo)
        case measure => omega
        case rel =>
          exact ⟨lo, (lo + hi) / 2, rfl, by rw [show ((lo : Int) + (hi : Int)) / 2 = (((lo + hi) / 2 : Nat) : Int) by omega], by omega, by omega, Nat.le_refl _, S1.out.trans hgr, (⟨I.out.1, HI2.out hyx⟩ : _ ∧ _)⟩
    · obtain rfl : hi = lo := by omega
      have PL : Aside (PlaceAt t q.data.toList hi) := ⟨by have := HN.out; omega, I.out.1, I.out.2⟩
      by_cases hlen : hi < n
      · obtain ⟨y, hy⟩ : ∃ y, t[hi]? = some y := ⟨_, List.getElem?_eq_getElem (by have := HN.out; omega)⟩
        have Y : Aside (t[hi]? = some y) := hy
        rcases HL.out with h0 | ⟨b, off, rfl, hb, hc⟩
        · rw [h0] at hy; simp at hy
        obtain ⟨c0, c1, c2, c3⟩ := Lies.cells hc hb S1.out.below hy
        have hyp := (HF.out.at hy).1
        clear hc hy
        have hcl := fun W => cmpE_any y q W hyp hq
        have HA : Aside (isAt t q.data.toList hi = decide (cmp y.p q.data.toList = 0)) := by
          obtain ⟨h1, h2⟩ := List.getElem?_eq_some_iff.1 Y.out
          show _ = _
          rw [isAt, dif_pos h1, h2, Bool.eq_iff_iff]; simp [cmp_zero]
        generalize cmp y.p q.data.toList = c at hcl HA
        have hlz : (hi : Int) < (n : Int) := by omega
        by_cases hyx : c = 0
        · go_wp2_with (go_at_call 78; refine (hcl _).mono ?_; rintro e w' ⟨rfl, hgr⟩)
          go_ret2
          exact ⟨hi, by rw [HA.out]; simp [hyx], PL.out, S1.out.trans hgr⟩
        · go_wp2_with (go_at_call 78; refine (hcl _).mono ?_; rintro e w' ⟨rfl, hgr⟩)
          go_ret2
          exact ⟨hi, by rw [HA.out]; simp [hyx], PL.out, S1.out.trans hgr⟩
      · have hlz : ¬ (hi : Int) < (n : Int) := by omega
        have HA : Aside (isAt t q.data.toList hi = false) := by show _ = _; rw [isAt, dif_neg]; have := HN.out; omega
        go_wp2
        go_ret2
        exact ⟨hi, by rw [HA.out]; first | rfl | (simp; omega) | (simp [hlz]; done) | simp, PL.out, S1.out⟩

theorem find_any (t : List Ent) (q : ByteArray) (p : Option Addr) (cap : Nat) (w : World) (hL : Lies w p t) (hF : Fits t) (hn : t.length < 4611686018427387904) (hq : q.size ≤ maxLen) :
    Calls Tryz.prog 41 #[.slice p t.length cap, .string q] w (FindPost t q.data.toList w) := by
  have hs := fun W (hg : Grown w W) => search_any t q p cap W (hL.grown hg) hF hn hq
  go_enter Tryz.func41, Tryz.ntmps41
  go_wp2_with (go_at_call 77; refine (hs _ (Grown.refl _)).mono ?_; rintro e w' ⟨i, rfl, hp, hg⟩)
  go_ret2
  exact ⟨i, rfl, hp, hg⟩
end Go.Proofs.YtampldoimpfjgabGreatDoor
