/-
  The document's own Bytes: how each byte of an owner's is.
-/
import Derived.Test.YtampldoimpfjgabRK1
import Derived.Test.YtampldoimpfjgabKMath4
import Derived.Laws.OwnMore
namespace Go.Proofs.Ytampldoimpfjgab
open Go.RowKit Go.Sort KM
set_option linter.unusedVariables false

/-- A block of 1001 numbers. -/
def Ints (w : World) (g : Nat) (F : Nat → Int) : Prop := ∃ cur : Array Value, w.heap[g]? = some (.cells cur 3 (0, 0)) ∧ cur.size = 1001 ∧ ∀ k, k < 1001 → cur[k]? = some (.int .i64 (F k))
theorem Ints.lt {w : World} {g : Nat} {F : Nat → Int} (h : Ints w g F) : g < w.heap.size := by
  obtain ⟨cur, hc, _⟩ := h
  exact (Array.getElem?_eq_some_iff.1 hc).1
theorem Ints.cell {w : World} {g : Nat} {F : Nat → Int} (h : Ints w g F) {k : Nat} (hk : k < 1001) : w.cell? ⟨g, k, none⟩ = some (.int .i64 (F k)) ∧ w.frozen? ⟨g, k, none⟩ = false := by
  obtain ⟨cur, hc, hs, hh⟩ := h
  exact ⟨by simp [World.cell?, hc, hh k hk], by simp [World.frozen?, hc]⟩
theorem Ints.below {w w' : World} {g B : Nat} {F : Nat → Int} (h : Ints w g F) (hB : Below B w w') (hg : g < B) : Ints w' g F := by
  obtain ⟨cur, hc, hh⟩ := h
  exact ⟨cur, (hB.block g hg).trans hc, hh⟩
theorem Ints.kept {w w' : World} {g : Nat} {F : Nat → Int} (h : Ints w g F) (hB : Below w.heap.size w w') : Ints w' g F := h.below hB h.lt
theorem heap_set1 {w : World} {g : Nat} {cur : Array Value} {t : TypeId} {f : Nat × Nat} (h : w.heap[g]? = some (.cells cur t f)) (o : Nat) (v : Value) : (w.setCell ⟨g, o, none⟩ v).heap[g]? = some (.cells (cur.setIfInBounds o v) t f) := by
  simp [World.setCell, Array.getElem?_modify, h]
theorem Ints.set {w : World} {g : Nat} {F : Nat → Int} (h : Ints w g F) {k : Nat} (hk : k < 1001) (x : Int) : Ints (w.setCell ⟨g, k, none⟩ (.int .i64 x)) g (fun j => if j = k then x else F j) := by
  obtain ⟨cur, hc, hs, hh⟩ := h
  refine ⟨_, heap_set1 hc k _, by simpa using hs, fun j hj => ?_⟩
  rw [Array.getElem?_setIfInBounds]
  by_cases e : k = j
  · subst e; rw [if_pos rfl, if_pos (by omega)]; simp
  · rw [if_neg e, hh j hj]; simp only; rw [if_neg (fun h => e (Eq.symm h))]
theorem Ints.congr {w : World} {g : Nat} {F G : Nat → Int} (h : Ints w g F) (e : ∀ k, k < 1001 → F k = G k) : Ints w g G := by
  obtain ⟨cur, hc, hs, hh⟩ := h
  exact ⟨cur, hc, hs, fun k hk => by rw [hh k hk, e k hk]⟩
def zeros : Array Value := madeCells #[.int .i64 0] 1001
theorem zeros_ints (w : World) : Ints (w.alloc (.cells zeros 3)) w.heap.size (fun _ => 0) := by
  refine ⟨zeros, by show (w.heap.push _)[w.heap.size]? = _; simp, size_madeCells _ _, fun k hk => ?_⟩
  have : zeros.toList = List.replicate 1001 (.int .i64 0) := toList_madeCells_one _ _
  rw [← Array.getElem?_toList, this, List.getElem?_replicate, if_pos hk]
theorem infoI : ∃ i0, Try.prog.info? 3 = some i0 ∧ i0.zero = some (.int .i64 0) ∧ i0.size = 1 ∧ i0.bytes = 8 := by
  have h : (Try.prog.info? 3).map (fun i => (i.zero, i.size, i.bytes)) = some (some (.int .i64 0), 1, 8) := by kernel_rfl
  cases hi : Try.prog.info? 3 with
  | none => rw [hi] at h; cases h
  | some i0 =>
    rw [hi] at h
    simp only [Option.map_some, Option.some.injEq, Prod.mk.injEq] at h
    exact ⟨i0, rfl, h.1, h.2.1, h.2.2⟩
theorem make_ints (w : World) : Sem.run Try.prog (Instr.makeSlice 51 (.int .i64 1001) (.int .i64 1001)) w = .ok (.slice (some ⟨w.heap.size, 0, none⟩) 1001 1001) (w.alloc (.cells zeros 3)) := by
  obtain ⟨i0, hi, hz0, hz1, hz2⟩ := infoI
  have h := run_make (P := Try.prog) w 51 3 i0 (.int .i64 0) Try.underlying51 hi hz0 .i64 .i64 1001 1001 (by decide) (by decide) (by rw [hz2]; decide) (by decide)
  rw [hz1] at h
  exact h
/-- In a round: the lock's box, and the numbers. -/
structure YInv (Y g : Nat) (yo : Int) (kf kt : Nat) (ya : Bool) (F : Nat → Int) (w W : World) : Prop where
  ys : W.cell? ⟨Y, 0, none⟩ = some (.int .i64 yo) ∧ W.cell? ⟨Y, 1, none⟩ = some (.int .i64 (kf : Int)) ∧ W.cell? ⟨Y, 2, none⟩ = some (.int .i64 (kt : Int)) ∧ W.cell? ⟨Y, 3, none⟩ = some (.bool ya)
  ints : Ints W g F
  below : Below w.heap.size w W
  ne : g ≠ Y
  base : w.heap.size ≤ g
theorem YInv.congr {Y g : Nat} {yo : Int} {kf kt : Nat} {ya : Bool} {F G : Nat → Int} {w W : World} (h : YInv Y g yo kf kt ya F w W) (e : ∀ k, F k = G k) : YInv Y g yo kf kt ya G w W :=
  ⟨h.ys, h.ints.congr (fun k _ => e k), h.below, h.ne, h.base⟩
theorem YInv.set {Y g : Nat} {yo : Int} {kf kt : Nat} {ya : Bool} {F : Nat → Int} {w W : World} (h : YInv Y g yo kf kt ya F w W) {k : Nat} (hk : k < 1001) (x : Int) : YInv Y g yo kf kt ya (fun j => if j = k then x else F j) w (W.setCell ⟨g, k, none⟩ (.int .i64 x)) := by
  have hne : ∀ i, (⟨g, k, none⟩ : Addr) ≠ ⟨Y, i, none⟩ := fun i e => h.ne (by simpa using congrArg Addr.block e)
  obtain ⟨a, b, c, d⟩ := h.ys
  exact ⟨⟨(World.cell?_setCell_other (h := hne 0) ..).trans a, (World.cell?_setCell_other (h := hne 1) ..).trans b, (World.cell?_setCell_other (h := hne 2) ..).trans c, (World.cell?_setCell_other (h := hne 3) ..).trans d⟩, h.ints.set hk x, h.below.setCell h.base _, h.ne, h.base⟩
theorem YInv.start {wr w : World} {yo : Int} {kf kt : Nat} {ya : Bool} {F : Nat → Int} (h : Ints wr w.heap.size F) (hB : Below w.heap.size w wr) : YInv wr.heap.size w.heap.size yo kf kt ya F w (wr.alloc (.cells #[.int .i64 yo, .int .i64 (kf : Int), .int .i64 (kt : Int), .bool ya] 24)) :=
  ⟨(new4 (Nat.lt_succ_self _) (Below.refl _ _)).1, h.kept ((Grown.refl wr).alloc _).below, Below.onto hB ((Grown.refl wr).alloc _).below, Nat.ne_of_lt h.lt, Nat.le_refl _⟩
set_option maxHeartbeats 800000 in
theorem refBytes_any (l : List Lk) (o : Int) (p : Option Addr) (cap : Nat) (w : World) (hL : Lies w p l) (hn : l.length ≤ 40) (hok : ∀ x ∈ l, okK x) :
    Calls Try.prog 27 #[.slice p l.length cap, .int .i64 o] w fun r w' => r = .returned (.slice (some ⟨w.heap.size, 0, none⟩) 1001 1001) ∧ Ints w' w.heap.size (bytesF o (fun _ => 0) l) ∧ Below w.heap.size w w' := by
  have HL : Aside (Lies w p l) := hL
  have HOK : Aside (∀ x ∈ l, okK x) := hok
  obtain ⟨n, hnl⟩ : ∃ n, n = l.length := ⟨_, rfl⟩
  have HN : Aside (n = l.length) := hnl
  rw [← hnl] at hn ⊢
  clear hnl hL hok
  have hmk := make_ints
  have HZ : Aside (Ints (w.alloc (.cells zeros 3)) w.heap.size (fun _ => 0)) := zeros_ints w
  go_enter Try.func27, Try.ntmps27
  go_wp2
  go_loopg [12] n (fun gg s12 wr => ∃ j : Nat, j ≤ n ∧ n - j ≤ gg ∧ s12 = .int .i64 j ∧ Aside (Ints wr w.heap.size (bytesF o (fun _ => 0) (l.take j)) ∧ Below w.heap.size w wr))
  case atStart => exact ⟨0, Nat.zero_le _, by omega, rfl, (⟨HZ.out, ((Grown.refl w).alloc _).below⟩ : _ ∧ _)⟩
  case round =>
    obtain ⟨j, hj, hg, rfl, J⟩ := hrel
    by_cases hlt : j < n
    · have hltz : (j : Int) < (n : Int) := by omega
      obtain ⟨y, hy⟩ : ∃ y, l[j]? = some y := ⟨_, List.getElem?_eq_getElem (by have := HN.out; omega)⟩
      have HS : Aside (∀ k, bytesF o (fun _ => 0) (l.take (j + 1)) k = if y.o = o ∧ y.f ≤ k ∧ (k : Int) < y.t then howB y.a else bytesF o (fun _ => 0) (l.take j) k) := fun k => by rw [take_step hy, bytesF_snoc]
      obtain ⟨_, _, y1, y2, y3⟩ := HOK.out y (List.mem_of_getElem? hy)
      rcases HL.out with h0 | ⟨b, off, rfl, hb, hc⟩
      · rw [h0] at hy; simp at hy
      obtain ⟨c0, c1, c2, c3⟩ := Lies.cells hc hb J.out.2 hy
      have hsz := J.out.2.size
      have hgl := J.out.1.lt
      have hb' : b < wr.heap.size := by omega
      have hne : b ≠ wr.heap.size := by omega
      clear hc hy
      obtain ⟨yo, yf, yt, ya⟩ := y
      simp only at y1 y2 y3 c0 c1 c2 c3 HS
      obtain ⟨kf, rfl⟩ := Int.eq_ofNat_of_zero_le y1
      obtain ⟨kt, rfl⟩ := Int.eq_ofNat_of_zero_le (show 0 ≤ yt by omega)
      have HX : Aside (YInv wr.heap.size w.heap.size yo kf kt ya (bytesF o (fun _ => 0) (l.take j)) w (wr.alloc (.cells #[.int .i64 yo, .int .i64 (kf : Int), .int .i64 (kt : Int), .bool ya] 24))) := YInv.start J.out.1 J.out.2
      by_cases ho : yo = o
      · subst ho
        go_wp2
        go_loopg [8] 1001 (fun gg s8 wr2 => ∃ kk : Nat, kf ≤ kk ∧ kk ≤ kt ∧ 1001 - kk ≤ gg ∧ s8 = .int .i64 kk ∧ Aside (YInv wr.heap.size w.heap.size yo kf kt ya (fun i => if kf ≤ i ∧ i < kk then howB ya else bytesF yo (fun _ => 0) (l.take j) i) w wr2))
        case atStart => exact ⟨kf, Nat.le_refl _, by omega, by omega, rfl, HX.out.congr (fun i => by rw [if_neg (by omega)])⟩
        case round =>
          obtain ⟨kk, hk1, hk2, hg2, rfl, Q⟩ := hrel
          obtain ⟨d0, d1, d2, d3⟩ := Q.out.ys
          by_cases hkt : kk < kt
          · have hktz : (kk : Int) < (kt : Int) := by omega
            have hk1001 : kk < 1001 := by omega
            have hkz : (kk : Int) < 1001 := by omega
            obtain ⟨e0, e1⟩ := Q.out.ints.cell hk1001
            have hgY := Q.out.ne
            have Q1 := Q.out.set hk1001 1
            obtain ⟨q0, q1, q2, q3⟩ := Q1.ys
            obtain ⟨r0, r1⟩ := Q1.ints.cell hk1001
            cases ya
            · have HQ : Aside _ := Q1
              clear Q1
              go_wp2
              go_roundg (1001 - (kk + 1))
              case measure => omega
              case rel => exact ⟨kk + 1, by omega, by omega, by omega, by go_num, HQ.out.congr (fun i => by simp only [howB]; split <;> split <;> first | rfl | omega | (split <;> first | rfl | omega))⟩
            · have HQ : Aside _ := Q1.set hk1001 2
              clear Q1
              go_wp2
              go_roundg (1001 - (kk + 1))
              case measure => omega
              case rel => exact ⟨kk + 1, by omega, by omega, by omega, by go_num, HQ.out.congr (fun i => by simp only [howB]; split <;> split <;> first | rfl | omega | (split <;> first | rfl | omega))⟩
          · have hktz : ¬ (kk : Int) < (kt : Int) := by omega
            go_wp2
            go_roundg (n - (j + 1))
            case measure => omega
            case rel => exact ⟨j + 1, by omega, by omega, by go_num, (⟨Q.out.ints.congr (fun i hi => by rw [HS.out]; simp only [true_and]; congr 1; simp only [eq_iff_iff]; omega), Q.out.below⟩ : _ ∧ _)⟩
      · have ho' : (yo == o) = false := beq_eq_false_iff_ne.2 ho
        go_wp2
        go_loopg [8] 1001 (fun gg s8 wr2 => s8 = .int .i64 (kf : Int) ∧ Aside (YInv wr.heap.size w.heap.size yo kf kt ya (bytesF o (fun _ => 0) (l.take j)) w wr2))
        case atStart => exact ⟨rfl, HX.out⟩
        case round =>
          obtain ⟨rfl, Q⟩ := hrel
          obtain ⟨d0, d1, d2, d3⟩ := Q.out.ys
          go_wp2
          go_roundg (n - (j + 1))
          case measure => omega
          case rel => exact ⟨j + 1, by omega, by omega, by go_num, (⟨Q.out.ints.congr (fun i hi => by rw [HS.out, if_neg (fun h => ho h.1)]), Q.out.below⟩ : _ ∧ _)⟩
    · have hltz : ¬ (j : Int) < (n : Int) := by omega
      have hJ := J.out
      rw [List.take_of_length_le (by have := HN.out; omega)] at hJ
      have HJ : Aside (Ints wr w.heap.size (bytesF o (fun _ => 0) l) ∧ Below w.heap.size w wr) := hJ
      clear hJ J
      go_wp2
      go_ret
      exact ⟨rfl, HJ.out⟩
end Go.Proofs.Ytampldoimpfjgab
