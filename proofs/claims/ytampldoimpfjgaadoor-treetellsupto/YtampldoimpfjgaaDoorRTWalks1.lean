/-
  What the document's own answers, traceref1.Get and traceref1.WrongEntry, answer.
-/
import Derived.Test.YtampldoimpfjgaaDoorTGet
import Derived.Test.YtampldoimpfjgaaDoorTSame
import Derived.Test.YtampldoimpfjgaaDoorTList
import Derived.Test.YtampldoimpfjgaaDoorRefWalks3
namespace Go.Proofs.YtampldoimpfjgaaDoor
open Go.RowKit PM Go.Sort
set_option linter.unusedVariables false

theorem find_skip {t : List Ent} {k : Nat} {y : Ent} {q : List UInt8} (hy : t[k]? = some y) (hn : y.p ≠ q) (h : (t.drop k).find? (fun e => decide (e.p = q)) = t.find? (fun e => decide (e.p = q))) : (t.drop (k + 1)).find? (fun e => decide (e.p = q)) = t.find? (fun e => decide (e.p = q)) := by
  obtain ⟨h1, h2⟩ := List.getElem?_eq_some_iff.1 hy
  rw [List.drop_eq_getElem_cons h1, List.find?_cons, h2] at h
  simpa [hn] using h
theorem find_hit {t : List Ent} {k : Nat} {y : Ent} {q : List UInt8} (hy : t[k]? = some y) (hn : y.p = q) (h : (t.drop k).find? (fun e => decide (e.p = q)) = t.find? (fun e => decide (e.p = q))) : t.find? (fun e => decide (e.p = q)) = some y := by
  obtain ⟨h1, h2⟩ := List.getElem?_eq_some_iff.1 hy
  rw [← h, List.drop_eq_getElem_cons h1, List.find?_cons, h2]
  simp [hn]

theorem back4 {W : World} {B : Nat} {a b c d u0 u1 u2 u3 : Value} (o : Obj) (h0 : W.cell? ⟨B, 0, none⟩ = some u0) (h1 : W.cell? ⟨B, 1, none⟩ = some u1) (h2 : W.cell? ⟨B, 2, none⟩ = some u2) (h3 : W.cell? ⟨B, 3, none⟩ = some u3) :
    (((((W.setCell ⟨B, 0, none⟩ a).setCell ⟨B, 1, none⟩ b).setCell ⟨B, 2, none⟩ c).setCell ⟨B, 3, none⟩ d).alloc o).cell? ⟨B, 0, none⟩ = some a ∧ (((((W.setCell ⟨B, 0, none⟩ a).setCell ⟨B, 1, none⟩ b).setCell ⟨B, 2, none⟩ c).setCell ⟨B, 3, none⟩ d).alloc o).cell? ⟨B, 1, none⟩ = some b ∧
    (((((W.setCell ⟨B, 0, none⟩ a).setCell ⟨B, 1, none⟩ b).setCell ⟨B, 2, none⟩ c).setCell ⟨B, 3, none⟩ d).alloc o).cell? ⟨B, 2, none⟩ = some c ∧ (((((W.setCell ⟨B, 0, none⟩ a).setCell ⟨B, 1, none⟩ b).setCell ⟨B, 2, none⟩ c).setCell ⟨B, 3, none⟩ d).alloc o).cell? ⟨B, 3, none⟩ = some d := by
  refine ⟨Lib.cell?_alloc_some o ?_, Lib.cell?_alloc_some o ?_, Lib.cell?_alloc_some o ?_, Lib.cell?_alloc_some o ?_⟩ <;> go_simp
set_option maxHeartbeats 2000000 in
theorem refGet_any (t : List Ent) (q : ByteArray) (p : Option Addr) (cap : Nat) (w : World) (hL : Lies w p t) (hn : t.length < 4611686018427387904) (x : Ent) (b : Bool) (hx : (getL t q.data.toList).getD zeroE = x) (hb : (getL t q.data.toList).isSome = b) :
    Calls Tryd.prog 32 #[.slice p t.length cap, .string q] w fun r w' => r = .returned (.tuple #[.agg #[.string x.path, .int .i64 x.kind, .string x.text, .bool x.opq], .bool b]) ∧ Below w.heap.size w w' := by
  by_cases h0 : q.data.toList = []
  · have h1 := empty_of h0
    rw [h0, getL_nil] at hx hb
    obtain rfl : dirE = x := hx
    obtain rfl : true = b := hb
    clear h0
    go_enter Tryd.func32, Tryd.ntmps32
    go_wp2
    refine bodyPost_ret (v := .tuple #[.agg #[.string dirE.path, .int .i64 dirE.kind, .string dirE.text, .bool dirE.opq], .bool true]) (by simp [results, Tryd.results32, go_sem, dirE]; rfl) rfl ?_
    exact ⟨rfl, (Below.refl _ _).alloc (Nat.le_refl _) _⟩
  · have h1 := empty_not h0
    have HX : Aside ((t.find? fun e => decide (e.p = q.data.toList)).getD zeroE = x ∧ (t.find? fun e => decide (e.p = q.data.toList)).isSome = b) := by
      unfold getL at hx hb
      rw [if_neg h0] at hx hb
      exact ⟨hx, hb⟩
    have HL : Aside (Lies w p t) := hL
    obtain ⟨n, hnl⟩ : ∃ n, n = t.length := ⟨_, rfl⟩
    have HN : Aside (n = t.length) := hnl
    rw [← hnl] at hn ⊢
    clear hnl hL h0 hx hb
    go_enter Tryd.func32, Tryd.ntmps32
    go_wp2
    go_loopg [13] n (fun gg s13 wr => ∃ k : Nat, k ≤ n ∧ n - k ≤ gg ∧ s13 = .int .i64 k ∧ Aside (Below (w.heap.size + 1) (w.alloc (.cells #[.string ⟨#[]⟩, .int .i64 0, .string ⟨#[]⟩, .bool false] 38)) wr) ∧ Aside ((t.drop k).find? (fun e => decide (e.p = q.data.toList)) = t.find? (fun e => decide (e.p = q.data.toList))))
    case atStart => exact ⟨0, Nat.zero_le _, by omega, rfl, Below.refl _ _, by simp [Aside]⟩
    case round =>
      obtain ⟨k, hk, hgg, rfl, BW, FD⟩ := hrel
      have hBw := base1 BW.out
      obtain ⟨⟨r0, r1, r2, r3⟩, ⟨f0, f1, f2, f3⟩⟩ := new4 (Nat.lt_succ_self _) BW.out
      have hws : w.heap.size < wr.heap.size := block_lt_of_cell r0
      have hne2 : w.heap.size ≠ wr.heap.size := by omega
      by_cases hlt : k < n
      · have hltz : (k : Int) < (n : Int) := by omega
        obtain ⟨y, hy⟩ : ∃ y, t[k]? = some y := ⟨_, List.getElem?_eq_getElem (by have := HN.out; omega)⟩
        have HY : Aside (t[k]? = some y) := hy
        rcases HL.out with h0 | ⟨b', off, rfl, hb', hc⟩
        · rw [h0] at hy; simp at hy
        obtain ⟨c0, c1, c2, c3⟩ := Lies.cells hc hb' hBw hy
        clear hc hy
        rcases eq_cases y.path q with ⟨e1, EQ⟩ | ⟨e1, EQ⟩
        · obtain ⟨hx1, hx2⟩ := HX.out
          rw [find_hit HY.out EQ.out FD.out] at hx1 hx2
          obtain rfl : y = x := hx1
          obtain rfl : true = b := hx2
          obtain ⟨s0, s1, s2, s3⟩ := back4 (a := .string y.path) (b := .int .i64 y.kind) (c := .string y.text) (d := .bool y.opq) (.cells #[.string y.path, .int .i64 y.kind, .string y.text, .bool y.opq] 38) r0 r1 r2 r3
          go_wp2
          refine bodyPost_ret (v := .tuple #[.agg #[.string y.path, .int .i64 y.kind, .string y.text, .bool y.opq], .bool true]) (by simp [results, Tryd.results32, go_sem, s0, s1, s2, s3]) rfl ?_
          exact ⟨rfl, ((((hBw.setCell (Nat.le_refl _) _).setCell (Nat.le_refl _) _).setCell (Nat.le_refl _) _).setCell (Nat.le_refl _) _).alloc (by simpa [World.setCell] using hBw.size) _⟩
        · go_wp2
          go_roundg (n - (k + 1))
          case measure => omega
          case rel => exact ⟨k + 1, by omega, by omega, by go_num, upA BW.out, find_skip HY.out EQ.out FD.out⟩
      · have hltz : ¬ (k : Int) < (n : Int) := by omega
        have hz : t.find? (fun e => decide (e.p = q.data.toList)) = none := by
          rw [← FD.out, List.drop_of_length_le (by have := HN.out; omega)]; rfl
        obtain ⟨hx1, hx2⟩ := HX.out
        rw [hz] at hx1 hx2
        obtain rfl : zeroE = x := hx1
        obtain rfl : false = b := hx2
        clear hz
        go_wp2
        refine bodyPost_ret (v := .tuple #[.agg #[.string zeroE.path, .int .i64 zeroE.kind, .string zeroE.text, .bool zeroE.opq], .bool false]) (by simp [results, Tryd.results32, go_sem, zeroE, r0, r1, r2, r3]) rfl ?_
        exact ⟨rfl, own_store4 BW.out _ _ _ _⟩

end Go.Proofs.YtampldoimpfjgaaDoor
