/-
  lock.Leave: a copy in new memory, but for an owner's.
-/
import Derived.Test.YtampldoimpfjgabK2
namespace Go.Proofs.Ytampldoimpfjgab
open Go.RowKit Go.Sort KM
set_option linter.unusedVariables false

theorem leaveP_any (e : Lk) (q : Int) (B : Nat) (w : World) (hB : B < w.heap.size) (hc : w.cell? ⟨B, 0, none⟩ = some (.int .i64 q)) :
    Calls Try.prog 31 #[.agg #[.int .i64 e.o, .int .i64 e.f, .int .i64 e.t, .bool e.a], .pointer (some ⟨B, 0, none⟩)] w fun r w' => r = .returned (.bool (decide (e.o = q))) ∧ Grown w w' := by
  have hne : B ≠ w.heap.size := by omega
  have HE : Aside ((e.o == q) = decide (e.o = q)) := by show _ = _; rw [Bool.eq_iff_iff]; simp
  go_enter Try.func31, Try.ntmps31
  go_wp2
  go_ret
  exact ⟨ret_bool HE.out, (Grown.refl w).alloc _⟩
def LeavePost (l : List Lk) (q : Int) (w : World) (e : Ending) (w' : World) : Prop :=
  ∃ g c, e = .returned (.slice (some ⟨g, 0, none⟩) (leaveL l q).length c) ∧ w.heap.size ≤ g ∧ Own w' g c (leaveL l q) ∧ Below w.heap.size w w'
set_option maxHeartbeats 4000000 in
theorem leave_any (l : List Lk) (q : Int) (p : Option Addr) (cap : Nat) (w : World) (hL : Lies w p l) (hnil : p = none → cap = 0) (hn : l.length * 32 ≤ 140737488355328) :
    Calls Try.prog 15 #[.slice p l.length cap, .int .i64 q] w (LeavePost l q w) := by
  have eg : ∀ args w, (callFunc 31 args).run Try.prog w = .ok (.enter 31 args) w := enters_of Try.func31 (by kernel_rfl) rfl
  have hdel : ∀ (g c : Nat) (W : World), Own W g c l → w.heap.size + 1 ≤ g → Below (w.heap.size + 1) (w.alloc (.cells #[.int .i64 q] 3)) W →
      Calls Try.prog 30 #[.slice (some ⟨g, 0, none⟩) l.length c, .func (.func 31) #[] #[.pointer (some ⟨w.heap.size, 0, none⟩)]] W fun e w' => e = .returned (.slice (some ⟨g, 0, none⟩) (leaveL l q).length c) ∧ Own w' g c (leaveL l q) ∧ Below (w.heap.size + 1) (w.alloc (.cells #[.int .i64 q] 3)) w' := by
    intro g c W hO hg hB
    have hBs := hB.size
    simp at hBs
    refine (delete_any (fun e => decide (e.o = q)) 31 #[.pointer (some ⟨w.heap.size, 0, none⟩)] eg l g c W hO (by omega) (fun W2 x hG hx => leaveP_any x q w.heap.size W2 (by have := hG.size; omega) ?_)).mono ?_
    · rw [gby_cell hG (by show w.heap.size < W.heap.size; omega) (by show w.heap.size ≠ g; omega), hB.cell (p := ⟨w.heap.size, 0, none⟩) (by simp)]
      simp
    · rintro e w' ⟨rfl, hO', hG⟩
      exact ⟨rfl, hO', hB.grown hG (by simpa using hBs) (fun k hk => by simp at hk; omega)⟩
  have HL : Aside (Lies w p l) := hL
  clear hL eg
  obtain ⟨n, hnl⟩ : ∃ n, n = l.length := ⟨_, rfl⟩
  have HN : Aside (n = l.length) := hnl
  rw [← hnl] at hn hdel ⊢
  clear hnl
  generalize hrl : (leaveL l q).length = rl at hdel
  have HR : Aside ((leaveL l q).length = rl) := hrl
  clear hrl
  go_enter Try.func15, Try.ntmps15
  go_wp2_with (at_builtin; refine append_copy _ rfl _ _ rfl (w.heap.size + 1) rfl ?_ p n cap l rfl HN.out ?_ hnil hn ?_ ?_)
  · exact empty_row (w.alloc (.cells #[.int .i64 q] 3)) _ (by simp)
  · exact (HL.out.grown ((Grown.refl w).alloc _)).grown ((Grown.refl _).alloc _)
  · simp
  · intro g c w1 hO hg hB
    have hB' : Below (w.heap.size + 1) (w.alloc (.cells #[.int .i64 q] 3)) w1 := ((Below.refl _ _).alloc (by simp) _).trans hB
    have hcall := hdel g c w1 hO hg hB'
    clear hdel
    have H1 : Aside (w.heap.size + 1 ≤ g) := hg
    clear hO hB hg
    go_wp2_with (go_at_call 30; refine hcall.mono ?_; clear hcall; rintro e w2 ⟨rfl, hO2, hB2⟩)
    go_ret
    exact ⟨g, c, by rw [HR.out]; rfl, by have := H1.out; omega, hO2, base1 hB2⟩
end Go.Proofs.Ytampldoimpfjgab
