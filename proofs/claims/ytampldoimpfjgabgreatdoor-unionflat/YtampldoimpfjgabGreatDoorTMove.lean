/-
  tree.noRoom and tree.moved: what they answer.
-/
import Derived.Test.YtampldoimpfjgabGreatDoorTSort
namespace Go.Proofs.YtampldoimpfjgabGreatDoor
open Go.RowKit PM Go.Sort
set_option linter.unusedVariables false

namespace PM
def inM (f : List UInt8) (e : Ent) : Bool := decide (e.p = f) || under e.p f
def mvE (frm to : ByteArray) (e : Ent) : Ent := { e with path := to ++ e.path.extract frm.size e.path.size }
def mvF (frm to : ByteArray) (e : Ent) : Ent := if inM frm.data.toList e then mvE frm to e else e
def movedPre (t : List Ent) (frm to : ByteArray) : List Ent := (remL t to.data.toList).map (mvF frm to)
def badMove (t : List Ent) (frm to : ByteArray) : Bool := (remL t to.data.toList).any fun e => inM frm.data.toList e && !clean (mvE frm to e).p
end PM
theorem inM_size {frm : ByteArray} {e : Ent} (h : inM frm.data.toList e = true) : frm.size ≤ e.path.size := by
  unfold inM at h
  rcases Bool.or_eq_true_iff.1 h with h | h
  · have := congrArg List.length (of_decide_eq_true h)
    rw [Ent.p, szl, szl] at this; omega
  · by_cases h0 : frm.data.toList = []
    · rw [← szl frm, h0]; simp
    · obtain ⟨r, hr⟩ := (under_iff _ _ h0).1 h
      have := congrArg List.length hr
      rw [Ent.p, szl, List.length_append, szl] at this; omega

def roomL (t : List Ent) (f to : List UInt8) : Int :=
  match getL t to with
  | none => 0
  | some old => if (old.kind == 2) && !(((getL t f).getD zeroE).kind == 2) then 9 else if !(old.kind == 2) && (((getL t f).getD zeroE).kind == 2) then 10 else fullL t to
theorem getD_of {o : Option Ent} {y : Ent} {b : Bool} (h : o = if b then some y else none) (hz : b = false → y = zeroE) : o.getD zeroE = y := by
  cases b
  · rw [h, hz rfl]; rfl
  · rw [h]; rfl
set_option maxHeartbeats 2000000 in
theorem noRoom_any (t : List Ent) (frm to : ByteArray) (p : Option Addr) (cap : Nat) (w : World) (hL : Lies w p t) (hF : Fits t) (hn : t.length < 4611686018427387904) (hf : frm.size ≤ maxLen) (ht : to.size ≤ maxLen) (hs : Sorted t) :
    Calls Tryz.prog 55 #[.slice p t.length cap, .string frm, .string to] w fun r w' => r = .returned (.int .i64 (roomL t frm.data.toList to.data.toList)) ∧ Below w.heap.size w w' := by
  have hg1 := get_any t to p cap w hL hF hn ht
  have hg2 := fun W (hB : Below w.heap.size w W) => get_any t frm p cap W (hL.kept hB) hF hn hf
  have hfu := fun W (hB : Below w.heap.size w W) => full_any t to p cap W (hL.kept hB) hF hn ht
  obtain ⟨r0, hr0⟩ : ∃ r0, r0 = roomL t frm.data.toList to.data.toList := ⟨_, rfl⟩
  have HR : Aside (r0 = roomL t frm.data.toList to.data.toList) := hr0
  rw [← hr0]
  have HS : Aside (Sorted t) := hs
  have HFU : Aside (fullL t to.data.toList = fullL t to.data.toList) := rfl
  obtain ⟨fl, hfl⟩ : ∃ fl, fl = fullL t to.data.toList := ⟨_, rfl⟩
  have HFL : Aside (fl = fullL t to.data.toList) := hfl
  rw [← hfl] at hfu
  clear hr0 hs hfl hL hF HFU
  generalize t.length = n at *
  go_enter Tryz.func55, Tryz.ntmps55
  go_wp2_with (first
    | (go_at_call 23; refine hg1.mono ?_; clear hg1; rintro e w1 ⟨⟨xp, xk, xt, xo⟩, b, rfl, hg, hz, hx, hB⟩; have HG : Aside (getL t to.data.toList = if b then some ⟨xp, xk, xt, xo⟩ else none) := hg HS.out; clear hg hz hx; cases b)
    | (go_at_call 23; refine (hg2 _ (hB.alloc hB.size _)).mono ?_; clear hg2; rintro e w2 ⟨⟨yp, yk, yt, yo⟩, b2, rfl, hg', hz', hx', hB2⟩; have HY : Aside ((getL t frm.data.toList).getD zeroE = ⟨yp, yk, yt, yo⟩) := getD_of (hg' HS.out) hz'; clear hg' hz' hx'; replace hB := Below.onto (hB.alloc hB.size _) hB2; replace hB2 := hB2.mono (Nat.le_of_eq (by simp : w1.heap.size + 1 = _)); have hB3 : Below (w2.heap.size + 1) (w2.alloc (.cells #[.string yp, .int .i64 yk, .string yt, .bool yo] 28)) (w2.alloc (.cells #[.string yp, .int .i64 yk, .string yt, .bool yo] 28)) := Below.refl _ _; replace hB2 := hB2.alloc (by have := hB2.size; simpa using this) (.cells #[.string yp, .int .i64 yk, .string yt, .bool yo] 28); obtain ⟨⟨c0, c1, c2, c3⟩, _⟩ := new4 (Nat.lt_succ_self _) hB2; by_cases hkx : xk = 2 <;> by_cases hky : yk = 2 <;> (try subst hkx) <;> (try subst hky))
    | (go_at_call 42; refine (isDir_cells _ _ _ _ _).mono ?_; rintro rr w3 ⟨rfl, hG⟩; replace hB2 := up1 hB2 hG.below; replace hB3 := up1 hB3 hG.below; clear hG; obtain ⟨⟨d0, d1, d2, d3⟩, _⟩ := new4 (Nat.lt_succ_self _) hB2; obtain ⟨⟨e0, e1, e2, e3⟩, _⟩ := new4 (Nat.lt_succ_self _) hB3)
    | (go_at_call 48; refine (hfu _ (Below.onto hB (base1 hB3))).mono ?_; clear hfu; rintro rr w4 ⟨rfl, hN⟩; replace hB3 := up1 hB3 hN; clear hN))
  · go_ret
    refine ⟨ret_int ?_, hB.alloc hB.size _⟩
    rw [HR.out, roomL, HG.out]; rfl
  all_goals go_ret
  all_goals refine ⟨ret_int ?_, Below.onto hB (base1 hB3)⟩
  all_goals rw [HR.out, roomL, HG.out]
  all_goals simp only [if_true, HY.out]
  all_goals first
    | rw [HFL.out]
    | skip
  all_goals first
    | rfl
    | (simp only [beq_iff_eq, Bool.and_eq_true, Bool.not_eq_true', beq_eq_false_iff_ne, ne_eq, and_false, if_false, and_true, hkx, hky, not_false_eq_true])
    | simp_all
  all_goals (exfalso; simp_all)
end Go.Proofs.YtampldoimpfjgabGreatDoor
