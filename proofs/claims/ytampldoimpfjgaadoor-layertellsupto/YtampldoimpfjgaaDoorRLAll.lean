/-
  What the document's own answers traceref1.Hides, traceref1.Over and traceref1.Merge answer.
-/
import Derived.Test.YtampldoimpfjgaaDoorRTWalks5
import Derived.Test.YtampldoimpfjgaaDoorLMath
import Derived.Test.YtampldoimpfjgaaDoorLWalks2
import Derived.Test.YtampldoimpfjgaaDoorLMerge
namespace Go.Proofs.YtampldoimpfjgaaDoor
open Go.RowKit PM Go.Sort
set_option linter.unusedVariables false

theorem puts_sortedR : ∀ (ms b : List Ent), Sorted b → Sorted (putsL b ms)
  | [], b, h => h
  | m :: ms, b, h => puts_sortedR ms (putL b m) (sorted_putL h m)
theorem puts_leR : ∀ (ms b : List Ent), Sorted b → (putsL b ms).length ≤ b.length + ms.length
  | [], b, h => Nat.le_refl _
  | m :: ms, b, h => by
    have h1 := puts_leR ms (putL b m) (sorted_putL h m)
    have h2 := putL_length (e := m) h
    have h3 : (putL b m).length ≤ b.length + 1 := by rw [h2]; split <;> omega
    show (putsL (putL b m) ms).length ≤ _
    rw [List.length_cons]; omega
theorem puts_allR {P : Ent → Prop} : ∀ (ms b : List Ent), (∀ x ∈ b, P x) → (∀ m ∈ ms, P m) → ∀ x ∈ putsL b ms, P x
  | [], b, hb, _ => hb
  | m :: ms, b, hb, hm => puts_allR ms (putL b m) (fun x hx => by
      rcases mem_putL.1 hx with rfl | ⟨hx, _⟩
      · exact hm _ (by simp)
      · exact hb x hx) (fun y hy => hm y (List.mem_cons_of_mem _ hy))
theorem puts_snocR (b ms : List Ent) (m : Ent) : putsL b (ms ++ [m]) = putL (putsL b ms) m := by simp [putsL]

def testH (l : List Ent) (q : List UInt8) : Bool := match getL l q with | some e => !(e.kind == 2) || e.opq | none => false
/-- The directories above, one by one. -/
def restH (l : List Ent) (q : List UInt8) : Bool := if h : q = [] then false else testH l q || restH l (dirOf q)
termination_by q.length
decreasing_by exact dirOf_short h
def refHid (l : List Ent) (q : List UInt8) : Bool := (match getL l q with | some e => !(e.kind == 2) | none => false) || restH l (dirOf q)
theorem restH_nil (l : List Ent) : restH l [] = false := by rw [restH]; simp
theorem restH_cons {l : List Ent} {q : List UInt8} (h : q ≠ []) : restH l q = (testH l q || restH l (dirOf q)) := by rw [restH, dif_neg h]
theorem under_nil {q : List UInt8} (hq : q ≠ []) : under [] q = false := by
  cases h : under [] q with
  | false => rfl
  | true =>
    obtain ⟨r, hr⟩ := (under_iff _ _ hq).1 h
    simp at hr
theorem under_step {p q : List UInt8} (hp : p ≠ []) (hq : q ≠ []) : under p q = true ↔ dirOf p ≠ [] ∧ (dirOf p = q ∨ under (dirOf p) q = true) := by
  constructor
  · intro h
    have := under_dir hq h
    refine ⟨fun h0 => ?_, this⟩
    rw [h0] at this
    rcases this with h1 | h1
    · exact hq h1.symm
    · rw [under_nil hq] at h1; cases h1
  · rintro ⟨h0, h1 | h1⟩
    · rw [← h1]; exact dir_under hp h0
    · exact under_tr h0 hq (dir_under hp h0) h1
theorem restH_iff {l : List Ent} (hr : Right true l) : ∀ (n : Nat) (q : List UInt8), q.length ≤ n → (restH l q = true ↔ q ≠ [] ∧ ∃ e ∈ l, (e.p = q ∨ under q e.p = true) ∧ (!(e.kind == 2) || e.opq) = true) := by
  intro n
  induction n with
  | zero =>
    intro q hq
    have : q = [] := List.eq_nil_of_length_eq_zero (by omega)
    subst this
    rw [restH_nil]
    simp
  | succ n ih =>
    intro q hq
    by_cases h : q = []
    · subst h; rw [restH_nil]; simp
    · rw [restH_cons h, Bool.or_eq_true, ih (dirOf q) (by have := dirOf_short h; omega)]
      constructor
      · rintro (h1 | ⟨h1, e, he, h2, h3⟩)
        · refine ⟨h, ?_⟩
          unfold testH at h1
          cases hg : getL l q with
          | none => rw [hg] at h1; cases h1
          | some e =>
            rw [hg] at h1
            obtain ⟨hm, hp⟩ := getL_some h hg
            exact ⟨e, hm, .inl hp, h1⟩
        · refine ⟨h, e, he, .inr ((under_step h (hr.ne he)).2 ⟨h1, ?_⟩), h3⟩
          rcases h2 with h2 | h2
          · exact .inl h2.symm
          · exact .inr h2
      · rintro ⟨_, e, he, h2, h3⟩
        rcases h2 with h2 | h2
        · left
          have := getL_of hr.sorted he (hr.ne he)
          rw [h2] at this
          unfold testH
          rw [this]
          exact h3
        · right
          obtain ⟨h1, h4⟩ := (under_step h (hr.ne he)).1 h2
          refine ⟨h1, e, he, ?_, h3⟩
          rcases h4 with h4 | h4
          · exact .inl h4.symm
          · exact .inr h4
/-- It is what a layer hides. -/
theorem refHid_eq {l : List Ent} (hr : Right true l) (q : List UInt8) : refHid l q = hidesL l q := by
  rw [Bool.eq_iff_iff]
  unfold refHid hidesL
  rw [Bool.or_eq_true, List.any_eq_true, restH_iff hr _ _ (Nat.le_refl _)]
  by_cases h : q = []
  · subst h
    have h0 : dirOf ([] : List UInt8) = [] := by
      have := dirOf_le ([] : List UInt8)
      exact List.eq_nil_of_length_eq_zero (by simpa using this)
    rw [h0, getL_nil]
    constructor
    · rintro (h1 | ⟨h1, _⟩)
      · simp [dirE] at h1
      · exact absurd rfl h1
    · rintro ⟨e, he, h1⟩
      unfold hidesE at h1
      rw [under_nil (hr.ne he)] at h1
      simp [hr.ne he] at h1
  · constructor
    · rintro (h1 | ⟨h1, e, he, h2, h3⟩)
      · cases hg : getL l q with
        | none => rw [hg] at h1; cases h1
        | some e =>
          rw [hg] at h1
          obtain ⟨hm, hp⟩ := getL_some h hg
          exact ⟨e, hm, by unfold hidesE; rw [hp]; simp at h1 ⊢; exact .inl h1⟩
      · refine ⟨e, he, ?_⟩
        unfold hidesE
        rw [(under_step h (hr.ne he)).2 ⟨h1, by rcases h2 with h2 | h2; exact .inl h2.symm; exact .inr h2⟩]
        simp at h3 ⊢
        exact .inr h3
    · rintro ⟨e, he, h1⟩
      unfold hidesE at h1
      rcases Bool.or_eq_true _ _ ▸ h1 with h1 | h1
      · left
        simp at h1
        have := getL_of hr.sorted he (hr.ne he)
        rw [h1.1] at this
        rw [this]
        simpa using h1.2
      · right
        rw [Bool.and_eq_true] at h1
        obtain ⟨h2, h4⟩ := (under_step h (hr.ne he)).1 h1.1
        refine ⟨h2, e, he, ?_, h1.2⟩
        rcases h4 with h4 | h4
        · exact .inl h4.symm
        · exact .inr h4
end Go.Proofs.YtampldoimpfjgaaDoor
namespace Go.Proofs.YtampldoimpfjgaaDoor
open Go.RowKit PM Go.Sort
set_option linter.unusedVariables false

set_option maxHeartbeats 4000000 in
set_option maxRecDepth 100000 in
theorem refHides_any (l : List Ent) (q0 : ByteArray) (p : Option Addr) (cap : Nat) (w : World) (hL : Lies w p l) (hn : l.length < 4611686018427387904) (hq : q0.size < 4611686018427387904) :
    Calls Tryd.prog 45 #[.slice p l.length cap, .string q0] w fun r w' => r = .returned (.bool (refHid l q0.data.toList)) ∧ Below w.heap.size w w' := by
  obtain ⟨⟨xp, xk, xt, xo⟩, hxx⟩ : ∃ x, (getL l q0.data.toList).getD zeroE = x := ⟨_, rfl⟩
  obtain ⟨bb, hbb⟩ : ∃ bb, (getL l q0.data.toList).isSome = bb := ⟨_, rfl⟩
  have hge := refGet_any l q0 p cap w hL hn ⟨xp, xk, xt, xo⟩ bb hxx hbb
  have hcu := fun W => refCut_grown q0 W hq
  have HGE : Aside (∀ (dq : ByteArray) W, Below w.heap.size w W → ∀ x b, (getL l dq.data.toList).getD zeroE = x → (getL l dq.data.toList).isSome = b → Calls Tryd.prog 32 #[.slice p l.length cap, .string dq] W fun r w' => r = .returned (.tuple #[.agg #[.string x.path, .int .i64 x.kind, .string x.text, .bool x.opq], .bool b]) ∧ Below W.heap.size W w') :=
    fun dq W hB x b hx hb => refGet_any l dq p cap W (hL.kept hB) hn x b hx hb
  have HF : (bb = true ∧ ¬ xk = 2 ∧ Aside (refHid l q0.data.toList = true)) ∨ ((bb = false ∨ xk = 2) ∧ Aside (refHid l q0.data.toList = restH l (dirOf q0.data.toList))) := by
    unfold refHid
    cases hg : getL l q0.data.toList with
    | none =>
      rw [hg] at hbb
      exact .inr ⟨.inl hbb.symm, by simp [Aside]⟩
    | some z =>
      rw [hg] at hbb hxx
      obtain rfl : z = ⟨xp, xk, xt, xo⟩ := hxx
      by_cases hk : xk = 2
      · exact .inr ⟨.inr hk, by simp [Aside, hk]⟩
      · exact .inl ⟨hbb.symm, hk, by simp [Aside, hk]⟩
  obtain ⟨n, hnl⟩ : ∃ n, n = l.length := ⟨_, rfl⟩
  rw [← hnl] at hge HGE
  rw [← hnl]
  clear hnl hL hn hxx hbb
  rcases HF with ⟨rfl, hk, HR⟩ | ⟨hk, HR⟩
  · clear hcu HGE
    go_enter Tryd.func45, Tryd.ntmps45
    go_wp2_with (go_at_call 32; refine hge.mono ?_; clear hge; rintro rr w1 ⟨rfl, hN⟩; have HB1 : Aside (Below w.heap.size w (w1.alloc (.cells #[.string xp, .int .i64 xk, .string xt, .bool xo] 38))) := hN.alloc hN.size _; clear hN)
    go_ret
    exact ⟨ret_bool HR.out.symm, HB1.out⟩
  · have hkk : (bb = false) ∨ (bb = true ∧ xk = 2) := by
      cases bb
      · exact .inl rfl
      · rcases hk with h | h
        · cases h
        · exact .inr ⟨rfl, h⟩
    clear hk
    rcases hkk with rfl | ⟨rfl, rfl⟩
    · go_enter Tryd.func45, Tryd.ntmps45
      go_wp2_with (first
        | (go_at_call 32; refine hge.mono ?_; clear hge; rintro rr w1 ⟨rfl, hN⟩; have HB1 : Aside (Below w.heap.size w (w1.alloc (.cells #[.string xp, .int .i64 xk, .string xt, .bool xo] 38))) := hN.alloc hN.size _; clear hN)
        | (go_at_call 21; refine (hcu _).mono ?_; clear hcu; rintro rr w2 ⟨⟨d, nm, rfl, hd, hnm⟩, hG⟩; have HB2 : Aside (Below w.heap.size w w2) := Below.onto HB1.out hG.below; have HD : Aside (d.data.toList = dirOf q0.data.toList) := hd; clear hnm hG hd))
      go_loopg [7] (q0.size + 1) (fun gg v wr => ∃ dq : ByteArray, v = .string dq ∧ dq.size ≤ gg ∧ dq.size ≤ q0.size ∧ Aside (restH l dq.data.toList = refHid l q0.data.toList) ∧ Aside (Below w.heap.size w wr))
      case atStart => exact ⟨d, rfl, by have := dirOf_le q0.data.toList; rw [← HD.out, szl, szl] at this; omega, by have := dirOf_le q0.data.toList; rw [← HD.out, szl, szl] at this; omega, by show _ = _; rw [HD.out, HR.out], HB2.out⟩
      case round =>
        obtain ⟨dq, rfl, hgg, hsz, RH, BW⟩ := hrel
        by_cases hd0 : dq.data.toList = []
        · have hde := empty_of hd0
          have HE : Aside (refHid l q0.data.toList = false) := by show _ = _; rw [← RH.out, hd0, restH_nil]
          clear HGE
          go_wp2
          go_ret
          exact ⟨ret_bool HE.out.symm, BW.out⟩
        · have hde := empty_not hd0
          obtain ⟨⟨yp, yk, yt, yo⟩, hyy⟩ : ∃ x, (getL l dq.data.toList).getD zeroE = x := ⟨_, rfl⟩
          obtain ⟨cc, hcc⟩ : ∃ bb, (getL l dq.data.toList).isSome = bb := ⟨_, rfl⟩
          have hge := HGE.out dq wr BW.out ⟨yp, yk, yt, yo⟩ cc hyy hcc
          have hcu := fun W => refCut_grown dq W (by omega)
          have hsh := dirOf_short hd0
          rw [szl] at hsh
          have HSH : Aside ((dirOf dq.data.toList).length < dq.size) := hsh
          have HT : (cc = true ∧ ¬ yk = 2 ∧ Aside (refHid l q0.data.toList = true)) ∨ (cc = true ∧ yk = 2 ∧ yo = true ∧ Aside (refHid l q0.data.toList = true)) ∨ (cc = true ∧ yk = 2 ∧ yo = false ∧ Aside (restH l (dirOf dq.data.toList) = refHid l q0.data.toList)) ∨ (cc = false ∧ Aside (restH l (dirOf dq.data.toList) = refHid l q0.data.toList)) := by
            have h1 := RH.out
            rw [restH_cons hd0] at h1
            unfold testH at h1
            cases hg : getL l dq.data.toList with
            | none =>
              rw [hg] at hcc h1
              exact .inr (.inr (.inr ⟨hcc.symm, by simpa [Aside] using h1⟩))
            | some z =>
              rw [hg] at hcc hyy h1
              obtain rfl : z = ⟨yp, yk, yt, yo⟩ := hyy
              by_cases hk : yk = 2
              · cases yo with
                | true => exact .inr (.inl ⟨hcc.symm, hk, rfl, by show _ = _; rw [← h1]; simp⟩)
                | false => exact .inr (.inr (.inl ⟨hcc.symm, hk, rfl, by show _ = _; rw [← h1]; simp [hk]⟩))
              · exact .inl ⟨hcc.symm, hk, by show _ = _; rw [← h1]; simp [hk]⟩
          clear hyy hcc hsh HGE
          rcases HT with ⟨rfl, hk, HE⟩ | ⟨rfl, rfl, rfl, HE⟩ | ⟨rfl, rfl, rfl, HE⟩ | ⟨rfl, HE⟩
          · clear hcu
            go_wp2_with (go_at_call 32; refine hge.mono ?_; clear hge; rintro rr w3 ⟨rfl, hN⟩; have HB3 : Aside (Below w.heap.size w (w3.alloc (.cells #[.string yp, .int .i64 yk, .string yt, .bool yo] 38))) := (Below.onto BW.out hN).alloc (Below.onto BW.out hN).size _; clear hN)
            go_ret
            exact ⟨ret_bool HE.out.symm, HB3.out⟩
          · clear hcu
            go_wp2_with (go_at_call 32; refine hge.mono ?_; clear hge; rintro rr w3 ⟨rfl, hN⟩; have HB3 : Aside (Below w.heap.size w (w3.alloc (.cells #[.string yp, .int .i64 2, .string yt, .bool true] 38))) := (Below.onto BW.out hN).alloc (Below.onto BW.out hN).size _; clear hN)
            go_ret
            exact ⟨ret_bool HE.out.symm, HB3.out⟩
          · go_wp2_with (first
              | (go_at_call 32; refine hge.mono ?_; clear hge; rintro rr w3 ⟨rfl, hN⟩; have HB3 : Aside (Below w.heap.size w (w3.alloc (.cells #[.string yp, .int .i64 2, .string yt, .bool false] 38))) := (Below.onto BW.out hN).alloc (Below.onto BW.out hN).size _; clear hN)
              | (go_at_call 21; refine (hcu _).mono ?_; clear hcu; rintro rr w4 ⟨⟨d2, nm2, rfl, hd2, hnm2⟩, hG2⟩; have HB4 : Aside (Below w.heap.size w w4) := Below.onto HB3.out hG2.below; have HD2 : Aside (d2.data.toList = dirOf dq.data.toList) := hd2; clear hnm2 hG2 hd2))
            go_roundg (dq.size - 1)
            case measure => have := HSH.out; omega
            case rel => exact ⟨d2, rfl, by have := HSH.out; rw [← HD2.out, szl] at this; omega, by have := HSH.out; rw [← HD2.out, szl] at this; omega, by show _ = _; rw [HD2.out, HE.out], HB4.out⟩
          · go_wp2_with (first
              | (go_at_call 32; refine hge.mono ?_; clear hge; rintro rr w3 ⟨rfl, hN⟩; have HB3 : Aside (Below w.heap.size w (w3.alloc (.cells #[.string yp, .int .i64 yk, .string yt, .bool yo] 38))) := (Below.onto BW.out hN).alloc (Below.onto BW.out hN).size _; clear hN)
              | (go_at_call 21; refine (hcu _).mono ?_; clear hcu; rintro rr w4 ⟨⟨d2, nm2, rfl, hd2, hnm2⟩, hG2⟩; have HB4 : Aside (Below w.heap.size w w4) := Below.onto HB3.out hG2.below; have HD2 : Aside (d2.data.toList = dirOf dq.data.toList) := hd2; clear hnm2 hG2 hd2))
            go_roundg (dq.size - 1)
            case measure => have := HSH.out; omega
            case rel => exact ⟨d2, rfl, by have := HSH.out; rw [← HD2.out, szl] at this; omega, by have := HSH.out; rw [← HD2.out, szl] at this; omega, by show _ = _; rw [HD2.out, HE.out], HB4.out⟩
    · go_enter Tryd.func45, Tryd.ntmps45
      go_wp2_with (first
        | (go_at_call 32; refine hge.mono ?_; clear hge; rintro rr w1 ⟨rfl, hN⟩; have HB1 : Aside (Below w.heap.size w (w1.alloc (.cells #[.string xp, .int .i64 2, .string xt, .bool xo] 38))) := hN.alloc hN.size _; clear hN)
        | (go_at_call 21; refine (hcu _).mono ?_; clear hcu; rintro rr w2 ⟨⟨d, nm, rfl, hd, hnm⟩, hG⟩; have HB2 : Aside (Below w.heap.size w w2) := Below.onto HB1.out hG.below; have HD : Aside (d.data.toList = dirOf q0.data.toList) := hd; clear hnm hG hd))
      go_loopg [7] (q0.size + 1) (fun gg v wr => ∃ dq : ByteArray, v = .string dq ∧ dq.size ≤ gg ∧ dq.size ≤ q0.size ∧ Aside (restH l dq.data.toList = refHid l q0.data.toList) ∧ Aside (Below w.heap.size w wr))
      case atStart => exact ⟨d, rfl, by have := dirOf_le q0.data.toList; rw [← HD.out, szl, szl] at this; omega, by have := dirOf_le q0.data.toList; rw [← HD.out, szl, szl] at this; omega, by show _ = _; rw [HD.out, HR.out], HB2.out⟩
      case round =>
        obtain ⟨dq, rfl, hgg, hsz, RH, BW⟩ := hrel
        by_cases hd0 : dq.data.toList = []
        · have hde := empty_of hd0
          have HE : Aside (refHid l q0.data.toList = false) := by show _ = _; rw [← RH.out, hd0, restH_nil]
          clear HGE
          go_wp2
          go_ret
          exact ⟨ret_bool HE.out.symm, BW.out⟩
        · have hde := empty_not hd0
          obtain ⟨⟨yp, yk, yt, yo⟩, hyy⟩ : ∃ x, (getL l dq.data.toList).getD zeroE = x := ⟨_, rfl⟩
          obtain ⟨cc, hcc⟩ : ∃ bb, (getL l dq.data.toList).isSome = bb := ⟨_, rfl⟩
          have hge := HGE.out dq wr BW.out ⟨yp, yk, yt, yo⟩ cc hyy hcc
          have hcu := fun W => refCut_grown dq W (by omega)
          have hsh := dirOf_short hd0
          rw [szl] at hsh
          have HSH : Aside ((dirOf dq.data.toList).length < dq.size) := hsh
          have HT : (cc = true ∧ ¬ yk = 2 ∧ Aside (refHid l q0.data.toList = true)) ∨ (cc = true ∧ yk = 2 ∧ yo = true ∧ Aside (refHid l q0.data.toList = true)) ∨ (cc = true ∧ yk = 2 ∧ yo = false ∧ Aside (restH l (dirOf dq.data.toList) = refHid l q0.data.toList)) ∨ (cc = false ∧ Aside (restH l (dirOf dq.data.toList) = refHid l q0.data.toList)) := by
            have h1 := RH.out
            rw [restH_cons hd0] at h1
            unfold testH at h1
            cases hg : getL l dq.data.toList with
            | none =>
              rw [hg] at hcc h1
              exact .inr (.inr (.inr ⟨hcc.symm, by simpa [Aside] using h1⟩))
            | some z =>
              rw [hg] at hcc hyy h1
              obtain rfl : z = ⟨yp, yk, yt, yo⟩ := hyy
              by_cases hk : yk = 2
              · cases yo with
                | true => exact .inr (.inl ⟨hcc.symm, hk, rfl, by show _ = _; rw [← h1]; simp⟩)
                | false => exact .inr (.inr (.inl ⟨hcc.symm, hk, rfl, by show _ = _; rw [← h1]; simp [hk]⟩))
              · exact .inl ⟨hcc.symm, hk, by show _ = _; rw [← h1]; simp [hk]⟩
          clear hyy hcc hsh HGE
          rcases HT with ⟨rfl, hk, HE⟩ | ⟨rfl, rfl, rfl, HE⟩ | ⟨rfl, rfl, rfl, HE⟩ | ⟨rfl, HE⟩
          · clear hcu
            go_wp2_with (go_at_call 32; refine hge.mono ?_; clear hge; rintro rr w3 ⟨rfl, hN⟩; have HB3 : Aside (Below w.heap.size w (w3.alloc (.cells #[.string yp, .int .i64 yk, .string yt, .bool yo] 38))) := (Below.onto BW.out hN).alloc (Below.onto BW.out hN).size _; clear hN)
            go_ret
            exact ⟨ret_bool HE.out.symm, HB3.out⟩
          · clear hcu
            go_wp2_with (go_at_call 32; refine hge.mono ?_; clear hge; rintro rr w3 ⟨rfl, hN⟩; have HB3 : Aside (Below w.heap.size w (w3.alloc (.cells #[.string yp, .int .i64 2, .string yt, .bool true] 38))) := (Below.onto BW.out hN).alloc (Below.onto BW.out hN).size _; clear hN)
            go_ret
            exact ⟨ret_bool HE.out.symm, HB3.out⟩
          · go_wp2_with (first
              | (go_at_call 32; refine hge.mono ?_; clear hge; rintro rr w3 ⟨rfl, hN⟩; have HB3 : Aside (Below w.heap.size w (w3.alloc (.cells #[.string yp, .int .i64 2, .string yt, .bool false] 38))) := (Below.onto BW.out hN).alloc (Below.onto BW.out hN).size _; clear hN)
              | (go_at_call 21; refine (hcu _).mono ?_; clear hcu; rintro rr w4 ⟨⟨d2, nm2, rfl, hd2, hnm2⟩, hG2⟩; have HB4 : Aside (Below w.heap.size w w4) := Below.onto HB3.out hG2.below; have HD2 : Aside (d2.data.toList = dirOf dq.data.toList) := hd2; clear hnm2 hG2 hd2))
            go_roundg (dq.size - 1)
            case measure => have := HSH.out; omega
            case rel => exact ⟨d2, rfl, by have := HSH.out; rw [← HD2.out, szl] at this; omega, by have := HSH.out; rw [← HD2.out, szl] at this; omega, by show _ = _; rw [HD2.out, HE.out], HB4.out⟩
          · go_wp2_with (first
              | (go_at_call 32; refine hge.mono ?_; clear hge; rintro rr w3 ⟨rfl, hN⟩; have HB3 : Aside (Below w.heap.size w (w3.alloc (.cells #[.string yp, .int .i64 yk, .string yt, .bool yo] 38))) := (Below.onto BW.out hN).alloc (Below.onto BW.out hN).size _; clear hN)
              | (go_at_call 21; refine (hcu _).mono ?_; clear hcu; rintro rr w4 ⟨⟨d2, nm2, rfl, hd2, hnm2⟩, hG2⟩; have HB4 : Aside (Below w.heap.size w w4) := Below.onto HB3.out hG2.below; have HD2 : Aside (d2.data.toList = dirOf dq.data.toList) := hd2; clear hnm2 hG2 hd2))
            go_roundg (dq.size - 1)
            case measure => have := HSH.out; omega
            case rel => exact ⟨d2, rfl, by have := HSH.out; rw [← HD2.out, szl] at this; omega, by have := HSH.out; rw [← HD2.out, szl] at this; omega, by show _ = _; rw [HD2.out, HE.out], HB4.out⟩
end Go.Proofs.YtampldoimpfjgaaDoor
namespace Go.Proofs.YtampldoimpfjgaaDoor
open Go.RowKit PM Go.Sort
set_option linter.unusedVariables false

abbrev WrB (w : World) (p : Option Addr) (n cap : Nat) (b : Bool) (f1 f2 : Int) : Prop := ∀ W, Below w.heap.size w W → Calls Tryd.prog 30 #[.slice p n cap, .bool b] W fun r w' => r = .returned (.agg #[.int .i64 f1, .int .i64 f2]) ∧ Below W.heap.size W w'
theorem roEnd {w w6 : World} {v : Value} {r l : List Ent} (h : Rows w6 w.heap.size v r) (hr : r = l) (hB : Below w.heap.size w w6) : TreePost 0 l w (.returned (.tuple #[v, .int .i64 0])) w6 := by
  subst hr
  obtain ⟨p, c, rfl, h1, h2, h3⟩ := h.form
  exact ⟨p, c, rfl, h1, h2, h3, hB⟩
set_option maxHeartbeats 4000000 in
set_option maxRecDepth 100000 in
theorem roW_1 (pl p : Option Addr) (nl capl n cap : Nat) (w : World) (f1 : Int) (f2 : Nat) (h1 : ¬ f1 = 0) (hwr : WrB w pl nl capl true f1 (f2 : Int)) :
    Calls Tryd.prog 47 #[.slice pl nl capl, .slice p n cap] w (TreePost f1 [] w) := by
  have hB : Below w.heap.size w w := Below.refl _ _
  go_enter Tryd.func47, Tryd.ntmps47
  go_wp2_with (go_at_call 30; refine (hwr _ hB).mono ?_; clear hwr hB; rintro rr w1 ⟨rfl, hB⟩; replace hB := hB.alloc hB.size (.cells #[.int .i64 f1, .int .i64 (f2 : Int)] 40))
  go_quiet (fail)
  replace hB := below_drewN hB nq
  go_wp2
  go_ret2
  exact TreePost.none hB
set_option maxHeartbeats 4000000 in
set_option maxRecDepth 100000 in
theorem roW_2 (pl p : Option Addr) (nl capl n cap : Nat) (w : World) (hwl : WrB w pl nl capl true 0 0) (f1 : Int) (f2 : Nat) (h1 : ¬ f1 = 0) (hwr : WrB w p n cap false f1 (f2 : Int)) :
    Calls Tryd.prog 47 #[.slice pl nl capl, .slice p n cap] w (TreePost f1 [] w) := by
  have hB : Below w.heap.size w w := Below.refl _ _
  go_enter Tryd.func47, Tryd.ntmps47
  go_wp2_with (first
    | (go_at_call 30; refine (hwl _ hB).mono ?_; clear hwl; rintro rr w1 ⟨rfl, hN⟩; replace hB := (Below.onto hB hN).alloc (Below.onto hB hN).size (.cells #[.int .i64 0, .int .i64 0] 40); clear hN)
    | (go_at_call 30; refine (hwr _ hB).mono ?_; clear hwr; rintro rr w2 ⟨rfl, hN⟩; replace hB := (Below.onto hB hN).alloc (Below.onto hB hN).size (.cells #[.int .i64 f1, .int .i64 (f2 : Int)] 40); clear hN))
  go_quiet (fail)
  replace hB := below_drewN hB nq
  go_wp2
  go_ret2
  exact TreePost.none hB
def seenF (l t : List Ent) : List Ent := t.filter fun e => !refHid l e.p
theorem seenF_step {l t : List Ent} {k : Nat} {y : Ent} (hy : t[k]? = some y) : seenF l (t.take (k + 1)) = seenF l (t.take k) ++ (if refHid l y.p then [] else [y]) := by
  unfold seenF
  rw [take_step hy, List.filter_append]
  cases h1 : refHid l y.p <;> simp [h1]
theorem puts_own {b l : List Ent} {k : Nat} {y : Ent} (hs : Sorted b) (hy : l[k]? = some y) (hk : ¬ y.kind = 4) : putsL b (ownL (l.take (k + 1))) = withL (putsL b (ownL (l.take k))) (clearE y) := by
  rw [withL_put (puts_sortedR _ _ hs), own_step hy, if_neg hk, puts_snocR]
theorem puts_skip {b l : List Ent} {k : Nat} {y : Ent} (hy : l[k]? = some y) (hk : y.kind = 4) : putsL b (ownL (l.take (k + 1))) = putsL b (ownL (l.take k)) := by
  rw [own_step hy, if_pos hk, List.append_nil]
end Go.Proofs.YtampldoimpfjgaaDoor
namespace Go.Proofs.YtampldoimpfjgaaDoor
open Go.RowKit PM Go.Sort
set_option linter.unusedVariables false

set_option maxHeartbeats 8000000 in
set_option maxRecDepth 100000 in
theorem roW_3 (l t : List Ent) (pl p : Option Addr) (nl capl n cap : Nat) (w : World) (hLl : Lies w pl l) (hL : Lies w p t) (HNL : Aside (nl = l.length)) (HN : Aside (n = t.length)) (hl80 : nl ≤ 80) (hn80 : n ≤ 80) (hF : ∀ e ∈ t, e.path.size ≤ 1048576) (hFl : ∀ e ∈ l, e.path.size ≤ 1048576) (hs : Sorted t)
    (hwl : WrB w pl nl capl true 0 0) (hwr : WrB w p n cap false 0 0)
    (hhi : Aside (∀ (y : Ent) W, y ∈ t → Below w.heap.size w W → Calls Tryd.prog 45 #[.slice pl nl capl, .string y.path] W fun r w' => r = .returned (.bool (refHid l y.p)) ∧ Below W.heap.size W w')) :
    Calls Tryd.prog 47 #[.slice pl nl capl, .slice p n cap] w fun r w' =>
      (80 < (putsL (seenF l t) (ownL l)).length ∧ TreePost 5 [] w r w') ∨ (¬ 80 < (putsL (seenF l t) (ownL l)).length ∧ TreePost 0 (putsL (seenF l t) (ownL l)) w r w') := by
  have HL : Aside (Lies w p t) := hL
  have HLl : Aside (Lies w pl l) := hLl
  have HS : Aside (Sorted (seenF l t)) := List.Pairwise.filter _ hs
  have HF : Aside (∀ e ∈ t, e.path.size ≤ 1048576) := hF
  have HFl : Aside (∀ e ∈ l, e.path.size ≤ 1048576) := hFl
  clear hL hLl hs hF hFl
  have hB : Below w.heap.size w w := Below.refl _ _
  go_enter Tryd.func47, Tryd.ntmps47
  go_wp2_with (first
    | (go_at_call 30; refine (hwl _ hB).mono ?_; clear hwl; rintro rr w1 ⟨rfl, hN⟩; replace hB := (Below.onto hB hN).alloc (Below.onto hB hN).size (.cells #[.int .i64 0, .int .i64 0] 40); clear hN)
    | (go_at_call 30; refine (hwr _ hB).mono ?_; clear hwr; rintro rr w2 ⟨rfl, hN⟩; replace hB := (Below.onto hB hN).alloc (Below.onto hB hN).size (.cells #[.int .i64 0, .int .i64 0] 40); clear hN; have HB : Aside (Below w.heap.size w (w2.alloc (.cells #[.int .i64 0, .int .i64 0] 40))) := hB))
  go_loopg [8, 29] n (fun gg v i wr => ∃ (k : Nat) (r : List Ent), k ≤ n ∧ n - k ≤ gg ∧ i = .int .i64 k ∧ r.length ≤ k ∧ Aside (Rows wr w.heap.size v r) ∧ Aside (Below w.heap.size w wr) ∧ Aside (r = seenF l (t.take k)))
  case atStart => exact ⟨0, [], Nat.zero_le _, by omega, rfl, Nat.le_refl _, Rows.nil _ _, HB.out, rfl⟩
  case round =>
    obtain ⟨k, r, hk, hgg, rfl, hbl, ST, BW, NM⟩ := hrel
    by_cases hlt : k < n
    · have hltz : (k : Int) < (n : Int) := by omega
      obtain ⟨y, hy⟩ : ∃ y, t[k]? = some y := ⟨_, List.getElem?_eq_getElem (by have := HN.out; omega)⟩
      have HY : Aside (t[k]? = some y) := hy
      have HM : Aside (y ∈ t) := List.mem_of_getElem? hy
      rcases HL.out with h0 | ⟨b, off, rfl, hb, hc⟩
      · rw [h0] at hy; simp at hy
      obtain ⟨c0, c1, c2, c3⟩ := Lies.cells hc hb BW.out hy
      clear hc hy
      have hws : w.heap.size ≤ wr.heap.size := BW.out.size
      have hh := fun W => hhi.out y W HM.out
      have HST : Aside (seenF l (t.take (k + 1)) = r ++ (if refHid l y.p then [] else [y])) := by show _ = _; rw [seenF_step HY.out, NM.out]
      generalize refHid l y.p = hd at hh HST
      cases hd with
      | true =>
        have HE : Aside (seenF l (t.take (k + 1)) = r) := by show _ = _; rw [HST.out]; simp
        go_wp2_with (go_at_call 45; refine (hh _ (BW.out.alloc BW.out.size _)).mono ?_; clear hh; rintro rr w3 ⟨rfl, hN⟩; have HB3 : Aside (Below wr.heap.size wr w3) := base2 hN; clear hN)
        go_roundg (n - (k + 1))
        case measure => omega
        case rel => exact ⟨k + 1, r, by omega, by omega, by go_num, by omega, ST.out.below HB3.out, Below.onto BW.out HB3.out, HE.out.symm⟩
      | false =>
        have HE : Aside (seenF l (t.take (k + 1)) = r ++ [y]) := by show _ = _; rw [HST.out]; simp
        go_wp2_with (first
          | (go_at_call 45; refine (hh _ (BW.out.alloc BW.out.size _)).mono ?_; clear hh; rintro rr w3 ⟨rfl, hN⟩; obtain ⟨⟨d0, d1, d2, d3⟩, _⟩ := new4 (by simp) hN; have hs3 := hN.size; simp at hs3; have HB3 : Aside (Below wr.heap.size wr w3) := base2 hN; clear hN; have hR1 := ST.out.below HB3.out)
          | (at_builtin; refine append_row w3 y rfl _ _ rfl w.heap.size _ r rfl hR1 (by omega) (by omega) _ (by simp) rfl ?_; clear hR1; intro v4 w4 hR4 hB4 hC4 hs4; have HR4 : Aside (Rows w4 w.heap.size v4 (r ++ [y])) := hR4; have HB4 : Aside (Below w.heap.size w w4) := (Below.onto BW.out HB3.out).trans hB4; clear hR4 hB4 hC4))
        go_roundg (n - (k + 1))
        case measure => omega
        case rel => exact ⟨k + 1, r ++ [y], by omega, by omega, by go_num, by simp; omega, HR4.out, HB4.out, HE.out.symm⟩
    · have hltz : ¬ (k : Int) < (n : Int) := by omega
      have HE : Aside (seenF l t = r) := by
        show _ = _
        rw [NM.out, List.take_of_length_le (by have := HN.out; omega)]
      clear hhi NM hgg
      go_wp2
      go_loopg [8, 45] nl (fun gg v i wr2 => ∃ j : Nat, j ≤ nl ∧ nl - j ≤ gg ∧ i = .int .i64 j ∧ Aside (Rows wr2 w.heap.size v (putsL (seenF l t) (ownL (l.take j)))) ∧ Aside (Below w.heap.size w wr2))
      case atStart => exact ⟨0, Nat.zero_le _, by omega, rfl, by show Rows _ _ _ _; rw [HE.out]; exact ST.out, BW.out⟩
      case round =>
        obtain ⟨j, hj, hgg, rfl, ST2, BW2⟩ := hrel
        by_cases hlt2 : j < nl
        · have hltz2 : (j : Int) < (nl : Int) := by omega
          obtain ⟨y, hy⟩ : ∃ y, l[j]? = some y := ⟨_, List.getElem?_eq_getElem (by have := HNL.out; omega)⟩
          have HY : Aside (l[j]? = some y) := hy
          have HM : Aside (y ∈ l) := List.mem_of_getElem? hy
          rcases HLl.out with h0 | ⟨b, off, rfl, hb, hc⟩
          · rw [h0] at hy; simp at hy
          obtain ⟨c0, c1, c2, c3⟩ := Lies.cells hc hb BW2.out hy
          clear hc hy
          by_cases hk4 : y.kind = 4
          · have HE2 : Aside (putsL (seenF l t) (ownL (l.take (j + 1))) = putsL (seenF l t) (ownL (l.take j))) := puts_skip HY.out hk4
            go_wp2
            go_roundg (nl - (j + 1))
            case measure => omega
            case rel => exact ⟨j + 1, by omega, by omega, by go_num, by show Rows _ _ _ _; rw [HE2.out]; exact ST2.out.below ((Grown.refl _).alloc _).below, (BW2.out.alloc BW2.out.size _ : Below _ _ _)⟩
          · have hwi : ∀ W v, Rows W w.heap.size v (putsL (seenF l t) (ownL (l.take j))) → Calls Tryd.prog 66 #[v, .agg #[.string y.path, .int .i64 y.kind, .string y.text, .bool false]] W (RowsPost (putsL (seenF l t) (ownL (l.take (j + 1)))) W) := fun W v hv => by
              obtain ⟨p', c', rfl, hL', _, _⟩ := hv.form
              rw [puts_own HS.out HY.out hk4]
              refine refWith_wide _ (clearE y) p' c' W hL' (puts_allR _ _ (fun x hx => HF.out x (List.mem_filter.1 hx).1) (fun x hx => ?_)) (HFl.out y HM.out) ?_
              · obtain ⟨z, hz, _, rfl⟩ := mem_ownL.1 hx
                exact HFl.out z (List.mem_of_mem_take hz)
              · have h1 := puts_leR (ownL (l.take j)) (seenF l t) HS.out
                have h2 := own_take_len l j
                have h3 : (seenF l t).length ≤ t.length := List.length_filter_le _ _
                have := HN.out
                omega
            go_wp2_with (go_at_call 66; refine (hwi _ _ (ST2.out.below ((Grown.refl _).alloc _).below)).mono ?_; clear hwi; rintro rr w5 ⟨⟨v5, rfl, hR5⟩, hN5⟩; have HR5 : Aside (Rows w5 w.heap.size v5 (putsL (seenF l t) (ownL (l.take (j + 1))))) := hR5.mono (BW2.out.alloc BW2.out.size _).size; have HB5 : Aside (Below w.heap.size w w5) := Below.onto (BW2.out.alloc BW2.out.size _) hN5; clear hR5 hN5)
            go_roundg (nl - (j + 1))
            case measure => omega
            case rel => exact ⟨j + 1, by omega, by omega, by go_num, HR5.out, HB5.out⟩
        · have hltz2 : ¬ (j : Int) < (nl : Int) := by omega
          have ST3 := ST2.out
          rw [List.take_of_length_le (by have := HNL.out; omega)] at ST3
          have HR3 : Aside (Rows _ w.heap.size _ (putsL (seenF l t) (ownL l))) := ST3
          obtain ⟨p9, c9, hv9, hL9, hc9, hn9⟩ := ST3.form
          subst hv9
          obtain ⟨N, hNN⟩ : ∃ N, N = (putsL (seenF l t) (ownL l)).length := ⟨_, rfl⟩
          have HNN : Aside (N = (putsL (seenF l t) (ownL l)).length) := hNN
          rw [← hNN] at hc9
          rw [← hNN]
          by_cases h80 : 80 < N
          · have h80z : (80 : Int) < (N : Int) := by omega
            clear hL9 hn9 HR3 hNN
            go_wp2
            go_ret2
            exact .inl ⟨by have := HNN.out; omega, TreePost.none BW2.out⟩
          · have h80z : ¬ (80 : Int) < (N : Int) := by omega
            clear hNN
            have H9 : Aside (Lies _ p9 (putsL (seenF l t) (ownL l)) ∧ (p9 = none → c9 = 0)) := ⟨hL9, hn9⟩
            clear hL9 hn9
            go_wp2
            go_ret2
            exact .inr ⟨by have := HNN.out; omega, p9, c9, by rw [← HNN.out]; rfl, H9.out.1, by rw [← HNN.out]; exact hc9, H9.out.2, BW2.out⟩
theorem seenF_eq {l t : List Ent} (hr : Right true l) : seenF l t = t.filter fun e => !hidesL l e.p := by
  unfold seenF
  exact List.filter_congr fun x _ => by rw [refHid_eq hr]
theorem refOver_any (l t : List Ent) (pl p : Option Addr) (capl cap : Nat) (w : World) (hLl : Lies w pl l) (hL : Lies w p t) (hFl : ∀ e ∈ l, e.path.size ≤ 1048576 ∧ e.text.size ≤ 1048576) (hF : ∀ e ∈ t, e.path.size ≤ 1048576 ∧ e.text.size ≤ 1048576) (hnl : l.length < 4611686018427387904) (hn : t.length < 4611686018427387904) (hcapl : l.length ≤ capl) (hcap : t.length ≤ cap) :
    Calls Tryd.prog 47 #[.slice pl l.length capl, .slice p t.length cap] w (TreePost (overErr l t) (if overErr l t = 0 then overL l t else []) w) := by
  have hwl : WrB w pl l.length capl true (faultL true l).1 ((faultL true l).2 : Nat) := fun W hB => refWrong_any l true pl capl W (hLl.kept hB) hFl hnl hcapl
  have hwr : WrB w p t.length cap false (faultL false t).1 ((faultL false t).2 : Nat) := fun W hB => refWrong_any t false p cap W (hL.kept hB) hF hn hcap
  by_cases h1 : (faultL true l).1 = 0
  · have hRl := faultL_zero.1 h1
    rw [faultL_right hRl] at hwl
    have hwl : WrB w pl l.length capl true 0 0 := hwl
    by_cases h2 : (faultL false t).1 = 0
    · have hRt := faultL_zero.1 h2
      rw [faultL_right hRt] at hwr
      have hwr : WrB w p t.length cap false 0 0 := hwr
      have hl80 := hRl.len
      have ht80 := hRt.len
      have heq : putsL (seenF l t) (ownL l) = overL l t := by rw [seenF_eq hRl]; exact over_ref hRl.sorted hRt.sorted (fun e he => hRt.ne he)
      have hlen : (putsL (seenF l t) (ownL l)).length = overN l t := by rw [heq, over_len hRl.sorted hRt.sorted]
      have hE : overErr l t = if 80 < overN l t then 5 else 0 := by rw [overErr, if_pos h1, if_pos h2]
      refine (roW_3 l t pl p l.length capl t.length cap w hLl hL rfl rfl hl80 ht80 (fun e he => (hF e he).1) (fun e he => (hFl e he).1) hRt.sorted hwl hwr (fun y W hy hB => refHides_any l y.path pl capl W (hLl.kept hB) hnl (by have := (hF y hy).1; omega))).mono ?_
      rintro r w' (⟨h3, h⟩ | ⟨h3, h⟩)
      · rw [hlen] at h3
        rw [hE, if_pos h3, if_neg (by decide)]
        exact h
      · rw [hlen] at h3
        rw [hE, if_neg h3, if_pos rfl, ← heq]
        exact h
    · have hE : overErr l t = (faultL false t).1 := by rw [overErr, if_pos h1, if_neg h2]
      rw [hE, if_neg h2]
      exact roW_2 pl p l.length capl t.length cap w hwl _ _ h2 hwr
  · have hE : overErr l t = (faultL true l).1 := by rw [overErr, if_neg h1]
    rw [hE, if_neg h1]
    exact roW_1 pl p l.length capl t.length cap w _ _ h1 hwl
end Go.Proofs.YtampldoimpfjgaaDoor
namespace Go.Proofs.YtampldoimpfjgaaDoor
open Go.RowKit PM Go.Sort
set_option linter.unusedVariables false

theorem drop_last {ls : List Lay} {k j : Nat} {x : Lay} (hj : j = ls.length - 1 - k) (hk : k < ls.length) (hx : ls[j]? = some x) : ls.drop (ls.length - (k + 1)) = x :: ls.drop (ls.length - k) := by
  obtain ⟨h1, h2⟩ := List.getElem?_eq_some_iff.1 hx
  have e1 : ls.length - (k + 1) = j := by omega
  have e2 : ls.length - k = j + 1 := by omega
  rw [e1, e2, List.drop_eq_getElem_cons h1, h2]
theorem right_small {t : List Ent} (h : Right false t) : ∀ e ∈ t, e.path.size ≤ 1048576 ∧ e.text.size ≤ 1048576 := fun e he => by
  have hw := h.each e he
  have h1 := clean_size (wrongE_clean hw)
  have h2 : e.text.size ≤ 100 := by
    unfold wrongE at hw
    split at hw
    · cases hw
    · split at hw
      · cases hw
      · split at hw
        · cases hw
        · omega
  omega
set_option maxHeartbeats 4000000 in
set_option maxRecDepth 100000 in
theorem rmW_many (n : Nat) (h5 : 5 < n) (p : Option Addr) (cap : Nat) (w : World) : Calls Tryd.prog 49 #[.slice p n cap] w (TreePost 5 [] w) := by
  have h5z : (5 : Int) < (n : Int) := by omega
  go_enter Tryd.func49, Tryd.ntmps49
  go_wp2
  go_ret2
  exact TreePost.none (Below.refl _ _)
set_option maxHeartbeats 8000000 in
set_option maxRecDepth 100000 in
theorem rmW_few (ls : List Lay) (p : Option Addr) (cap : Nat) (w : World) (hT : LiesT w p ls) (hOK : ∀ x ∈ ls, LayOK w x) (hsm : ∀ x ∈ ls, ∀ e ∈ x.es, e.path.size ≤ 1048576 ∧ e.text.size ≤ 1048576) (h5 : ls.length ≤ 5) :
    Calls Tryd.prog 49 #[.slice p ls.length cap] w (TreePost (mergeF (ls.map (·.es))).1 (mergeF (ls.map (·.es))).2 w) := by
  have HT : Aside (LiesT w p ls) := hT
  have HOK : Aside (∀ x ∈ ls, LayOK w x) := hOK
  have HSM : Aside (∀ x ∈ ls, ∀ e ∈ x.es, e.path.size ≤ 1048576 ∧ e.text.size ≤ 1048576) := hsm
  clear hT hOK hsm
  obtain ⟨n, hnl⟩ : ∃ n, n = ls.length := ⟨_, rfl⟩
  have HN : Aside (n = ls.length) := hnl
  rw [← hnl] at h5 ⊢
  clear hnl
  have h5z : ¬ (5 : Int) < (n : Int) := by omega
  go_enter Tryd.func49, Tryd.ntmps49
  go_wp2
  go_loopg [4, 13] n (fun gg v i wr => ∃ (k : Nat) (pT : Option Addr) (lT cT : Nat) (R : List Ent), k ≤ n ∧ n - k ≤ gg ∧ i = .int .i64 k ∧ v = .slice pT lT cT ∧ Aside (lT = R.length) ∧ lT ≤ cT ∧ Aside (mergeF ((ls.drop (ls.length - k)).map (·.es)) = (0, R)) ∧ Aside (Lies wr pT R ∧ (pT = none → cT = 0)) ∧ Aside (Below w.heap.size w wr))
  case atStart => exact ⟨0, none, 0, 0, [], Nat.zero_le _, by omega, rfl, rfl, rfl, Nat.le_refl _, by show _ = _; simp [mergeF], ⟨Lies.nil _ _, fun _ => rfl⟩, Below.refl _ _⟩
  case round =>
    obtain ⟨k, pT, lT, cT, R, hk, hgg, rfl, rfl, HLT, hcT, ME, LI, BW⟩ := hrel
    by_cases hlt : k < n
    · have hltz : (k : Int) < (n : Int) := by omega
      obtain ⟨j, hj⟩ : ∃ j, j = n - 1 - k := ⟨_, rfl⟩
      obtain ⟨x, hx⟩ : ∃ x, ls[j]? = some x := ⟨_, List.getElem?_eq_getElem (by have := HN.out; omega)⟩
      have hjz : (n : Int) - 1 - (k : Int) = (j : Int) := by omega
      have hjn : j < n := by omega
      have hjnz : (j : Int) < (n : Int) := by omega
      have hj0 : (0 : Int) ≤ (j : Int) := by omega
      have hw1 : IntKind.i64.wrap ((n : Int) - 1) = (n : Int) - 1 := by simp [IntKind.wrap, IntKind.bits, IntKind.signed]; omega
      have hw2 : IntKind.i64.wrap (j : Int) = (j : Int) := by simp [IntKind.wrap, IntKind.bits, IntKind.signed]; omega
      have HX : Aside (ls[j]? = some x) := hx
      have hxm := List.mem_of_getElem? hx
      have HD : Aside (ls.drop (ls.length - (k + 1)) = x :: ls.drop (ls.length - k)) := drop_last (by have := HN.out; omega) (by have := HN.out; omega) hx
      clear hj
      rcases HT.out with h0 | ⟨b, off, rfl, hb, hc⟩
      · rw [h0] at hx; simp at hx
      have c0 := (BW.out.cell (p := ⟨b, off + j, none⟩) hb).trans (hc j x hx)
      clear hc hx
      have hr : Right false R := by
        have := mergeF_right (ls := (ls.drop (ls.length - k)).map (·.es)) (by rw [ME.out])
        rw [ME.out] at this
        exact this
      have hxo := (HOK.out x hxm).kept BW.out
      have hov := refOver_any x.es R x.ad pT x.cap cT _ hxo.lies LI.out.1 (HSM.out x hxm) (right_small hr) hxo.small (by have := hr.len; omega) hxo.cap (by have := HLT.out; omega)
      have HM : Aside (mergeF ((ls.drop (ls.length - (k + 1))).map (·.es)) = (overErr x.es R, if overErr x.es R = 0 then overL x.es R else [])) := by
        show _ = _
        rw [HD.out, List.map_cons, mergeF_ok (by rw [ME.out]), ME.out]
      rw [← HLT.out] at hov
      generalize overErr x.es R = er at hov HM
      obtain ⟨xa, xc, xe⟩ := x
      obtain ⟨xn, hxn⟩ : ∃ xn, xn = xe.length := ⟨_, rfl⟩
      simp only at hov c0
      rw [← hxn] at hov c0
      clear hxn hxo hr
      by_cases her : er = 0
      · subst her
        rw [if_pos rfl] at hov HM
        generalize overL _ R = R2 at hov HM
        go_wp2_with (go_at_call 47; refine hov.mono ?_; clear hov; rintro rr w2 ⟨p2, c2, rfl, hL2, hc2, hn2, hN⟩; have H2 : Aside (Lies w2 p2 R2 ∧ (p2 = none → c2 = 0)) := ⟨hL2, hn2⟩; have HB2 : Aside (Below w.heap.size w w2) := Below.onto BW.out hN; clear hL2 hn2 hN)
        go_roundg (n - (k + 1))
        case measure => omega
        case rel => exact ⟨k + 1, p2, R2.length, c2, R2, by omega, by omega, by go_num, rfl, rfl, hc2, HM.out, H2.out, HB2.out⟩
      · rw [if_neg her] at hov HM
        have HALL : Aside (mergeF (ls.map (·.es)) = (er, [])) := by
          show _ = _
          have e1 : ls.map (·.es) = (ls.take (ls.length - (k + 1))).map (·.es) ++ (ls.drop (ls.length - (k + 1))).map (·.es) := by rw [← List.map_append, List.take_append_drop]
          rw [e1, mergeF_app (by rw [HM.out]; exact her), HM.out]
        go_wp2_with (go_at_call 47; refine hov.mono ?_; clear hov; rintro rr w2 ⟨p2, c2, rfl, hL2, hc2, hn2, hN⟩; have HB2 : Aside (Below w.heap.size w w2) := Below.onto BW.out hN; clear hL2 hn2 hN)
        go_ret2
        rw [HALL.out]
        exact TreePost.none HB2.out
    · have hltz : ¬ (k : Int) < (n : Int) := by omega
      have HALL : Aside (mergeF (ls.map (·.es)) = (0, R)) := by
        show _ = _
        have := ME.out
        rw [show ls.length - k = 0 by have := HN.out; omega, List.drop_zero] at this
        exact this
      go_wp2
      go_ret2
      rw [HALL.out]
      exact ⟨pT, cT, by rw [← HLT.out]; rfl, LI.out.1, by rw [← HLT.out]; exact hcT, LI.out.2, BW.out⟩
theorem refMerge_any (ls : List Lay) (p : Option Addr) (cap : Nat) (w : World) (hT : LiesT w p ls) (hOK : ∀ x ∈ ls, LayOK w x) (hsm : ∀ x ∈ ls, ∀ e ∈ x.es, e.path.size ≤ 1048576 ∧ e.text.size ≤ 1048576) :
    Calls Tryd.prog 49 #[.slice p ls.length cap] w (TreePost (mergeL (ls.map (·.es))).1 (mergeL (ls.map (·.es))).2 w) := by
  unfold mergeL
  rw [List.length_map]
  by_cases h5 : 5 < ls.length
  · rw [if_pos h5]
    exact rmW_many ls.length h5 p cap w
  · rw [if_neg h5]
    exact rmW_few ls p cap w hT hOK hsm (by omega)
end Go.Proofs.YtampldoimpfjgaaDoor
