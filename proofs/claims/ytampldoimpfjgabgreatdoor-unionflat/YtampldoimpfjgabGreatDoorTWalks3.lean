/-
  What tree.full, tree.wrongEntry and tree.wrongPlace answer; the library's slices.IndexFunc and slices.ContainsFunc over entries, cmp.Or over numbers.
-/
import Derived.Test.YtampldoimpfjgabGreatDoorTWalks2
namespace Go.Proofs.YtampldoimpfjgabGreatDoor
open Go.RowKit PM Go.Sort
set_option linter.unusedVariables false

/-- The first entry of which a predicate holds. -/
def IdxPost (pr : Ent → Bool) (t : List Ent) (w : World) (r : Ending) (w' : World) : Prop :=
  Grown w w' ∧ ((r = .returned (.int .i64 (-1)) ∧ ∀ x ∈ t, pr x = false) ∨ ∃ (k : Nat) (y : Ent), t[k]? = some y ∧ r = .returned (.int .i64 k) ∧ pr y = true ∧ ∀ x ∈ t.take k, pr x = false)
theorem take_false {pr : Ent → Bool} {t : List Ent} {k : Nat} {y : Ent} (hy : t[k]? = some y) (hp : pr y = false) (h : ∀ x ∈ t.take k, pr x = false) : ∀ x ∈ t.take (k + 1), pr x = false := by
  obtain ⟨h1, h2⟩ := List.getElem?_eq_some_iff.1 hy
  intro x hx
  rw [List.take_succ_eq_append_getElem h1] at hx
  rcases List.mem_append.1 hx with hx | hx
  · exact h x hx
  · simp at hx; rw [hx, h2]; exact hp

set_option maxHeartbeats 2000000 in
theorem index_any (pr : Ent → Bool) (g : Nat) (lb : Array Value) (eg : ∀ args w, (callFunc g args).run Tryz.prog w = .ok (.enter g args) w) (t : List Ent) (p : Option Addr) (cap : Nat) (w : World) (hL : Lies w p t) (hn : t.length < 4611686018427387904)
    (hp : ∀ W x, Grown w W → x ∈ t → Calls Tryz.prog g (#[.agg #[.string x.path, .int .i64 x.kind, .string x.text, .bool x.opq]] ++ lb) W fun e w' => e = .returned (.bool (pr x)) ∧ Grown W w') :
    Calls Tryz.prog 118 #[.slice p t.length cap, .func (.func g) #[] lb] w (IdxPost pr t w) := by
  have HP : Aside _ := hp
  have HL : Aside (Lies w p t) := hL
  clear hL hp
  obtain ⟨n, hnl⟩ : ∃ n, n = t.length := ⟨_, rfl⟩
  have HN : Aside (n = t.length) := hnl
  rw [← hnl] at hn ⊢
  clear hnl
  go_enter Tryz.func118, Tryz.ntmps118
  go_wp2
  go_loopg [5, 8] n (fun gg _ s8 wr => ∃ kk : Nat, kk ≤ n ∧ n - kk ≤ gg ∧ s8 = .int .i64 kk ∧ Aside (Grown w wr) ∧ Aside (∀ x ∈ t.take kk, pr x = false))
  case atStart => exact ⟨0, Nat.zero_le _, by omega, rfl, Grown.refl w, by intro x hx; simp at hx⟩
  case round =>
    obtain ⟨kk, hkk, hg, rfl, BW, A⟩ := hrel
    by_cases hlt : kk < n
    · have hltz : (kk : Int) < (n : Int) := by omega
      obtain ⟨y, hy⟩ : ∃ y, t[kk]? = some y := ⟨_, List.getElem?_eq_getElem (by have := HN.out; omega)⟩
      have Y : Aside (t[kk]? = some y) := hy
      have hcall := HP.out wr y BW.out (List.mem_of_getElem? hy)
      rcases HL.out with h0 | ⟨b, off, rfl, hb, hc⟩
      · rw [h0] at hy; simp at hy
      obtain ⟨c0, c1, c2, c3⟩ := Lies.cells hc hb BW.out.below hy
      clear hc hy
      cases hq : pr y with
      | true =>
        rw [hq] at hcall
        go_wp2_with (go_at_fn g; refine hcall.mono ?_; rintro e w' ⟨rfl, hb'⟩)
        go_ret
        exact ⟨BW.out.trans hb', .inr ⟨kk, y, Y.out, rfl, hq, A.out⟩⟩
      | false =>
        rw [hq] at hcall
        go_wp2_with (go_at_fn g; refine hcall.mono ?_; rintro e w' ⟨rfl, hb'⟩)
        go_roundg (n - (kk + 1))
        case measure => omega
        case rel => exact ⟨kk + 1, by omega, by omega, by go_num, BW.out.trans hb', take_false Y.out hq A.out⟩
    · have hltz : ¬ (kk : Int) < (n : Int) := by omega
      have : kk = n := by omega
      subst this
      go_wp2
      go_ret
      refine ⟨BW.out, .inl ⟨rfl, fun x hx => A.out x ?_⟩⟩
      rw [List.take_of_length_le (by rw [HN.out]; exact Nat.le_refl _)]; exact hx

theorem contains_any (pr : Ent → Bool) (g : Nat) (lb : Array Value) (eg : ∀ args w, (callFunc g args).run Tryz.prog w = .ok (.enter g args) w) (t : List Ent) (p : Option Addr) (cap : Nat) (w : World) (hL : Lies w p t) (hn : t.length < 4611686018427387904)
    (hp : ∀ W x, Grown w W → x ∈ t → Calls Tryz.prog g (#[.agg #[.string x.path, .int .i64 x.kind, .string x.text, .bool x.opq]] ++ lb) W fun e w' => e = .returned (.bool (pr x)) ∧ Grown W w') :
    Calls Tryz.prog 86 #[.slice p t.length cap, .func (.func g) #[] lb] w fun e w' => e = .returned (.bool (t.any pr)) ∧ Grown w w' := by
  have hs := index_any pr g lb eg t p cap w hL hn hp
  clear hp
  go_enter Tryz.func86, Tryz.ntmps86
  go_wp2_with (go_at_call 118; refine hs.mono ?_; clear hs; rintro e w' ⟨hG, ⟨rfl, ha⟩ | ⟨k, y, hy, rfl, hpy, ha⟩⟩)
  · go_ret
    refine ⟨ret_bool ?_, hG⟩
    have : t.any pr = false := List.any_eq_false.2 fun x hx => by simp [ha x hx]
    rw [this]
  · go_ret
    refine ⟨ret_bool ?_, hG⟩
    have : t.any pr = true := List.any_eq_true.2 ⟨y, List.mem_of_getElem? hy, hpy⟩
    rw [this]

theorem fullP_any (e : Ent) (q : ByteArray) (B : Nat) (w : World) (he : e.path.size ≤ maxLen) (hq : q.size ≤ maxLen) (hB : B < w.heap.size) (hc : w.cell? ⟨B, 0, none⟩ = some (.string q)) :
    Calls Tryz.prog 87 #[.agg #[.string e.path, .int .i64 e.kind, .string e.text, .bool e.opq], .pointer (some ⟨B, 0, none⟩)] w fun r w' => r = .returned (.bool (under e.p q.data.toList)) ∧ Grown w w' := by
  have hne : B ≠ w.heap.size := by omega
  go_enter Tryz.func87, Tryz.ntmps87
  go_wp2_with (go_at_call 54; refine (under_any _ _ _ he hq).mono ?_; rintro r w' ⟨rfl, rfl⟩)
  go_ret
  exact ⟨rfl, (Grown.refl w).alloc _⟩
def fullL (t : List Ent) (q : List UInt8) : Int := if t.any (fun e => under e.p q) then 11 else 0
theorem full_any (t : List Ent) (q : ByteArray) (p : Option Addr) (cap : Nat) (w : World) (hL : Lies w p t) (hF : Fits t) (hn : t.length < 4611686018427387904) (hq : q.size ≤ maxLen) :
    Calls Tryz.prog 48 #[.slice p t.length cap, .string q] w fun r w' => r = .returned (.int .i64 (fullL t q.data.toList)) ∧ Below w.heap.size w w' := by
  have eg : ∀ args w, (callFunc 87 args).run Tryz.prog w = .ok (.enter 87 args) w := enters_of Tryz.func87 (by kernel_rfl) rfl
  have hs := contains_any (fun e => under e.p q.data.toList) 87 #[.pointer (some ⟨w.heap.size, 0, none⟩)] eg t p cap (w.alloc (.cells #[.string q] 9)) (hL.grown ((Grown.refl w).alloc _)) hn
    (fun W x hG hx => fullP_any x q w.heap.size W (hF x hx).1 hq (by have := hG.size; simp at this; omega) ((hG.cell (p := ⟨w.heap.size, 0, none⟩) (by simp)).trans (by simp)))
  clear eg
  have HA : Aside (fullL t q.data.toList = if t.any (fun e => under e.p q.data.toList) then 11 else 0) := rfl
  generalize t.any (fun e => under e.p q.data.toList) = bb at hs HA
  cases bb
  · go_enter Tryz.func48, Tryz.ntmps48
    go_wp2_with (go_at_call 86; refine hs.mono ?_; clear hs; rintro e w' ⟨rfl, hG⟩)
    go_ret
    exact ⟨ret_int (by rw [HA.out]; rfl), ((Grown.refl w).alloc _ |>.trans hG).below⟩
  · go_enter Tryz.func48, Tryz.ntmps48
    go_wp2_with (go_at_call 86; refine hs.mono ?_; clear hs; rintro e w' ⟨rfl, hG⟩)
    go_ret
    exact ⟨ret_int (by rw [HA.out]; rfl), ((Grown.refl w).alloc _ |>.trans hG).below⟩
end Go.Proofs.YtampldoimpfjgabGreatDoor
