/-
  The document's own Look, way by way.
-/
import Derived.Test.YtampldoimpfjgaaGreatDoorGRU9
import Derived.Test.YtampldoimpfjgaaGreatDoorGL
namespace Go.Proofs.YtampldoimpfjgaaGreatDoor
open Go.RowKit PM Go.Sort
set_option linter.unusedVariables false

abbrev RCl (w : World) (q : ByteArray) (b : Bool) : Prop := ∀ W, Below w.heap.size w W → Calls Tryz.prog 25 #[.string q] W fun r w' => r = .returned (.bool b) ∧ Below W.heap.size W w'
abbrev RAl (w : World) (u : Value) (all : List Lay) (N : Nat) : Prop := ∀ W, Below w.heap.size w W → Calls Tryz.prog 20 #[u] W fun e w' => ∃ p c, e = .returned (.slice p N c) ∧ LiesT w' p all ∧ Below W.heap.size W w'
theorem take_none {all : List (List Ent)} {q : List UInt8} {k : Nat} (h : idxFrom q k (all.drop k) = idxFrom q 0 all) (hk : all.length ≤ k) : idxFrom q 0 all = -1 := by
  rw [List.drop_of_length_le hk] at h; exact h.symm
theorem idx_some : ∀ (all : List (List Ent)) (q : List UInt8) (i : Nat), (∃ x ∈ all, (getL x q).isSome = true) → idxFrom q i all ≠ -1
  | [], q, i, h => by obtain ⟨x, hx, _⟩ := h; simp at hx
  | y :: r, q, i, h => by
    rw [idxFrom]
    split
    · omega
    · rename_i hy
      obtain ⟨x, hx, hs⟩ := h
      rcases List.mem_cons.1 hx with rfl | hx
      · exact absurd hs hy
      · exact idx_some r q (i + 1) ⟨x, hx, hs⟩
set_option maxHeartbeats 1000000 in
set_option maxRecDepth 100000 in
theorem rl_1 (a : Option Addr) (k c : Nat) (pl : Option Addr) (n cl : Nat) (q : ByteArray) (w : World) (sl : List Ent) (er : Int) (he : ¬ er = 0) (hsn : RSn w (.agg #[.slice a k c, .slice pl n cl]) er sl) :
    Calls Tryz.prog 10 #[.agg #[.slice a k c, .slice pl n cl], .string q] w fun r w' => r = .returned (.tuple #[.agg #[.string ⟨#[]⟩, .int .i64 0, .string ⟨#[]⟩, .bool false], .int .i64 0, .int .i64 er]) ∧ Below w.heap.size w w' := by
  have I : Below (w.heap.size + 2) ((w.alloc (.cells #[.slice a k c, .slice pl n cl] 26)).alloc (.cells #[.string ⟨#[]⟩, .int .i64 0, .string ⟨#[]⟩, .bool false] 28)) ((w.alloc (.cells #[.slice a k c, .slice pl n cl] 26)).alloc (.cells #[.string ⟨#[]⟩, .int .i64 0, .string ⟨#[]⟩, .bool false] 28)) := Below.refl _ _
  go_enter Tryz.func10, Tryz.ntmps10
  go_wp2_with (first
    | (go_at_call 5; refine (hsn _ (down2 I)).mono ?_; clear hsn; rintro rr w1 ⟨p1, c1, rfl, hL1, hc1, hn1, hN1⟩; replace I := up2 I hN1; have HL1 : Aside (Lies w1 p1 sl) := hL1; clear hL1 hN1 hn1; obtain ⟨sn, hsn2⟩ : ∃ sn, sn = sl.length := ⟨_, rfl⟩; have HSN : Aside (sn = sl.length) := hsn2; rw [← hsn2] at hc1 ⊢; clear hsn2; obtain ⟨⟨r0, r1, r2, r3⟩, ⟨g0, g1, g2, g3⟩⟩ := res4 I; obtain ⟨⟨u0, u1⟩, _⟩ := box2 I; have hlt := block_lt_of_cell r0; simp only at hlt; have hne := Nat.ne_of_lt hlt))
  obtain ⟨s0, s1, s2, s3⟩ := four_cells (.string ⟨#[]⟩) (.int .i64 0) (.string ⟨#[]⟩) (.bool false) r0 r1 r2 r3
  refine bodyPost_ret (v := .tuple #[.agg #[.string ⟨#[]⟩, .int .i64 0, .string ⟨#[]⟩, .bool false], .int .i64 0, .int .i64 er]) (by simp [results, Tryz.results10, go_sem, s0, s1, s2, s3]) rfl ?_
  exact ⟨rfl, store4 I _ _ _ _⟩
set_option maxHeartbeats 1000000 in
set_option maxRecDepth 100000 in
theorem rl_2 (a : Option Addr) (k c : Nat) (pl : Option Addr) (n cl : Nat) (q : ByteArray) (w : World) (sl : List Ent) (hsn : RSn w (.agg #[.slice a k c, .slice pl n cl]) 0 sl) (hcl : RCl w q false) :
    Calls Tryz.prog 10 #[.agg #[.slice a k c, .slice pl n cl], .string q] w fun r w' => r = .returned (.tuple #[.agg #[.string ⟨#[]⟩, .int .i64 0, .string ⟨#[]⟩, .bool false], .int .i64 0, .int .i64 7]) ∧ Below w.heap.size w w' := by
  have I : Below (w.heap.size + 2) ((w.alloc (.cells #[.slice a k c, .slice pl n cl] 26)).alloc (.cells #[.string ⟨#[]⟩, .int .i64 0, .string ⟨#[]⟩, .bool false] 28)) ((w.alloc (.cells #[.slice a k c, .slice pl n cl] 26)).alloc (.cells #[.string ⟨#[]⟩, .int .i64 0, .string ⟨#[]⟩, .bool false] 28)) := Below.refl _ _
  go_enter Tryz.func10, Tryz.ntmps10
  go_wp2_with (first
    | (go_at_call 5; refine (hsn _ (down2 I)).mono ?_; clear hsn; rintro rr w1 ⟨p1, c1, rfl, hL1, hc1, hn1, hN1⟩; replace I := up2 I hN1; have HL1 : Aside (Lies w1 p1 sl) := hL1; clear hL1 hN1 hn1; obtain ⟨sn, hsn2⟩ : ∃ sn, sn = sl.length := ⟨_, rfl⟩; have HSN : Aside (sn = sl.length) := hsn2; rw [← hsn2] at hc1 ⊢; clear hsn2; obtain ⟨⟨r0, r1, r2, r3⟩, ⟨g0, g1, g2, g3⟩⟩ := res4 I; obtain ⟨⟨u0, u1⟩, _⟩ := box2 I; have hlt := block_lt_of_cell r0; simp only at hlt; have hne := Nat.ne_of_lt hlt)
    | (go_at_call 25; refine (hcl _ (down2 I)).mono ?_; clear hcl; rintro rr w2 ⟨rfl, hN2⟩; have HL2 : Aside (Lies w2 p1 sl) := HL1.out.kept hN2; replace I := up2 I hN2; clear hN2; clear r0 r1 r2 r3 g0 g1 g2 g3 u0 u1 hlt hne; obtain ⟨⟨r0, r1, r2, r3⟩, ⟨g0, g1, g2, g3⟩⟩ := res4 I; obtain ⟨⟨u0, u1⟩, _⟩ := box2 I; have hlt := block_lt_of_cell r0; simp only at hlt; have hne := Nat.ne_of_lt hlt))
  obtain ⟨s0, s1, s2, s3⟩ := four_cells (.string ⟨#[]⟩) (.int .i64 0) (.string ⟨#[]⟩) (.bool false) r0 r1 r2 r3
  refine bodyPost_ret (v := .tuple #[.agg #[.string ⟨#[]⟩, .int .i64 0, .string ⟨#[]⟩, .bool false], .int .i64 0, .int .i64 7]) (by simp [results, Tryz.results10, go_sem, s0, s1, s2, s3]) rfl ?_
  exact ⟨rfl, store4 I _ _ _ _⟩
set_option maxHeartbeats 1000000 in
set_option maxRecDepth 100000 in
theorem rl_3 (a : Option Addr) (k c : Nat) (pl : Option Addr) (n cl : Nat) (q : ByteArray) (w : World) (sl : List Ent) (hsn : RSn w (.agg #[.slice a k c, .slice pl n cl]) 0 sl) (hcl : RCl w q true) (xp xt : ByteArray) (xk : Int) (xo : Bool) (hgt : RGt w q sl xp xk xt xo false) :
    Calls Tryz.prog 10 #[.agg #[.slice a k c, .slice pl n cl], .string q] w fun r w' => r = .returned (.tuple #[.agg #[.string ⟨#[]⟩, .int .i64 0, .string ⟨#[]⟩, .bool false], .int .i64 0, .int .i64 6]) ∧ Below w.heap.size w w' := by
  have I : Below (w.heap.size + 2) ((w.alloc (.cells #[.slice a k c, .slice pl n cl] 26)).alloc (.cells #[.string ⟨#[]⟩, .int .i64 0, .string ⟨#[]⟩, .bool false] 28)) ((w.alloc (.cells #[.slice a k c, .slice pl n cl] 26)).alloc (.cells #[.string ⟨#[]⟩, .int .i64 0, .string ⟨#[]⟩, .bool false] 28)) := Below.refl _ _
  go_enter Tryz.func10, Tryz.ntmps10
  go_wp2_with (first
    | (go_at_call 5; refine (hsn _ (down2 I)).mono ?_; clear hsn; rintro rr w1 ⟨p1, c1, rfl, hL1, hc1, hn1, hN1⟩; replace I := up2 I hN1; have HL1 : Aside (Lies w1 p1 sl) := hL1; clear hL1 hN1 hn1; obtain ⟨sn, hsn2⟩ : ∃ sn, sn = sl.length := ⟨_, rfl⟩; have HSN : Aside (sn = sl.length) := hsn2; rw [← hsn2] at hc1 ⊢; clear hsn2; obtain ⟨⟨r0, r1, r2, r3⟩, ⟨g0, g1, g2, g3⟩⟩ := res4 I; obtain ⟨⟨u0, u1⟩, _⟩ := box2 I; have hlt := block_lt_of_cell r0; simp only at hlt; have hne := Nat.ne_of_lt hlt)
    | (go_at_call 25; refine (hcl _ (down2 I)).mono ?_; clear hcl; rintro rr w2 ⟨rfl, hN2⟩; have HL2 : Aside (Lies w2 p1 sl) := HL1.out.kept hN2; replace I := up2 I hN2; clear hN2; clear r0 r1 r2 r3 g0 g1 g2 g3 u0 u1 hlt hne; obtain ⟨⟨r0, r1, r2, r3⟩, ⟨g0, g1, g2, g3⟩⟩ := res4 I; obtain ⟨⟨u0, u1⟩, _⟩ := box2 I; have hlt := block_lt_of_cell r0; simp only at hlt; have hne := Nat.ne_of_lt hlt)
    | (go_at_call 26; refine (hgt _ p1 c1 sn HSN.out (down2 I) HL2.out).mono ?_; clear hgt; rintro rr w3 ⟨rfl, hN3⟩; replace I := up2 I hN3; clear hN3; clear r0 r1 r2 r3 g0 g1 g2 g3 u0 u1 hlt hne; obtain ⟨⟨r0, r1, r2, r3⟩, ⟨g0, g1, g2, g3⟩⟩ := res4 I; obtain ⟨⟨u0, u1⟩, _⟩ := box2 I; have hlt := block_lt_of_cell r0; simp only at hlt; have hne := Nat.ne_of_lt hlt))
  obtain ⟨s0, s1, s2, s3⟩ := four_cells (.string ⟨#[]⟩) (.int .i64 0) (.string ⟨#[]⟩) (.bool false) r0 r1 r2 r3
  have t0 := Lib.cell?_alloc_some (.cells #[.string xp, .int .i64 xk, .string xt, .bool xo] 28) s0
  have t1 := Lib.cell?_alloc_some (.cells #[.string xp, .int .i64 xk, .string xt, .bool xo] 28) s1
  have t2 := Lib.cell?_alloc_some (.cells #[.string xp, .int .i64 xk, .string xt, .bool xo] 28) s2
  have t3 := Lib.cell?_alloc_some (.cells #[.string xp, .int .i64 xk, .string xt, .bool xo] 28) s3
  refine bodyPost_ret (v := .tuple #[.agg #[.string ⟨#[]⟩, .int .i64 0, .string ⟨#[]⟩, .bool false], .int .i64 0, .int .i64 6]) (by simp [results, Tryz.results10, go_sem, t0, t1, t2, t3]) rfl ?_
  have h := store4 I (.string ⟨#[]⟩) (.int .i64 0) (.string ⟨#[]⟩) (.bool false)
  exact ⟨rfl, h.alloc h.size _⟩
set_option maxHeartbeats 1000000 in
set_option maxRecDepth 100000 in
theorem rl_4 (a : Option Addr) (k c : Nat) (pl : Option Addr) (n cl : Nat) (q : ByteArray) (w : World) (sl : List Ent) (hsn : RSn w (.agg #[.slice a k c, .slice pl n cl]) 0 sl) (hcl : RCl w q true) (xp xt : ByteArray) (xk : Int) (xo : Bool) (hgt : RGt w q sl xp xk xt xo true) (all : List Lay) (N : Nat) (hN : N = all.length) (hN5 : N ≤ 80) (hal : RAl w (.agg #[.slice a k c, .slice pl n cl]) all N) (hge : ∀ x ∈ all, ∀ W, Below w.heap.size w W → ∃ z : Ent, Calls Tryz.prog 26 #[.slice x.ad x.es.length x.cap, .string q] W fun r w' => r = .returned (.tuple #[.agg #[.string z.path, .int .i64 z.kind, .string z.text, .bool z.opq], .bool (getL x.es q.data.toList).isSome]) ∧ Below W.heap.size W w') (hid : ¬ idxFrom q.data.toList 0 (all.map (·.es)) = -1) :
    Calls Tryz.prog 10 #[.agg #[.slice a k c, .slice pl n cl], .string q] w fun r w' => r = .returned (.tuple #[.agg #[.string xp, .int .i64 xk, .string xt, .bool xo], .int .i64 (idxFrom q.data.toList 0 (all.map (·.es))), .int .i64 0]) ∧ Below w.heap.size w w' := by
  have I : Below (w.heap.size + 2) ((w.alloc (.cells #[.slice a k c, .slice pl n cl] 26)).alloc (.cells #[.string ⟨#[]⟩, .int .i64 0, .string ⟨#[]⟩, .bool false] 28)) ((w.alloc (.cells #[.slice a k c, .slice pl n cl] 26)).alloc (.cells #[.string ⟨#[]⟩, .int .i64 0, .string ⟨#[]⟩, .bool false] 28)) := Below.refl _ _
  have HN : Aside (N = all.length) := hN
  have HGE : Aside (∀ x ∈ all, ∀ W, Below w.heap.size w W → ∃ z : Ent, Calls Tryz.prog 26 #[.slice x.ad x.es.length x.cap, .string q] W fun r w' => r = .returned (.tuple #[.agg #[.string z.path, .int .i64 z.kind, .string z.text, .bool z.opq], .bool (getL x.es q.data.toList).isSome]) ∧ Below W.heap.size W w') := hge
  obtain ⟨ix, hix⟩ : ∃ ix, ix = idxFrom q.data.toList 0 (all.map (·.es)) := ⟨_, rfl⟩
  have HIX : Aside (ix = idxFrom q.data.toList 0 (all.map (·.es)) ∧ ¬ ix = -1) := ⟨hix, by rw [hix]; exact hid⟩
  rw [← hix]
  clear hN hge hid hix
  go_enter Tryz.func10, Tryz.ntmps10
  go_wp2_with (first
    | (go_at_call 5; refine (hsn _ (down2 I)).mono ?_; clear hsn; rintro rr w1 ⟨p1, c1, rfl, hL1, hc1, hn1, hN1⟩; replace I := up2 I hN1; have HL1 : Aside (Lies w1 p1 sl) := hL1; clear hL1 hN1 hn1; obtain ⟨sn, hsn2⟩ : ∃ sn, sn = sl.length := ⟨_, rfl⟩; have HSN : Aside (sn = sl.length) := hsn2; rw [← hsn2] at hc1 ⊢; clear hsn2; obtain ⟨⟨r0, r1, r2, r3⟩, ⟨g0, g1, g2, g3⟩⟩ := res4 I; obtain ⟨⟨u0, u1⟩, _⟩ := box2 I; have hlt := block_lt_of_cell r0; simp only at hlt; have hne := Nat.ne_of_lt hlt)
    | (go_at_call 25; refine (hcl _ (down2 I)).mono ?_; clear hcl; rintro rr w2 ⟨rfl, hN2⟩; have HL2 : Aside (Lies w2 p1 sl) := HL1.out.kept hN2; replace I := up2 I hN2; clear hN2; clear r0 r1 r2 r3 g0 g1 g2 g3 u0 u1 hlt hne; obtain ⟨⟨r0, r1, r2, r3⟩, ⟨g0, g1, g2, g3⟩⟩ := res4 I; obtain ⟨⟨u0, u1⟩, _⟩ := box2 I; have hlt := block_lt_of_cell r0; simp only at hlt; have hne := Nat.ne_of_lt hlt)
    | (go_at_call 26; refine (hgt _ p1 c1 sn HSN.out (down2 I) HL2.out).mono ?_; clear hgt; rintro rr w3 ⟨rfl, hN3⟩; have HXB : Aside (Below (w3.heap.size + 1) (w3.alloc (.cells #[.string xp, .int .i64 xk, .string xt, .bool xo] 28)) (w3.alloc (.cells #[.string xp, .int .i64 xk, .string xt, .bool xo] 28))) := Below.refl _ _; replace I := up2 (up2 I hN3) ((Grown.refl w3).alloc (.cells #[.string xp, .int .i64 xk, .string xt, .bool xo] 28)).below; clear hN3; clear r0 r1 r2 r3 g0 g1 g2 g3 u0 u1 hlt hne; obtain ⟨⟨r0, r1, r2, r3⟩, ⟨g0, g1, g2, g3⟩⟩ := res4 I; obtain ⟨⟨u0, u1⟩, _⟩ := box2 I; have hlt := block_lt_of_cell r0; simp only at hlt; have hne := Nat.ne_of_lt hlt)
    | (go_at_call 20; refine (hal _ (down2 I)).mono ?_; clear hal; rintro rr w4 ⟨p4, c4, rfl, hL4, hN4⟩; have HL4 : Aside (LiesT w4 p4 all) := hL4; have HXB4 : Aside (Below (w3.heap.size + 1) (w3.alloc (.cells #[.string xp, .int .i64 xk, .string xt, .bool xo] 28)) w4) := up1 HXB.out hN4; have HI : Aside (Below (w.heap.size + 2) ((w.alloc (.cells #[.slice a k c, .slice pl n cl] 26)).alloc (.cells #[.string ⟨#[]⟩, .int .i64 0, .string ⟨#[]⟩, .bool false] 28)) w4) := up2 I hN4; clear hN4 hL4 I; clear r0 r1 r2 r3 g0 g1 g2 g3 u0 u1 hlt hne))
  obtain ⟨W4, rfl⟩ : ∃ W4, W4 = w4 := ⟨_, rfl⟩
  go_loopg [40] N (fun gg sl wr => ∃ j : Nat, j ≤ N ∧ N - j ≤ gg ∧ sl = .int .i64 j ∧ Aside (Below W4.heap.size W4 wr) ∧ Aside (idxFrom q.data.toList j ((all.map (·.es)).drop j) = ix))
  case atStart => exact ⟨0, Nat.zero_le _, by omega, rfl, Below.refl _ _, HIX.out.1.symm⟩
  case round =>
    obtain ⟨j, hj, hgg, rfl, BW, HE⟩ := hrel
    have I := up2 HI.out BW.out
    obtain ⟨⟨r0, r1, r2, r3⟩, ⟨g0, g1, g2, g3⟩⟩ := res4 I; obtain ⟨⟨u0, u1⟩, _⟩ := box2 I; have hlt := block_lt_of_cell r0; simp only at hlt; have hne := Nat.ne_of_lt hlt
    obtain ⟨⟨b0, b1, b2, b3⟩, _⟩ := new4 (Nat.lt_succ_self _) (up1 HXB4.out BW.out)
    have hbl := block_lt_of_cell b0
    simp only at hbl
    by_cases hlt3 : j < N
    · have hltz : (j : Int) < (N : Int) := by omega
      obtain ⟨x, hx⟩ : ∃ x, all[j]? = some x := ⟨_, List.getElem?_eq_getElem (by have := HN.out; omega)⟩
      obtain ⟨z, hg⟩ := HGE.out x (List.mem_of_getElem? hx) wr (down2 I)
      have HS : Aside (idxFrom q.data.toList j ((all.map (·.es)).drop j) = if (getL x.es q.data.toList).isSome then (j : Int) else idxFrom q.data.toList (j + 1) ((all.map (·.es)).drop (j + 1))) := idx_step (by rw [List.getElem?_map, hx]; rfl)
      rcases HL4.out with h0 | ⟨b, off, rfl, hb, hc⟩
      · rw [h0] at hx; simp at hx
      have c0 : wr.cell? ⟨b, off + j, none⟩ = some (.slice x.ad x.es.length x.cap) := (BW.out.cell (p := ⟨b, off + j, none⟩) hb).trans (hc j x hx)
      have hbw : b < wr.heap.size := Nat.lt_of_lt_of_le hb BW.out.size
      clear hc hx
      obtain ⟨zp, zk, zt, zo⟩ := z
      generalize x.es.length = xn at hg c0
      cases hs : (getL x.es q.data.toList).isSome with
      | true =>
        rw [hs] at hg
        have HJ : Aside ((j : Int) = ix) := by show _ = _; rw [← HE.out, HS.out, hs, if_pos rfl]
        clear hs
        go_wp2_with (go_at_call 26; refine hg.mono ?_; clear hg; rintro rr w6 ⟨rfl, hN6⟩; have HX6 := up1 (up1 HXB4.out BW.out) hN6; have I6 := up2 I hN6; clear r0 r1 r2 r3 g0 g1 g2 g3 u0 u1 hlt hne; clear I b0 b1 b2 b3 hbl; have I := I6; clear I6; obtain ⟨⟨r0, r1, r2, r3⟩, ⟨g0, g1, g2, g3⟩⟩ := res4 I; obtain ⟨⟨u0, u1⟩, _⟩ := box2 I; have hlt := block_lt_of_cell r0; simp only at hlt; have hne := Nat.ne_of_lt hlt; obtain ⟨⟨b0, b1, b2, b3⟩, _⟩ := new4 (Nat.lt_succ_self _) HX6; have hbl := block_lt_of_cell b0; simp only at hbl)
        obtain ⟨s0, s1, s2, s3⟩ := four_cells (.string xp) (.int .i64 xk) (.string xt) (.bool xo) r0 r1 r2 r3
        have t0 := Lib.cell?_alloc_some (.cells #[.string zp, .int .i64 zk, .string zt, .bool zo] 28) s0
        have t1 := Lib.cell?_alloc_some (.cells #[.string zp, .int .i64 zk, .string zt, .bool zo] 28) s1
        have t2 := Lib.cell?_alloc_some (.cells #[.string zp, .int .i64 zk, .string zt, .bool zo] 28) s2
        have t3 := Lib.cell?_alloc_some (.cells #[.string zp, .int .i64 zk, .string zt, .bool zo] 28) s3
        refine bodyPost_ret (v := .tuple #[.agg #[.string xp, .int .i64 xk, .string xt, .bool xo], .int .i64 (j : Int), .int .i64 0]) (by simp [results, Tryz.results10, go_sem, t0, t1, t2, t3]) rfl ?_
        have h := store4 I (.string xp) (.int .i64 xk) (.string xt) (.bool xo)
        exact ⟨by rw [HJ.out], h.alloc h.size _⟩
      | false =>
        rw [hs] at hg
        have HE2 : Aside (idxFrom q.data.toList (j + 1) ((all.map (·.es)).drop (j + 1)) = ix) := by show _ = _; rw [← HE.out, HS.out, hs]; rfl
        clear hs
        go_wp2_with (go_at_call 26; refine hg.mono ?_; clear hg; rintro rr w6 ⟨rfl, hN6⟩; have HB6 : Aside (Below W4.heap.size W4 (w6.alloc (.cells #[.string zp, .int .i64 zk, .string zt, .bool zo] 28))) := Below.onto (Below.onto BW.out hN6) ((Grown.refl w6).alloc _).below; clear hN6)
        go_roundg (N - (j + 1))
        case measure => omega
        case rel => exact ⟨j + 1, by omega, by omega, by go_num, HB6.out, HE2.out⟩
    · exact absurd (HE.out.symm.trans (by rw [List.drop_of_length_le (by rw [List.length_map]; have := HN.out; omega)]; rfl)) HIX.out.2
/-- What the document's own Look answers. -/
theorem refLook_any (y : Lay) (ls : List Lay) (pl : Option Addr) (cl : Nat) (q : ByteArray) (w : World) (hT : LiesT w pl ls) (hnil : pl = none → cl = 0) (hOK : ∀ x ∈ y :: ls, LayOK w x) (hsn : RSn w (.agg #[.slice y.ad y.es.length y.cap, .slice pl ls.length cl]) (wrongU (y.es :: ls.map (·.es))).1 (seenU (y.es :: ls.map (·.es)))) (hq : q.size ≤ 1048576) (x : Ent) (ix er : Int)
    (her : er = lookErr (y.es :: ls.map (·.es)) q.data.toList) (hx : x = if er = 0 then (getL (seenU (y.es :: ls.map (·.es))) q.data.toList).getD zeroE else zeroE) (hix : ix = if er = 0 then idxFrom q.data.toList 0 (y.es :: ls.map (·.es)) else 0) :
    Calls Tryz.prog 10 #[.agg #[.slice y.ad y.es.length y.cap, .slice pl ls.length cl], .string q] w fun r w' => r = .returned (.tuple #[.agg #[.string x.path, .int .i64 x.kind, .string x.text, .bool x.opq], .int .i64 ix, .int .i64 er]) ∧ Below w.heap.size w w' := by
  have hsr := seenU_right (y.es :: ls.map (·.es))
  by_cases h1 : (wrongU (y.es :: ls.map (·.es))).1 = 0
  · obtain ⟨hl5, hz, hr⟩ := wrongU_zero.1 h1
    rw [List.length_cons, List.length_map] at hl5
    rw [h1] at hsn
    have hcl : ∀ b, clean q.data.toList = b → RCl w q b := fun b hb W hB => by rw [← hb]; exact refClean_any q W (by omega)
    have hgt : ∀ (x : Ent) (bb : Bool), (getL (seenU (y.es :: ls.map (·.es))) q.data.toList).getD zeroE = x → (getL (seenU (y.es :: ls.map (·.es))) q.data.toList).isSome = bb → RGt w q (seenU (y.es :: ls.map (·.es))) x.path x.kind x.text x.opq bb := fun x bb hxx hbb W p c n hn hW hLs => by
      subst hn
      exact refGet_any _ q p c W hLs (by have := hsr.len; omega) x bb hxx hbb
    cases hc : clean q.data.toList with
    | false =>
      have e : er = 7 := by rw [her, lookErr, if_pos h1, hc]; rfl
      rw [hx, hix, e, if_neg (by decide), if_neg (by decide)]
      exact rl_2 _ _ _ _ _ _ q w _ hsn (hcl _ hc)
    | true =>
      cases hs : (getL (seenU (y.es :: ls.map (·.es))) q.data.toList).isSome with
      | false =>
        have e : er = 6 := by rw [her, lookErr, if_pos h1, hc, if_pos rfl, hs]; rfl
        rw [hx, hix, e, if_neg (by decide), if_neg (by decide)]
        exact rl_3 _ _ _ _ _ _ q w _ hsn (hcl _ hc) _ _ _ _ (hgt _ false rfl hs)
      | true =>
        have e : er = 0 := by rw [her, lookErr, if_pos h1, hc, if_pos rfl, hs]; rfl
        rw [hx, hix, e, if_pos rfl, if_pos rfl]
        have hal : RAl w (.agg #[.slice y.ad y.es.length y.cap, .slice pl ls.length cl]) (y :: ls) (ls.length + 1) := fun W hB => by
          refine (refAll_any y ls pl cl W (hT.kept hB) (by omega) hnil).mono ?_
          rintro r w' ⟨⟨v, rfl, hR⟩, hB'⟩
          obtain ⟨p, c, rfl, hL⟩ := hR.form
          exact ⟨p, c, by rw [List.length_cons], hL, hB'⟩
        have hid : ¬ idxFrom q.data.toList 0 ((y :: ls).map (·.es)) = -1 := by
          rw [List.map_cons]
          cases hg : getL (seenU (y.es :: ls.map (·.es))) q.data.toList with
          | none => rw [hg] at hs; cases hs
          | some z =>
            rw [seenU, if_pos h1] at hg
            obtain ⟨k, l, z', h2, _⟩ := look_math _ 0 hz (clean_ne hc) hg
            rw [h2]; omega
        have := rl_4 _ _ _ _ _ _ q w _ hsn (hcl _ hc) _ _ _ _ (hgt _ true rfl hs) (y :: ls) (ls.length + 1) (by rw [List.length_cons]) (by omega) hal (fun x hx W hB => ⟨_, refGet_any x.es q x.ad x.cap W ((hOK x hx).lies.kept hB) (hOK x hx).small _ _ rfl rfl⟩) hid
        rw [List.map_cons] at this
        exact this
  · have e : er = (wrongU (y.es :: ls.map (·.es))).1 := by rw [her, lookErr, if_neg h1]
    rw [hx, hix, e, if_neg h1, if_neg h1]
    exact rl_1 _ _ _ _ _ _ q w _ _ h1 hsn
end Go.Proofs.YtampldoimpfjgaaGreatDoor
namespace Go.Proofs.YtampldoimpfjgaaGreatDoor
open Go.RowKit PM Go.Sort
set_option linter.unusedVariables false

theorem neqF (a b : Int) (w : World) : Sem.run Tryz.prog (binOp .neq 33 (.agg #[.int .i64 a, .int .i64 b]) (.agg #[.int .i64 a, .int .i64 b])) w = .ok (.bool false) w := by
  have u3 := Tryz.underlying3
  have a3 := Tryz.isAgg3
  have z3 := Tryz.sizeOf3
  have u5 := Tryz.underlying29
  have a5 := Tryz.isAgg29
  have z5 := Tryz.sizeOf29
  have hS : Tryz.prog.underlying 33 = some (.struct (Tryz.prog.fieldsOf 33)) := by kernel_rfl
  have hp : Tryz.prog.stoodInHeld 33 = false := by kernel_rfl
  rw [run_neq_struct, show (10000 : Nat) = 9999 + 1 from rfl, run_equalIn_agg w 9999 33 _ _ hS hp]
  simp only [Program.fieldsOf, Tryz.underlying33]
  go_simp
theorem guardF (op : BinOp) (a b : Operand) (x y : Int × Int) (w : World) : (eqGuard op 33 a b (.agg #[.int .i64 x.1, .int .i64 x.2]) (.agg #[.int .i64 y.1, .int .i64 y.2])).run Tryz.prog w = .ok () w :=
  GuardAt.agg (P := Tryz.prog) (T := 33) (fun e : Int × Int => #[.int .i64 e.1, .int .i64 e.2]) (by kernel_rfl) op a b x y w
theorem guardF' (op : BinOp) (a b : Operand) (x1 x2 y1 y2 : Int) (w : World) : (eqGuard op 33 a b (.agg #[.int .i64 x1, .int .i64 x2]) (.agg #[.int .i64 y1, .int .i64 y2])).run Tryz.prog w = .ok () w := guardF op a b (x1, x2) (y1, y2) w
theorem guardE' (op : BinOp) (a b : Operand) (p t p' t' : ByteArray) (k k' : Int) (o o' : Bool) (w : World) : (eqGuard op 28 a b (.agg #[.string p, .int .i64 k, .string t, .bool o]) (.agg #[.string p', .int .i64 k', .string t', .bool o'])).run Tryz.prog w = .ok () w := guardE op a b ⟨p, k, t, o⟩ ⟨p', k', t', o'⟩ w
theorem neqE' (p t : ByteArray) (k : Int) (o : Bool) (w : World) : Sem.run Tryz.prog (binOp .neq 28 (.agg #[.string p, .int .i64 k, .string t, .bool o]) (.agg #[.string p, .int .i64 k, .string t, .bool o])) w = .ok (.bool false) w := neqE ⟨p, k, t, o⟩ w

/-- Where a list may lie: in what was there, or in what came since. -/
def Fr {α : Type} (h0 h1 : Nat) (p : Option Addr) (l : List α) : Prop := l = [] ∨ ∀ b off s, p = some ⟨b, off, s⟩ → b < h0 ∨ h1 ≤ b
/-- A union, somewhere. -/
structure Fz (h0 h1 : Nat) (a q : Option Addr) (up : List Ent) (lows : List (List Ent)) (W : World) : Prop where
  lies : Lies W a up
  far : Fr h0 h1 a up
  rest : ∃ lo : List Lay, LiesT W q lo ∧ Fr h0 h1 q lo ∧ (∀ x ∈ lo, LayOK W x ∧ Fr h0 h1 x.ad x.es) ∧ lo.map (·.es) = lows
theorem Fz.kept {h0 h1 : Nat} {a q : Option Addr} {up : List Ent} {lows : List (List Ent)} {W W' : World} (h : Fz h0 h1 a q up lows W) (hB : Below W.heap.size W W') : Fz h0 h1 a q up lows W' := by
  obtain ⟨g1, g2, lo, g3, g4, g5, g6⟩ := h
  exact ⟨g1.kept hB, g2, lo, g3.kept hB, g4, fun x hx => ⟨(g5 x hx).1.kept hB, (g5 x hx).2⟩, g6⟩
theorem lies_setF {h0 h1 : Nat} {W : World} {p : Option Addr} {l : List Ent} (h : Lies W p l) (hf : Fr h0 h1 p l) {P : Nat} (i : Nat) (v : Value) (hP : h0 ≤ P) (hP1 : P < h1) : Lies (W.setCell ⟨P, i, none⟩ v) p l := by
  rcases hf with hf | hf
  · exact .inl hf
  · exact lies_far h _ _ (fun b off s e => by have := hf b off s e; simp only; omega)
theorem Fz.set {h0 h1 : Nat} {a q : Option Addr} {up : List Ent} {lows : List (List Ent)} {W : World} (h : Fz h0 h1 a q up lows W) {P : Nat} (i : Nat) (v : Value) (hP : h0 ≤ P) (hP1 : P < h1) : Fz h0 h1 a q up lows (W.setCell ⟨P, i, none⟩ v) := by
  obtain ⟨g1, g2, lo, g3, g4, g5, g6⟩ := h
  refine ⟨lies_setF g1 g2 i v hP hP1, g2, lo, ?_, g4, fun x hx => ⟨⟨lies_setF (g5 x hx).1.lies (g5 x hx).2 i v hP hP1, (g5 x hx).1.fits, (g5 x hx).1.cap, (g5 x hx).1.small⟩, (g5 x hx).2⟩, g6⟩
  rcases g4 with g4 | g4
  · exact .inl g4
  · exact g3.setFar _ _ (fun b off s e => by have := g4 b off s e; simp only; omega)
theorem fr_lies {h0 h1 : Nat} {w : World} {p : Option Addr} {l : List Ent} (h : Lies w p l) (hw : w.heap.size ≤ h0) : Fr h0 h1 p l := by
  rcases h with h | ⟨b, off, rfl, hb, _⟩
  · exact .inl h
  · exact .inr (fun b' off' s e => by cases e; exact .inl (by omega))
/-- A union that is answered, and an error: what both sides answer. -/
def SUPost (h0 : Nat) (er : Int) (up : List Ent) (lows : List (List Ent)) (m n' : Nat) (w : World) (r : Ending) (w' : World) : Prop :=
  ∃ a c q k, r = .returned (.tuple #[.agg #[.slice a m c, .slice q n' k], .int .i64 er]) ∧ Aside (Fz h0 w.heap.size a q up lows w') ∧ Aside (Below w.heap.size w w')
theorem su_prog {h0 : Nat} {er : Int} {up : List Ent} {lows : List (List Ent)} {m n' : Nat} (hm : m = up.length) (hn : n' = lows.length) {w w' : World} {r : Ending} (h : UnPost er up lows w r w') : SUPost h0 er up lows m n' w r w' := by
  obtain ⟨y, lo, pl, cl, rfl, h1, h2, hU, hB, hN1, hN2, hN3⟩ := h
  subst h1 h2
  rw [List.length_map] at hn
  subst hm hn
  exact ⟨y.ad, y.cap, pl, cl, rfl, ⟨hU.up.lies, .inr fun b off s e => .inr (hN1 b off s e), lo, hU.lies, .inr fun b off s e => .inr (hN2 b off s e), fun x hx => ⟨(hU.each x hx).1, .inr fun b off s e => .inr (hN3 x hx b off s e)⟩, rfl⟩, hB⟩
theorem su_ref {w0 : World} {er : Int} {own : List Ent} {lows : List (List Ent)} {ls : List Lay} {pl : Option Addr} {cl m n' : Nat} {w w' : World} {r : Ending} (hT : LiesT w0 pl ls) (hOK : ∀ x ∈ ls, LayOK w0 x) (hB0 : Below w0.heap.size w0 w) (hlo : ls.map (·.es) = lows)
    (hm : m = (if er = 0 then own else []).length) (hn : n' = (if er = 0 then lows else []).length) (h : RUPost w0.heap.size er own pl ls.length cl w r w') : SUPost w0.heap.size er (if er = 0 then own else []) (if er = 0 then lows else []) m n' w r w' := by
  subst hlo
  rcases h with ⟨he, rfl, hB⟩ | ⟨rfl, p, c, rfl, hL, hf, hB⟩
  · rw [if_neg he] at hm ⊢
    rw [if_neg he] at hn ⊢
    subst hm hn
    exact ⟨none, 0, none, 0, rfl, ⟨Lies.nil _ _, .inl rfl, [], .inl rfl, .inl rfl, fun x hx => by simp at hx, rfl⟩, hB⟩
  · rw [if_pos rfl] at hm ⊢
    rw [if_pos rfl] at hn ⊢
    rw [List.length_map] at hn
    subst hm hn
    refine ⟨p, c, pl, cl, rfl, ⟨hL, hf, ls, (hT.kept hB0).kept hB, ?_, fun x hx => ⟨((hOK x hx).kept hB0).kept hB, fr_lies (hOK x hx).lies (Nat.le_refl _)⟩, rfl⟩, hB⟩
    rcases hT with h | ⟨b, off, rfl, hb, _⟩
    · exact .inl h
    · exact .inr (fun b' off' s e => by cases e; exact .inl hb)
theorem su_same {h0 h1 h1' : Nat} {up : List Ent} {lows : List (List Ent)} {m n' : Nat} (hm : m = up.length) (hn : n' = lows.length) (hup : m < 4611686018427387904) (hlo : n' ≤ 80) {a a' : Option Addr} {c c' : Nat} {q q' : Option Addr} {k k' : Nat} {W : World} (h : Fz h0 h1 a q up lows W) (h' : Fz h0 h1' a' q' up lows W) :
    TrueC 13 #[.agg #[.slice a m c, .slice q n' k], .agg #[.slice a' m c', .slice q' n' k']] W := by
  obtain ⟨g1, _, lo, g2, _, g3, g4⟩ := h
  obtain ⟨k1, _, lo', k2, _, k3, k4⟩ := h'
  have e1 : lo.length = n' := by rw [hn, ← g4, List.length_map]
  have e2 : lo'.length = n' := by rw [hn, ← k4, List.length_map]
  have := sameUnion_any up lows a a' c c' lo lo' q q' k k' W g1 k1 (by omega) g2 k2 (fun x hx => (g3 x hx).1) (fun x hx => (k3 x hx).1) g4 k4 (by omega)
  rw [e1, e2, ← hm] at this
  exact this
/-- A box of two cells. -/
structure BX (W : World) (P : Nat) (x y : Value) : Prop where
  c0 : W.cell? ⟨P, 0, none⟩ = some x
  c1 : W.cell? ⟨P, 1, none⟩ = some y
  f0 : W.frozen? ⟨P, 0, none⟩ = false
  f1 : W.frozen? ⟨P, 1, none⟩ = false
theorem BX.lt {W : World} {P : Nat} {x y : Value} (h : BX W P x y) : P < W.heap.size := block_lt_of_cell h.c0
theorem BX.kept {W W' : World} {P : Nat} {x y : Value} (h : BX W P x y) (hB : Below W.heap.size W W') : BX W' P x y :=
  ⟨(hB.cell (p := ⟨P, 0, none⟩) h.lt).trans h.c0, (hB.cell (p := ⟨P, 1, none⟩) h.lt).trans h.c1, (hB.frozen (p := ⟨P, 0, none⟩) h.lt).trans h.f0, (hB.frozen (p := ⟨P, 1, none⟩) h.lt).trans h.f1⟩
theorem BX.new (W : World) (x y : Value) (t : TypeId) : BX (W.alloc (.cells #[x, y] t)) W.heap.size x y := by
  have := new2 (w := W) (B := W.heap.size + 1) (a := x) (b := y) (t := t) (Nat.lt_succ_self _) (Below.refl _ _)
  exact ⟨this.1.1, this.1.2, this.2.1, this.2.2⟩
theorem frozen_set {W : World} {a p : Addr} {v : Value} : (W.setCell a v).frozen? p = W.frozen? p := by
  first | exact World.frozen?_setCell .. | simp
theorem BX.set {W : World} {P : Nat} {x y : Value} (h : BX W P x y) (x' y' : Value) : BX ((W.setCell ⟨P, 0, none⟩ x').setCell ⟨P, 1, none⟩ y') P x' y' := by
  obtain ⟨r0, r1⟩ := res_set x' y' h.c0 h.c1
  exact ⟨r0, r1, by rw [frozen_set, frozen_set]; exact h.f0, by rw [frozen_set, frozen_set]; exact h.f1⟩
theorem BX.other {W : World} {P Q : Nat} {x y : Value} (h : BX W P x y) (hne : Q ≠ P) (x' y' : Value) : BX ((W.setCell ⟨Q, 0, none⟩ x').setCell ⟨Q, 1, none⟩ y') P x y := by
  have ne : ∀ i j : Nat, (⟨Q, i, none⟩ : Addr) ≠ ⟨P, j, none⟩ := fun i j e => hne (congrArg Addr.block e)
  exact ⟨by rw [World.cell?_setCell_other (h := ne 1 0), World.cell?_setCell_other (h := ne 0 0)]; exact h.c0, by rw [World.cell?_setCell_other (h := ne 1 1), World.cell?_setCell_other (h := ne 0 1)]; exact h.c1, by rw [frozen_set, frozen_set]; exact h.f0, by rw [frozen_set, frozen_set]; exact h.f1⟩
abbrev SuC (w : World) (f : Nat) (args : Array Value) (er : Int) (up : List Ent) (lows : List (List Ent)) (m n' : Nat) : Prop := ∀ W, Below w.heap.size w W → Calls Tryz.prog f args W (SUPost w.heap.size er up lows m n' W)
abbrev WuC (w : World) (f : Nat) (u : Value) (er ea : Int) : Prop := ∀ W, Below w.heap.size w W → Calls Tryz.prog f #[u] W fun r w' => r = .returned (.agg #[.int .i64 er, .int .i64 ea]) ∧ Below W.heap.size W w'
abbrev LoC (w : World) (f : Nat) (u : Value) (q : ByteArray) (xp : ByteArray) (xk : Int) (xt : ByteArray) (xo : Bool) (ix er : Int) : Prop := ∀ W, Below w.heap.size w W → Calls Tryz.prog f #[u, .string q] W fun r w' => r = .returned (.tuple #[.agg #[.string xp, .int .i64 xk, .string xt, .bool xo], .int .i64 ix, .int .i64 er]) ∧ Below W.heap.size W w'
set_option maxHeartbeats 4000000 in
set_option maxRecDepth 100000 in
theorem utells_1 (a : Option Addr) (k c : Nat) (pl : Option Addr) (n cl : Nat) (e : Ent) (frm to : ByteArray) (w : World) (we wa : Int) (sl : List Ent) (hsl : sl.length < 4611686018427387904)
    (hs1 : ∀ W, Below w.heap.size w W → Calls Tryz.prog 4 #[.agg #[.slice a k c, .slice pl n cl]] W (TreePost we sl W)) (hs2 : RSn w (.agg #[.slice a k c, .slice pl n cl]) we sl) (hw1 : WuC w 6 (.agg #[.slice a k c, .slice pl n cl]) we wa) (hw2 : WuC w 7 (.agg #[.slice a k c, .slice pl n cl]) we wa)
    (xp xt : ByteArray) (xk : Int) (xo : Bool) (ix er : Int) (hl1 : LoC w 9 (.agg #[.slice a k c, .slice pl n cl]) frm xp xk xt xo ix er) (hl2 : LoC w 10 (.agg #[.slice a k c, .slice pl n cl]) frm xp xk xt xo ix er)
    (x1 x2 x3 : Int) (ua ub uc : List Ent) (lo1 lo2 lo3 : List (List Ent)) (m1 m2 m3 n1 n2 n3 : Nat) (hm1 : m1 = ua.length) (hm2 : m2 = ub.length) (hm3 : m3 = uc.length) (hn1 : n1 = lo1.length) (hn2 : n2 = lo2.length) (hn3 : n3 = lo3.length)
    (hb1 : m1 < 4611686018427387904) (hb2 : m2 < 4611686018427387904) (hb3 : m3 < 4611686018427387904) (hc1 : n1 ≤ 80) (hc2 : n2 ≤ 80) (hc3 : n3 ≤ 80)
    (hp1 : SuC w 11 #[.agg #[.slice a k c, .slice pl n cl], .agg #[.string e.path, .int .i64 e.kind, .string e.text, .bool e.opq]] x1 ua lo1 m1 n1) (hp2 : SuC w 12 #[.agg #[.slice a k c, .slice pl n cl], .agg #[.string e.path, .int .i64 e.kind, .string e.text, .bool e.opq]] x1 ua lo1 m1 n1)
    (hr1 : SuC w 14 #[.agg #[.slice a k c, .slice pl n cl], .string frm] x2 ub lo2 m2 n2) (hr2 : SuC w 15 #[.agg #[.slice a k c, .slice pl n cl], .string frm] x2 ub lo2 m2 n2)
    (hv1 : SuC w 16 #[.agg #[.slice a k c, .slice pl n cl], .string frm, .string to] x3 uc lo3 m3 n3) (hv2 : SuC w 17 #[.agg #[.slice a k c, .slice pl n cl], .string frm, .string to] x3 uc lo3 m3 n3) :
    TrueC 3 #[.agg #[.slice a k c, .slice pl n cl], .agg #[.string e.path, .int .i64 e.kind, .string e.text, .bool e.opq], .string frm, .string to] w := by
  have HM : Aside ((m1 = ua.length ∧ m2 = ub.length ∧ m3 = uc.length) ∧ (n1 = lo1.length ∧ n2 = lo2.length ∧ n3 = lo3.length)) := ⟨⟨hm1, hm2, hm3⟩, hn1, hn2, hn3⟩
  clear hm1 hm2 hm3 hn1 hn2 hn3
  obtain ⟨sn, hsn⟩ : ∃ sn, sn = sl.length := ⟨_, rfl⟩
  have HSN : Aside (sn = sl.length) := hsn
  have hsm : ∀ W p c p' c', Lies W p sl → Lies W p' sl → TrueC 8 #[.slice p sn c, .slice p' sn c'] W := fun W p c p' c' h h' => by rw [hsn]; exact same_any sl p p' c c' W h h' hsl
  clear hsn
  have hgf := guardF'
  have hge := guardE'
  have hnf := neqF
  have hne := neqE'
  have I : Below (w.heap.size + 2) ((w.alloc (.cells #[.slice a k c, .slice pl n cl] 26)).alloc (.cells #[.string e.path, .int .i64 e.kind, .string e.text, .bool e.opq] 28)) ((w.alloc (.cells #[.slice a k c, .slice pl n cl] 26)).alloc (.cells #[.string e.path, .int .i64 e.kind, .string e.text, .bool e.opq] 28)) := Below.refl _ _
  go_enter Tryz.func3, Tryz.ntmps3
  go_wp2_with (first
    | (go_at_call 4; refine (hs1 _ (down2 I)).mono ?_; clear hs1; rintro rr w1 ⟨p1, c1, rfl, hL1, _, _, hN1⟩; replace I := up2 I hN1; have HL1 : Aside (Lies w1 p1 sl) := hL1; clear hL1 hN1; rw [← HSN.out]; obtain ⟨⟨u0, u1⟩, _⟩ := box2 I; obtain ⟨⟨e0, e1, e2, e3⟩, _⟩ := res4 I; have hlt := block_lt_of_cell e0; simp only at hlt)
    | (go_at_call 5; refine (hs2 _ (down2 I)).mono ?_; clear hs2; rintro rr w2 ⟨p2, c2, rfl, hL2, _, _, hN2⟩; replace I := up2 I hN2; have HL2 : Aside (Lies w2 p1 sl ∧ Lies w2 p2 sl) := ⟨HL1.out.kept hN2, hL2⟩; clear hL2 hN2; rw [← HSN.out]; clear u0 u1 e0 e1 e2 e3 hlt; obtain ⟨⟨u0, u1⟩, _⟩ := box2 I; obtain ⟨⟨e0, e1, e2, e3⟩, _⟩ := res4 I; have hlt := block_lt_of_cell e0; simp only at hlt))
  go_region_held3 (fun w' => w'.cell? ⟨w.heap.size, 0, none⟩ = some (.slice a k c) ∧ w'.cell? ⟨w.heap.size, 1, none⟩ = some (.slice pl n cl)) (go_keep) (first
    | (go_at_call 6; refine (hw1 _ (down2 (up2 I (Below.refl _ _).drew))).mono ?_; clear hw1; rintro rr w3 ⟨rfl, hN3⟩; have hA3 : Below w2.heap.size w2 w3 := (Below.refl _ _).drew.trans hN3; have HL3 : Aside (Lies w3 p1 sl ∧ Lies w3 p2 sl) := ⟨HL2.out.1.kept hA3, HL2.out.2.kept hA3⟩; have I3 := up2 I hA3; clear hN3 hA3 I; clear u0 u1 e0 e1 e2 e3 hlt; have I := I3; clear I3; obtain ⟨⟨u0, u1⟩, _⟩ := box2 I; obtain ⟨⟨e0, e1, e2, e3⟩, _⟩ := res4 I; have hlt := block_lt_of_cell e0; simp only at hlt)
    | (go_at_call 7; refine (hw2 _ (down2 I)).mono ?_; clear hw2; rintro rr w4 ⟨rfl, hN4⟩; have HL4 : Aside (Lies w4 p1 sl ∧ Lies w4 p2 sl) := ⟨HL3.out.1.kept hN4, HL3.out.2.kept hN4⟩; have I3 := up2 I hN4; clear hN4 I; clear u0 u1 e0 e1 e2 e3 hlt; have I := I3; clear I3; obtain ⟨⟨u0, u1⟩, _⟩ := box2 I; obtain ⟨⟨e0, e1, e2, e3⟩, _⟩ := res4 I; have hlt := block_lt_of_cell e0; simp only at hlt)
    | (go_at_call 8; refine (hsm _ p1 c1 p2 c2 HL4.out.1 HL4.out.2).mono ?_; clear hsm; rintro rr w5 ⟨rfl, hN5⟩; have I3 := up2 I hN5; clear hN5 I; clear u0 u1 e0 e1 e2 e3 hlt; have I := I3; clear I3; obtain ⟨⟨u0, u1⟩, _⟩ := box2 I; obtain ⟨⟨e0, e1, e2, e3⟩, _⟩ := res4 I; have hlt := block_lt_of_cell e0; simp only at hlt))
  have HI : Aside (Below (w.heap.size + 2) ((w.alloc (.cells #[.slice a k c, .slice pl n cl] 26)).alloc (.cells #[.string e.path, .int .i64 e.kind, .string e.text, .bool e.opq] 28)) w5) := I
  clear I
  go_wp2_with (first
    | (go_at_call 9; refine (hl1 _ (down2 HI.out)).mono ?_; clear hl1; rintro rr w6 ⟨rfl, hN6⟩; have HA : Aside (Below (w6.heap.size + 1) (w6.alloc (.cells #[.string xp, .int .i64 xk, .string xt, .bool xo] 28)) (w6.alloc (.cells #[.string xp, .int .i64 xk, .string xt, .bool xo] 28))) := Below.refl _ _; have I := up2 (up2 HI.out hN6) ((Grown.refl w6).alloc (.cells #[.string xp, .int .i64 xk, .string xt, .bool xo] 28)).below; clear hN6; clear u0 u1 e0 e1 e2 e3 hlt; obtain ⟨⟨u0, u1⟩, _⟩ := box2 I; obtain ⟨⟨e0, e1, e2, e3⟩, _⟩ := res4 I; have hlt := block_lt_of_cell e0; simp only at hlt)
    | (go_at_call 10; refine (hl2 _ (down2 I)).mono ?_; clear hl2; rintro rr w7 ⟨rfl, hN7⟩; have HA7 := up1 HA.out (Below.onto hN7 ((Grown.refl w7).alloc (.cells #[.string xp, .int .i64 xk, .string xt, .bool xo] 28)).below); obtain ⟨⟨q0, q1, q2, q3⟩, _⟩ := new4 (Nat.lt_succ_self _) HA7; have I7 := up2 (up2 I hN7) ((Grown.refl w7).alloc (.cells #[.string xp, .int .i64 xk, .string xt, .bool xo] 28)).below; clear hN7 I; clear u0 u1 e0 e1 e2 e3 hlt; have I := I7; clear I7; obtain ⟨⟨u0, u1⟩, _⟩ := box2 I; obtain ⟨⟨e0, e1, e2, e3⟩, _⟩ := res4 I; have hlt := block_lt_of_cell e0; simp only at hlt)
    | (go_at_call 11; refine (hp1 _ (down2 I)).mono ?_; clear hp1; rintro rr w8 ⟨pa, pc, pq, pk, rfl, HP1, HB1⟩; have I8 := up2 (up2 I HB1.out) ((Grown.refl w8).alloc (.cells #[.slice pa m1 pc, .slice pq n1 pk] 26)).below; have HPX : Aside (BX (w8.alloc (.cells #[.slice pa m1 pc, .slice pq n1 pk] 26)) w8.heap.size (.slice pa m1 pc) (.slice pq n1 pk)) := BX.new _ _ _ _; have hP2 : w.heap.size + 2 ≤ w8.heap.size := (by have := (up2 I HB1.out).size; simp at this; omega); clear I; clear u0 u1 e0 e1 e2 e3 hlt; clear q0 q1 q2 q3 HA7; have I := I8; clear I8; obtain ⟨⟨u0, u1⟩, _⟩ := box2 I; obtain ⟨⟨e0, e1, e2, e3⟩, _⟩ := res4 I; have hlt := block_lt_of_cell e0; simp only at hlt)
    | (go_at_call 12; refine (hp2 _ (down2 I)).mono ?_; clear hp2; rintro rr w9 ⟨qa, qc, qq, qk, rfl, HQ1, HB2⟩; have hA9 := Below.onto HB2.out ((Grown.refl w9).alloc (.cells #[.slice qa m1 qc, .slice qq n1 qk] 26)).below; have I9 := up2 I hA9; have HPX9 : Aside (BX (w9.alloc (.cells #[.slice qa m1 qc, .slice qq n1 qk] 26)) w8.heap.size (.slice pa m1 pc) (.slice pq n1 pk)) := HPX.out.kept hA9; have HQX9 : Aside (BX (w9.alloc (.cells #[.slice qa m1 qc, .slice qq n1 qk] 26)) w9.heap.size (.slice qa m1 qc) (.slice qq n1 qk)) := BX.new _ _ _ _; have HZ : Aside (Fz w.heap.size _ pa pq ua lo1 (w9.alloc (.cells #[.slice qa m1 qc, .slice qq n1 qk] 26)) ∧ Fz w.heap.size _ qa qq ua lo1 (w9.alloc (.cells #[.slice qa m1 qc, .slice qq n1 qk] 26))) := ⟨(HP1.out.kept ((Grown.refl w8).alloc _).below).kept hA9, HQ1.out.kept ((Grown.refl w9).alloc _).below⟩; have hPQ : w8.heap.size < w9.heap.size := (by have := HB2.out.size; simp at this; omega); clear I hA9 HPX; clear u0 u1 e0 e1 e2 e3 hlt; have I := I9; clear I9; obtain ⟨⟨u0, u1⟩, _⟩ := box2 I; obtain ⟨⟨e0, e1, e2, e3⟩, _⟩ := res4 I; have hlt := block_lt_of_cell e0; simp only at hlt; obtain ⟨a0, a1, af0, af1⟩ := HPX9.out)
    | (go_at_call 13; refine (su_same HM.out.1.1 HM.out.2.1 hb1 hc1 HZ.out.1 HZ.out.2).mono ?_; rintro rr w10 ⟨rfl, hN10⟩; have HPXa : Aside (BX w10 w8.heap.size (.slice pa m1 pc) (.slice pq n1 pk)) := HPX9.out.kept hN10; have HQXa : Aside (BX w10 w9.heap.size (.slice qa m1 qc) (.slice qq n1 qk)) := HQX9.out.kept hN10; have I10 := up2 I hN10; clear hN10 I HZ HPX9 HQX9 a0 a1 af0 af1; clear u0 u1 e0 e1 e2 e3 hlt; have I := I10; clear I10; obtain ⟨⟨u0, u1⟩, _⟩ := box2 I; obtain ⟨⟨e0, e1, e2, e3⟩, _⟩ := res4 I; have hlt := block_lt_of_cell e0; simp only at hlt)
    | (go_at_call 14; refine (hr1 _ (down2 I)).mono ?_; clear hr1; rintro rr w11 ⟨pa2, pc2, pq2, pk2, rfl, HP2, HB2a⟩; obtain ⟨a0, a1, af0, af1⟩ := HPXa.out.kept HB2a.out; have hl8 := HPXa.out.lt; have hl9 := HQXa.out.lt; have HPX2 : Aside (BX ((w11.setCell ⟨w8.heap.size, 0, none⟩ (.slice pa2 m2 pc2)).setCell ⟨w8.heap.size, 1, none⟩ (.slice pq2 n2 pk2)) w8.heap.size (.slice pa2 m2 pc2) (.slice pq2 n2 pk2)) := BX.set (HPXa.out.kept HB2a.out) _ _; have HQX2 : Aside (BX ((w11.setCell ⟨w8.heap.size, 0, none⟩ (.slice pa2 m2 pc2)).setCell ⟨w8.heap.size, 1, none⟩ (.slice pq2 n2 pk2)) w9.heap.size (.slice qa m1 qc) (.slice qq n1 qk)) := (HQXa.out.kept HB2a.out).other (by omega) _ _; have IA : Below (w.heap.size + 2) ((w.alloc (.cells #[.slice a k c, .slice pl n cl] 26)).alloc (.cells #[.string e.path, .int .i64 e.kind, .string e.text, .bool e.opq] 28)) ((w11.setCell ⟨w8.heap.size, 0, none⟩ (.slice pa2 m2 pc2)).setCell ⟨w8.heap.size, 1, none⟩ (.slice pq2 n2 pk2)) := ((up2 I HB2a.out).setCell (p := ⟨w8.heap.size, 0, none⟩) hP2 _).setCell (p := ⟨w8.heap.size, 1, none⟩) hP2 _; have HF2 : Aside (Fz w.heap.size w10.heap.size pa2 pq2 ub lo2 ((w11.setCell ⟨w8.heap.size, 0, none⟩ (.slice pa2 m2 pc2)).setCell ⟨w8.heap.size, 1, none⟩ (.slice pq2 n2 pk2))) := (HP2.out.set 0 _ (by omega) hl8).set 1 _ (by omega) hl8; clear I HPXa HQXa; clear u0 u1 e0 e1 e2 e3 hlt; have I := IA; clear IA; obtain ⟨⟨u0, u1⟩, _⟩ := box2 I; obtain ⟨⟨e0, e1, e2, e3⟩, _⟩ := res4 I; have hlt := block_lt_of_cell e0; simp only at hlt)
    | (go_at_call 15; refine (hr2 _ (down2 I)).mono ?_; clear hr2; rintro rr w12 ⟨qa2, qc2, qq2, qk2, rfl, HQ2, HB2b⟩; clear a0 a1 af0 af1; obtain ⟨b0, b1, bf0, bf1⟩ := HQX2.out.kept HB2b.out; have HPY2 : Aside (BX ((w12.setCell ⟨w9.heap.size, 0, none⟩ (.slice qa2 m2 qc2)).setCell ⟨w9.heap.size, 1, none⟩ (.slice qq2 n2 qk2)) w8.heap.size (.slice pa2 m2 pc2) (.slice pq2 n2 pk2)) := (HPX2.out.kept HB2b.out).other (by omega) _ _; have HQY2 : Aside (BX ((w12.setCell ⟨w9.heap.size, 0, none⟩ (.slice qa2 m2 qc2)).setCell ⟨w9.heap.size, 1, none⟩ (.slice qq2 n2 qk2)) w9.heap.size (.slice qa2 m2 qc2) (.slice qq2 n2 qk2)) := BX.set (HQX2.out.kept HB2b.out) _ _; have IA : Below (w.heap.size + 2) ((w.alloc (.cells #[.slice a k c, .slice pl n cl] 26)).alloc (.cells #[.string e.path, .int .i64 e.kind, .string e.text, .bool e.opq] 28)) ((w12.setCell ⟨w9.heap.size, 0, none⟩ (.slice qa2 m2 qc2)).setCell ⟨w9.heap.size, 1, none⟩ (.slice qq2 n2 qk2)) := ((up2 I HB2b.out).setCell (p := ⟨w9.heap.size, 0, none⟩) (by show _ ≤ w9.heap.size; omega) _).setCell (p := ⟨w9.heap.size, 1, none⟩) (by show _ ≤ w9.heap.size; omega) _; have HZ2 : Aside (Fz w.heap.size _ pa2 pq2 ub lo2 ((w12.setCell ⟨w9.heap.size, 0, none⟩ (.slice qa2 m2 qc2)).setCell ⟨w9.heap.size, 1, none⟩ (.slice qq2 n2 qk2)) ∧ Fz w.heap.size _ qa2 qq2 ub lo2 ((w12.setCell ⟨w9.heap.size, 0, none⟩ (.slice qa2 m2 qc2)).setCell ⟨w9.heap.size, 1, none⟩ (.slice qq2 n2 qk2))) := ⟨((HF2.out.kept HB2b.out).set 0 _ (by omega) hl9).set 1 _ (by omega) hl9, (HQ2.out.set 0 _ (by omega) HQX2.out.lt).set 1 _ (by omega) HQX2.out.lt⟩; obtain ⟨a0, a1, _, _⟩ := HPY2.out; obtain ⟨d0, d1, _, _⟩ := HQY2.out; clear I HPX2 HF2; clear u0 u1 e0 e1 e2 e3 hlt; have I := IA; clear IA; obtain ⟨⟨u0, u1⟩, _⟩ := box2 I; obtain ⟨⟨e0, e1, e2, e3⟩, _⟩ := res4 I; have hlt := block_lt_of_cell e0; simp only at hlt)
    | (go_at_call 13; refine (su_same HM.out.1.2.1 HM.out.2.2.1 hb2 hc2 HZ2.out.1 HZ2.out.2).mono ?_; rintro rr w13 ⟨rfl, hN⟩; have HPZ2 : Aside (BX w13 w8.heap.size (.slice pa2 m2 pc2) (.slice pq2 n2 pk2)) := HPY2.out.kept hN; have HQZ2 : Aside (BX w13 w9.heap.size (.slice qa2 m2 qc2) (.slice qq2 n2 qk2)) := HQY2.out.kept hN; have IA := up2 I hN; clear hN I HZ2 HPY2 HQY2 HQX2 a0 a1 b0 b1 bf0 bf1 d0 d1 hl8 hl9; clear u0 u1 e0 e1 e2 e3 hlt; have I := IA; clear IA; obtain ⟨⟨u0, u1⟩, _⟩ := box2 I; obtain ⟨⟨e0, e1, e2, e3⟩, _⟩ := res4 I; have hlt := block_lt_of_cell e0; simp only at hlt)
    | (go_at_call 16; refine (hv1 _ (down2 I)).mono ?_; clear hv1; rintro rr w14 ⟨pa3, pc3, pq3, pk3, rfl, HP3, HB3a⟩; obtain ⟨a0, a1, af0, af1⟩ := HPZ2.out.kept HB3a.out; have hl8 := HPZ2.out.lt; have hl9 := HQZ2.out.lt; have HPX3 : Aside (BX ((w14.setCell ⟨w8.heap.size, 0, none⟩ (.slice pa3 m3 pc3)).setCell ⟨w8.heap.size, 1, none⟩ (.slice pq3 n3 pk3)) w8.heap.size (.slice pa3 m3 pc3) (.slice pq3 n3 pk3)) := BX.set (HPZ2.out.kept HB3a.out) _ _; have HQX3 : Aside (BX ((w14.setCell ⟨w8.heap.size, 0, none⟩ (.slice pa3 m3 pc3)).setCell ⟨w8.heap.size, 1, none⟩ (.slice pq3 n3 pk3)) w9.heap.size (.slice qa2 m2 qc2) (.slice qq2 n2 qk2)) := (HQZ2.out.kept HB3a.out).other (by omega) _ _; have IA : Below (w.heap.size + 2) ((w.alloc (.cells #[.slice a k c, .slice pl n cl] 26)).alloc (.cells #[.string e.path, .int .i64 e.kind, .string e.text, .bool e.opq] 28)) ((w14.setCell ⟨w8.heap.size, 0, none⟩ (.slice pa3 m3 pc3)).setCell ⟨w8.heap.size, 1, none⟩ (.slice pq3 n3 pk3)) := ((up2 I HB3a.out).setCell (p := ⟨w8.heap.size, 0, none⟩) hP2 _).setCell (p := ⟨w8.heap.size, 1, none⟩) hP2 _; have HF3 : Aside (Fz w.heap.size w13.heap.size pa3 pq3 uc lo3 ((w14.setCell ⟨w8.heap.size, 0, none⟩ (.slice pa3 m3 pc3)).setCell ⟨w8.heap.size, 1, none⟩ (.slice pq3 n3 pk3))) := (HP3.out.set 0 _ (by omega) hl8).set 1 _ (by omega) hl8; clear I HPZ2 HQZ2; clear u0 u1 e0 e1 e2 e3 hlt; have I := IA; clear IA; obtain ⟨⟨u0, u1⟩, _⟩ := box2 I; obtain ⟨⟨e0, e1, e2, e3⟩, _⟩ := res4 I; have hlt := block_lt_of_cell e0; simp only at hlt)
    | (go_at_call 17; refine (hv2 _ (down2 I)).mono ?_; clear hv2; rintro rr w15 ⟨qa3, qc3, qq3, qk3, rfl, HQ3, HB3b⟩; clear a0 a1 af0 af1; obtain ⟨b0, b1, bf0, bf1⟩ := HQX3.out.kept HB3b.out; have HPY3 : Aside (BX ((w15.setCell ⟨w9.heap.size, 0, none⟩ (.slice qa3 m3 qc3)).setCell ⟨w9.heap.size, 1, none⟩ (.slice qq3 n3 qk3)) w8.heap.size (.slice pa3 m3 pc3) (.slice pq3 n3 pk3)) := (HPX3.out.kept HB3b.out).other (by omega) _ _; have HQY3 : Aside (BX ((w15.setCell ⟨w9.heap.size, 0, none⟩ (.slice qa3 m3 qc3)).setCell ⟨w9.heap.size, 1, none⟩ (.slice qq3 n3 qk3)) w9.heap.size (.slice qa3 m3 qc3) (.slice qq3 n3 qk3)) := BX.set (HQX3.out.kept HB3b.out) _ _; have IA : Below (w.heap.size + 2) ((w.alloc (.cells #[.slice a k c, .slice pl n cl] 26)).alloc (.cells #[.string e.path, .int .i64 e.kind, .string e.text, .bool e.opq] 28)) ((w15.setCell ⟨w9.heap.size, 0, none⟩ (.slice qa3 m3 qc3)).setCell ⟨w9.heap.size, 1, none⟩ (.slice qq3 n3 qk3)) := ((up2 I HB3b.out).setCell (p := ⟨w9.heap.size, 0, none⟩) (by show _ ≤ w9.heap.size; omega) _).setCell (p := ⟨w9.heap.size, 1, none⟩) (by show _ ≤ w9.heap.size; omega) _; have HZ3 : Aside (Fz w.heap.size _ pa3 pq3 uc lo3 ((w15.setCell ⟨w9.heap.size, 0, none⟩ (.slice qa3 m3 qc3)).setCell ⟨w9.heap.size, 1, none⟩ (.slice qq3 n3 qk3)) ∧ Fz w.heap.size _ qa3 qq3 uc lo3 ((w15.setCell ⟨w9.heap.size, 0, none⟩ (.slice qa3 m3 qc3)).setCell ⟨w9.heap.size, 1, none⟩ (.slice qq3 n3 qk3))) := ⟨((HF3.out.kept HB3b.out).set 0 _ (by omega) hl9).set 1 _ (by omega) hl9, (HQ3.out.set 0 _ (by omega) HQX3.out.lt).set 1 _ (by omega) HQX3.out.lt⟩; obtain ⟨a0, a1, _, _⟩ := HPY3.out; obtain ⟨d0, d1, _, _⟩ := HQY3.out; clear I HPX3 HF3; clear u0 u1 e0 e1 e2 e3 hlt; have I := IA; clear IA; obtain ⟨⟨u0, u1⟩, _⟩ := box2 I; obtain ⟨⟨e0, e1, e2, e3⟩, _⟩ := res4 I; have hlt := block_lt_of_cell e0; simp only at hlt)
    | (go_at_call 13; refine (su_same HM.out.1.2.2 HM.out.2.2.2 hb3 hc3 HZ3.out.1 HZ3.out.2).mono ?_; rintro rr w16 ⟨rfl, hN⟩; have HPZ3 : Aside (BX w16 w8.heap.size (.slice pa3 m3 pc3) (.slice pq3 n3 pk3)) := HPY3.out.kept hN; have HQZ3 : Aside (BX w16 w9.heap.size (.slice qa3 m3 qc3) (.slice qq3 n3 qk3)) := HQY3.out.kept hN; have IA := up2 I hN; clear hN I HZ3 HPY3 HQY3 HQX3 a0 a1 b0 b1 bf0 bf1 d0 d1 hl8 hl9; clear u0 u1 e0 e1 e2 e3 hlt; have I := IA; clear IA; obtain ⟨⟨u0, u1⟩, _⟩ := box2 I; obtain ⟨⟨e0, e1, e2, e3⟩, _⟩ := res4 I; have hlt := block_lt_of_cell e0; simp only at hlt))
  go_ret
  exact ⟨rfl, down2 I⟩
end Go.Proofs.YtampldoimpfjgaaGreatDoor
namespace Go.Proofs.YtampldoimpfjgaaGreatDoor
open Go.RowKit PM Go.Sort
set_option linter.unusedVariables false

theorem chg_zero {we ae : Int} {n : Nat} (h : chgErr we ae n = 0) : we = 0 ∧ n ≤ 80 := by
  unfold chgErr at h
  split at h
  · rename_i h1
    split at h
    · split at h
      · cases h
      · exact ⟨h1, by omega⟩
    · rename_i h2; exact absurd h h2
  · rename_i h1; exact absurd h h1
theorem chg_first {we ae : Int} {n : Nat} (h : ¬ we = 0) : chgErr we ae n = we := by unfold chgErr; rw [if_neg h]
theorem if_len {α : Type} {er : Int} {l : List α} {k : Nat} (h : er = 0 → l.length ≤ k) : (if er = 0 then l else []).length ≤ k := by
  split
  · rename_i h0; exact h h0
  · simp
/-- The statement holds. -/
theorem utells_law (y : Lay) (ls : List Lay) (m : Int) (pl : Option Addr) (cl : Nat) (e : Ent) (frm to : ByteArray) (w : World) (hUn : UnOK w y ls pl cl) (hsm : ∀ x ∈ y :: ls, ∀ e ∈ x.es, e.path.size ≤ 1048576 ∧ e.text.size ≤ 1048576)
    (he : e.path.size ≤ 1048576) (het : e.text.size ≤ 1048576) (hf : frm.size ≤ 1048576) (ht : to.size ≤ 1048576) (hm : w.cell? ⟨0, 0, none⟩ = some (.int .i64 m)) :
    TrueC 3 #[.agg #[.slice y.ad y.es.length y.cap, .slice pl ls.length cl], .agg #[.string e.path, .int .i64 e.kind, .string e.text, .bool e.opq], .string frm, .string to] w := by
  have hwr : ∀ W, Below w.heap.size w W → RWrC W (y :: ls) := fun W hB x hx X hX => by
    have h := (hUn.all x hx).kept (Below.onto hB hX)
    exact refWrong_any x.es true x.ad x.cap X h.lies (hsm x hx) h.small h.cap
  have hmg : ∀ W, Below w.heap.size w W → RMgC W (y :: ls) := fun W hB X p c hX hT =>
    refMerge_any (y :: ls) p c X hT (fun x hx => (hUn.all x hx).kept (Below.onto hB hX)) hsm
  have hs2 : ∀ W, Below w.heap.size w W → RSn W (.agg #[.slice y.ad y.es.length y.cap, .slice pl ls.length cl]) (wrongU (y.es :: ls.map (·.es))).1 (seenU (y.es :: ls.map (·.es))) := fun W hB X hX =>
    refSeen_any y ls pl cl X ((hUn.lies.kept hB).kept hX) (hwr X (Below.onto hB hX)) (hmg X (Below.onto hB hX)) hUn.nil
  have hmd : ∀ W, Below w.heap.size w W → MdC W y.ad y.es.length y.cap pl ls.length cl (wrongU (y.es :: ls.map (·.es))).1 ((wrongU (y.es :: ls.map (·.es))).2 : Nat) (seenU (y.es :: ls.map (·.es))) := fun W hB X hX => by
    have h := hUn.kept (Below.onto hB hX)
    exact merged_any y ls m pl cl X h.lies h.all h.nil (held (Below.onto hB hX) hm)
  have hsr := seenU_right (y.es :: ls.map (·.es))
  have hzero : (wrongU (y.es :: ls.map (·.es))).1 = 0 → ls.length ≤ 4 ∧ Right true y.es ∧ Right false (mergeF (ls.map (·.es))).2 ∧ (mergeF (ls.map (·.es))).1 = 0 := fun h => by
    obtain ⟨h5, hz, hr⟩ := wrongU_zero.1 h
    rw [List.length_cons, List.length_map] at h5
    obtain ⟨g1, g2, g3, _⟩ := union_parts hz
    exact ⟨by omega, g2, g3, g1⟩
  have hmgL : (wrongU (y.es :: ls.map (·.es))).1 = 0 → ∀ W, Below w.heap.size w W → RMg W pl ls.length cl (mergeF (ls.map (·.es))).2 := fun h W hB X hX => by
    obtain ⟨h4, _, _, hz⟩ := hzero h
    refine ⟨(mergeL (ls.map (·.es))).1, ?_⟩
    have := refMerge_any ls pl cl X ((hUn.lies.kept hB).kept hX) (fun x hx => (hUn.each x hx).1.kept (Below.onto hB hX)) (fun x hx => hsm x (List.mem_cons_of_mem _ hx))
    rw [show (mergeL (ls.map (·.es))).2 = (mergeF (ls.map (·.es))).2 by rw [mergeL, if_neg (by rw [List.length_map]; omega)]] at this
    exact this
  have hlow : ∀ {er : Int} {ae : Int} {n : Nat}, er = chgErr (wrongU (y.es :: ls.map (·.es))).1 ae n → er = 0 → (ls.map (·.es)).length ≤ 80 := fun h h0 => by
    rw [h0] at h
    have := (hzero (chg_zero h.symm).1).1
    rw [List.length_map]; omega
  obtain ⟨x, hx⟩ : ∃ x : Ent, x = if lookErr (y.es :: ls.map (·.es)) frm.data.toList = 0 then (getL (seenU (y.es :: ls.map (·.es))) frm.data.toList).getD zeroE else zeroE := ⟨_, rfl⟩
  refine utells_1 y.ad y.es.length y.cap pl ls.length cl e frm to w _ ((wrongU (y.es :: ls.map (·.es))).2 : Nat) (seenU (y.es :: ls.map (·.es))) (by have := hsr.len; omega)
    (fun W hB => (seen_any y ls m pl cl W (hUn.kept hB) (held hB hm)).mono fun r w' h => h.tree) (hs2 w (Below.refl _ _)) (fun W hB => unionWrong_of W _ _ _ _ _ _ _ _ _ (hmd W hB)) (fun W hB => ?_)
    x.path x.text x.kind x.opq _ _ (fun W hB => look_any y ls m pl cl frm W (hUn.kept hB) (by unfold maxLen; omega) (held hB hm) x _ _ rfl hx rfl) (fun W hB => ?_)
    _ _ _ _ _ _ _ _ _ _ _ _ _ _ _ rfl rfl rfl rfl rfl rfl ?_ ?_ ?_ ?_ ?_ ?_
    (fun W hB => (unionPut_any y ls m pl cl e (by unfold maxLen; omega) (by omega) (by unfold maxLen; omega) W (hUn.kept hB) (held hB hm)).mono fun r w' h => su_prog rfl rfl h) (fun W hB => ?_)
    (fun W hB => (unionRemove_any y ls m pl cl frm (by unfold maxLen; omega) W (hUn.kept hB) (held hB hm)).mono fun r w' h => su_prog rfl rfl h) (fun W hB => ?_)
    (fun W hB => (unionMove_any y ls m pl cl frm to (by unfold maxLen; omega) (by unfold maxLen; omega) W (hUn.kept hB) (held hB hm)).mono fun r w' h => su_prog rfl rfl h) (fun W hB => ?_)
  · exact refWU_any y ls pl cl W (hUn.lies.kept hB) (hwr W hB) (hmg W hB) hUn.nil W (Below.refl _ _)
  · exact refLook_any y ls pl cl frm W (hUn.lies.kept hB) hUn.nil (fun x hx => (hUn.all x hx).kept hB) (hs2 W hB) hf x _ _ rfl hx rfl
  · exact Nat.lt_of_le_of_lt (if_len (k := 80) fun h => (chg_zero h).2) (by decide)
  · exact Nat.lt_of_le_of_lt (if_len (k := 80) fun h => (chg_zero h).2) (by decide)
  · exact Nat.lt_of_le_of_lt (if_len (k := 80) fun h => (chg_zero h).2) (by decide)
  · exact if_len fun h => hlow rfl h
  · exact if_len fun h => hlow rfl h
  · exact if_len fun h => hlow rfl h
  · by_cases h1 : (wrongU (y.es :: ls.map (·.es))).1 = 0
    · obtain ⟨_, hy, _, _⟩ := hzero h1
      exact (refPutU_any w.heap.size y pl ls.length cl e W _ _ (hs2 W hB) (fun _ => hsr) hy (hUn.up.lies.kept hB) he het).mono fun r w' h => su_ref (cl := cl) hUn.lies (fun x hx => (hUn.each x hx).1) hB rfl rfl rfl h
    · refine (pu_1 w.heap.size _ _ _ _ _ _ e W _ [] _ h1 (hs2 W hB)).mono fun r w' h => su_ref (cl := cl) hUn.lies (fun x hx => (hUn.each x hx).1) hB rfl rfl rfl ?_
      rw [chg_first h1]
      exact .inl ⟨h1, h⟩
  · by_cases h1 : (wrongU (y.es :: ls.map (·.es))).1 = 0
    · obtain ⟨_, hy, hB', _⟩ := hzero h1
      exact (refRemU_any w.heap.size y pl ls.length cl frm W _ _ _ (hs2 W hB) (fun _ => hsr) hy (hUn.up.lies.kept hB) hB' (hmgL h1 W hB) hf).mono fun r w' h => su_ref (cl := cl) hUn.lies (fun x hx => (hUn.each x hx).1) hB rfl rfl rfl h
    · refine (ru_1 w.heap.size _ _ _ _ _ _ frm W _ [] [] _ h1 (hs2 W hB)).mono fun r w' h => su_ref (cl := cl) hUn.lies (fun x hx => (hUn.each x hx).1) hB rfl rfl rfl ?_
      rw [chg_first h1]
      exact .inl ⟨h1, h⟩
  · by_cases h1 : (wrongU (y.es :: ls.map (·.es))).1 = 0
    · obtain ⟨_, hy, hB', _⟩ := hzero h1
      refine (refMoveU_any w.heap.size y pl ls.length cl frm to W _ _ _ (hs2 W hB) (fun _ => hsr) hy (hUn.up.lies.kept hB) hB' (hmgL h1 W hB) hf ht ?_).mono fun r w' h => su_ref (cl := cl) hUn.lies (fun x hx => (hUn.each x hx).1) hB rfl rfl rfl h
      rcases hUn.up.lies with h | ⟨b, off, hp, hb, _⟩
      · exact .inl h
      · exact .inr (fun b' off' s e => by rw [hp] at e; cases e; exact hb)
    · refine (mu_1 w.heap.size _ _ _ _ _ _ frm to W _ _ h1 (hs2 W hB)).mono fun r w' h => su_ref (cl := cl) hUn.lies (fun x hx => (hUn.each x hx).1) hB rfl rfl rfl ?_
      rw [chg_first h1]
      exact .inl ⟨h1, h⟩
end Go.Proofs.YtampldoimpfjgaaGreatDoor
