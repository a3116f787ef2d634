/-
  What the document's own answers traceref1.All, traceref1.WrongUnion and traceref1.Seen answer.
-/
import Derived.Test.YtampldoimpfjgaaGreatDoorGUA
namespace Go.Proofs.YtampldoimpfjgaaGreatDoor
open Go.RowKit PM Go.Sort
set_option linter.unusedVariables false

set_option maxHeartbeats 1000000 in
set_option maxRecDepth 100000 in
theorem refAll_any (y : Lay) (ls : List Lay) (pl : Option Addr) (cl : Nat) (w : World) (hT : LiesT w pl ls) (hn : ls.length ≤ 80) (hnil : pl = none → cl = 0) :
    Calls Tryz.prog 20 #[.agg #[.slice y.ad y.es.length y.cap, .slice pl ls.length cl]] w fun e w' => (∃ v, e = .returned v ∧ RowsT w' w.heap.size v (y :: ls)) ∧ Below w.heap.size w w' := by
  have HT : Aside (LiesT w pl ls) := hT
  have hone := RowsT.one (w.alloc (.cells #[.slice y.ad y.es.length y.cap, .slice pl ls.length cl] 26)) y (w.heap.size + 1) (by simp)
  have HB : Aside (Below w.heap.size w ((w.alloc (.cells #[.slice y.ad y.es.length y.cap, .slice pl ls.length cl] 26)).alloc (.cells #[.slice y.ad y.es.length y.cap] 23))) := ((Below.refl _ _).alloc (Nat.le_refl _) _).alloc (by simp) _
  obtain ⟨n, hnl⟩ : ∃ n, n = ls.length := ⟨_, rfl⟩
  have HN : Aside (n = ls.length) := hnl
  rw [← hnl] at hn hone HB ⊢
  obtain ⟨k, hk⟩ : ∃ k, k = y.es.length := ⟨_, rfl⟩
  rw [← hk] at hone HB ⊢
  have HO : Aside _ := hone
  clear hT hnl hk hone
  go_enter Tryz.func20, Tryz.ntmps20
  go_wp2_with (at_builtin; refine append_lays _ rfl _ _ rfl (w.heap.size + 1) _ [y] rfl HO.out (by simp) (by simp) pl n cl ls rfl HN.out (HT.out.adds HB.out) hnil hn ?_; intro v5 w5 hR5 hB5; have HR : Aside (RowsT w5 w.heap.size v5 (y :: ls)) := RowsT.mono hR5 (by omega); have HB5 : Aside (Below w.heap.size w w5) := HB.out.trans (hB5.mono (by omega)); clear hR5 hB5)
  go_ret
  exact ⟨⟨_, rfl, HR.out⟩, HB5.out⟩
set_option maxHeartbeats 1000000 in
set_option maxRecDepth 100000 in
theorem refWU_many (a : Option Addr) (k c : Nat) (n : Nat) (pl : Option Addr) (cl : Nat) (w : World) (h : 4 < n) :
    Calls Tryz.prog 7 #[.agg #[.slice a k c, .slice pl n cl]] w fun r w' => r = .returned (.agg #[.int .i64 5, .int .i64 0]) ∧ Below w.heap.size w w' := by
  have h4 : (4 : Int) < (n : Int) := by omega
  go_enter Tryz.func7, Tryz.ntmps7
  go_wp2
  refine bodyPost_ret (v := .agg #[.int .i64 5, .int .i64 0]) (by simp [results, Tryz.results7, go_sem]) rfl ?_
  exact ⟨rfl, ((Below.refl _ _).alloc (Nat.le_refl _) _).alloc (by simp) _⟩
end Go.Proofs.YtampldoimpfjgaaGreatDoor
namespace Go.Proofs.YtampldoimpfjgaaGreatDoor
open Go.RowKit PM Go.Sort
set_option linter.unusedVariables false

abbrev RWrC (w : World) (all : List Lay) : Prop := ∀ x ∈ all, ∀ W, Below w.heap.size w W → Calls Tryz.prog 21 #[.slice x.ad x.es.length x.cap, .bool true] W fun r w' => r = .returned (.agg #[.int .i64 (faultL true x.es).1, .int .i64 ((faultL true x.es).2 : Nat)]) ∧ Below W.heap.size W w'
abbrev RMgC (w : World) (all : List Lay) : Prop := ∀ W p c, Below w.heap.size w W → LiesT W p all → Calls Tryz.prog 19 #[.slice p all.length c] W (TreePost (mergeL (all.map (·.es))).1 (mergeL (all.map (·.es))).2 W)
set_option maxHeartbeats 1000000 in
set_option maxRecDepth 100000 in
theorem refWU_few (y : Lay) (ls : List Lay) (pl : Option Addr) (cl : Nat) (w : World) (hT : LiesT w pl ls) (hwr : RWrC w (y :: ls)) (hmg : RMgC w (y :: ls)) (hnil : pl = none → cl = 0) (h4 : ls.length ≤ 4) :
    Calls Tryz.prog 7 #[.agg #[.slice y.ad y.es.length y.cap, .slice pl ls.length cl]] w fun r w' => r = .returned (.agg #[.int .i64 (wrongU ((y :: ls).map (·.es))).1, .int .i64 ((wrongU ((y :: ls).map (·.es))).2 : Nat)]) ∧ Below w.heap.size w w' := by
  have hly := fun W (hB : Below w.heap.size w W) => refAll_any y ls pl cl W (hT.kept hB) (by omega) hnil
  obtain ⟨n, hnl⟩ : ∃ n, n = ls.length := ⟨_, rfl⟩
  have HN : Aside (n = ls.length) := hnl
  have h4z : ¬ (4 : Int) < (n : Int) := by omega
  obtain ⟨k0, hk0⟩ : ∃ k0, k0 = y.es.length := ⟨_, rfl⟩
  rw [← hnl, ← hk0] at hly ⊢
  have HLY : Aside (∀ W, Below w.heap.size w W → _) := hly
  have HB2 : Aside (Below (w.heap.size + 2) ((w.alloc (.cells #[.slice y.ad k0 y.cap, .slice pl n cl] 26)).alloc (.cells #[.int .i64 0, .int .i64 0] 33)) ((w.alloc (.cells #[.slice y.ad k0 y.cap, .slice pl n cl] 26)).alloc (.cells #[.int .i64 0, .int .i64 0] 33))) := Below.refl _ _
  obtain ⟨all, hall⟩ : ∃ all, all = y :: ls := ⟨_, rfl⟩
  rw [← hall] at hwr hmg ⊢
  have HWR : Aside (RWrC w all) := hwr
  have HMG : Aside (RMgC w all) := hmg
  have HAL : Aside (all = y :: ls) := hall
  obtain ⟨N, hal⟩ : ∃ N, all.length = N := ⟨_, rfl⟩
  have hN5 : N ≤ 5 := by rw [← hal, hall, List.length_cons]; omega
  have HLN : Aside (all.length = N) := hal
  obtain ⟨er, her⟩ : ∃ er, er = (wrongU (all.map (·.es))).1 := ⟨_, rfl⟩
  obtain ⟨ea, hea⟩ : ∃ ea : Int, ea = ((wrongU (all.map (·.es))).2 : Nat) := ⟨_, rfl⟩
  rw [← her, ← hea]
  have HER : Aside (er = (wrongU (all.map (·.es))).1 ∧ ea = ((wrongU (all.map (·.es))).2 : Nat)) := ⟨her, hea⟩
  have HWU : Aside (wrongU (all.map (·.es)) = if (badFrom 0 (all.map (·.es))).1 = 0 then ((mergeF (all.map (·.es))).1, 0) else badFrom 0 (all.map (·.es))) := by
    show _ = _
    unfold wrongU
    rw [if_neg (by rw [List.length_map, hal]; omega)]
  clear hT hwr hmg hnl hk0 hall hal her hea
  go_enter Tryz.func7, Tryz.ntmps7
  go_wp2_with (go_at_call 20; refine (hly _ (down2 HB2.out)).mono ?_; clear hly; rintro e w3 ⟨⟨v3, rfl, hR3⟩, hN3⟩; have HB3 : Aside (Below (w.heap.size + 2) _ w3) := up2 HB2.out hN3; rw [← HAL.out] at hR3; obtain ⟨p3, c3, rfl, hL3⟩ := hR3.form; rw [HLN.out]; have HL3 : Aside (LiesT w3 p3 all) := hL3; clear hR3 hN3 HB2 hL3)
  go_loopg [16] N (fun gg s19 wr => ∃ k : Nat, k ≤ N ∧ N - k ≤ gg ∧ s19 = .int .i64 k ∧ Aside (Below w3.heap.size w3 wr) ∧ Aside (badFrom k ((all.map (·.es)).drop k) = badFrom 0 (all.map (·.es))))
  case atStart => exact ⟨0, Nat.zero_le _, by omega, rfl, Below.refl _ _, rfl⟩
  case round =>
    obtain ⟨k, hk, hgg, rfl, BW, HE⟩ := hrel
    have HB4 : Aside (Below (w.heap.size + 2) ((w.alloc (.cells #[.slice y.ad k0 y.cap, .slice pl n cl] 26)).alloc (.cells #[.int .i64 0, .int .i64 0] 33)) wr) := up2 HB3.out BW.out
    have hs4 := HB4.out.size
    simp at hs4
    by_cases hlt : k < N
    · have hltz : (k : Int) < (N : Int) := by omega
      obtain ⟨x, hx⟩ : ∃ x, all[k]? = some x := ⟨_, List.getElem?_eq_getElem (by have := HLN.out; omega)⟩
      have HX : Aside ((all.map (·.es))[k]? = some x.es) := by show _ = _; rw [List.getElem?_map, hx]; rfl
      have hwr := fun W (hB : Below wr.heap.size wr W) => HWR.out x (List.mem_of_getElem? hx) W (Below.onto (down2 HB4.out) hB)
      rcases HL3.out with h0 | ⟨b, off, rfl, hb, hc⟩
      · rw [h0] at hx; simp at hx
      have c0 : wr.cell? ⟨b, off + k, none⟩ = some (.slice x.ad x.es.length x.cap) := (BW.out.cell (p := ⟨b, off + k, none⟩) hb).trans (hc k x hx)
      have HS := badFrom_step HX.out
      have HST : Aside (badFrom k ((all.map (·.es)).drop k) = if (faultL true x.es).1 = 0 then badFrom (k + 1) ((all.map (·.es)).drop (k + 1)) else ((faultL true x.es).1, k)) := HS
      clear HS hc hx HX
      generalize x.es.length = xl at c0 hwr
      generalize (faultL true x.es).1 = f1 at hwr HST
      generalize ((faultL true x.es).2 : Int) = f2 at hwr
      have hfld := field40
      by_cases hf : f1 = 0
      · have HST' : Aside (badFrom (k + 1) ((all.map (·.es)).drop (k + 1)) = badFrom 0 (all.map (·.es))) := by show _ = _; rw [← HE.out, HST.out, if_pos hf]
        subst hf
        go_wp2_with (go_at_call 21; refine (hwr _ (by repeat (first | exact Below.refl _ _ | refine Below.alloc ?_ (by simp) _))).mono ?_; clear hwr; rintro rr w5 ⟨rfl, hN6⟩)
        go_roundg (N - (k + 1))
        case measure => omega
        case rel => exact ⟨k + 1, by omega, by omega, by go_num, (Below.onto BW.out hN6).alloc (Below.onto BW.out hN6).size _, HST'.out⟩
      · have HZ : Aside (er = f1 ∧ ea = (k : Int)) := by
          have h1 : badFrom 0 (all.map (·.es)) = (f1, k) := by rw [← HE.out, HST.out, if_neg hf]
          have h2 : wrongU (all.map (·.es)) = (f1, k) := by rw [HWU.out, h1, if_neg hf]
          obtain ⟨h3, h4⟩ := HER.out
          rw [h2] at h3 h4
          exact ⟨h3, h4⟩
        go_wp2_with (go_at_call 21; refine (hwr _ (by repeat (first | exact Below.refl _ _ | refine Below.alloc ?_ (by simp) _))).mono ?_; clear hwr; rintro rr w5 ⟨rfl, hN6⟩; have HB5 : Aside (Below (w.heap.size + 2) ((w.alloc (.cells #[.slice y.ad k0 y.cap, .slice pl n cl] 26)).alloc (.cells #[.int .i64 0, .int .i64 0] 33)) w5) := up2 HB4.out hN6; have HB7 : Aside (Below (w.heap.size + 2) ((w.alloc (.cells #[.slice y.ad k0 y.cap, .slice pl n cl] 26)).alloc (.cells #[.int .i64 0, .int .i64 0] 33)) (w5.alloc (.cells #[.int .i64 f1, .int .i64 f2] 33))) := up2 HB5.out ((Grown.refl w5).alloc _).below; obtain ⟨⟨r0, r1⟩, ⟨g0, g1⟩⟩ := res2 HB5.out; obtain ⟨⟨R0, R1⟩, ⟨G0, G1⟩⟩ := res2 HB7.out; clear hN6)
        refine bodyPost_ret (v := .agg #[.int .i64 f1, .int .i64 k]) (by simp [results, Tryz.results7, go_sem, R0, R1]) rfl ?_
        obtain ⟨h1, h2⟩ := HZ.out
        rw [h1, h2]
        exact ⟨rfl, store2 (HB7.out) _ _⟩
    · obtain rfl : k = N := by omega
      have hltz : ¬ (k : Int) < (k : Int) := by omega
      have h0 : badFrom 0 (all.map (·.es)) = (0, 0) := by rw [← HE.out, List.drop_of_length_le (by rw [List.length_map, HLN.out]; exact Nat.le_refl _)]; rfl
      have hmL : mergeL (all.map (·.es)) = mergeF (all.map (·.es)) := by rw [mergeL, if_neg (by rw [List.length_map, HLN.out]; omega)]
      have HZ : Aside (er = (mergeF (all.map (·.es))).1 ∧ ea = 0) := by
        have h2 : wrongU (all.map (·.es)) = ((mergeF (all.map (·.es))).1, 0) := by rw [HWU.out, h0, if_pos rfl]
        obtain ⟨h3, h4⟩ := HER.out
        rw [h2] at h3 h4
        exact ⟨h3, h4⟩
      obtain ⟨z1, z2⟩ := HZ.out
      have hmg2 := fun W p c (hB : Below wr.heap.size wr W) (hL : LiesT W p all) => HMG.out W p c (Below.onto (down2 HB4.out) hB) hL
      rw [hmL, ← z1, HLN.out] at hmg2
      have hly2 := fun W (hB : Below wr.heap.size wr W) => HLY.out W (Below.onto (down2 HB4.out) hB)
      subst z2
      clear h0 hmL z1
      generalize (mergeF (all.map (·.es))).2 = ml at hmg2
      obtain ⟨⟨u0, u1⟩, _⟩ := box2 HB4.out
      obtain ⟨⟨q0, q1⟩, ⟨q2, q3⟩⟩ := res2 HB4.out
      by_cases he : er = 0
      · subst he
        go_wp2_with (first
          | (go_at_call 20; refine (hly2 _ (Below.refl _ _)).mono ?_; clear hly2; rintro e w8 ⟨⟨v8, rfl, hR8⟩, hN8⟩; have HN8 : Aside (Below wr.heap.size wr w8) := hN8; have HB8 : Aside (Below (w.heap.size + 2) ((w.alloc (.cells #[.slice y.ad k0 y.cap, .slice pl n cl] 26)).alloc (.cells #[.int .i64 0, .int .i64 0] 33)) w8) := up2 HB4.out hN8; rw [← HAL.out] at hR8; obtain ⟨p8, c8, rfl, hL8⟩ := hR8.form; rw [HLN.out]; have HL8 : Aside (LiesT w8 p8 all) := hL8; clear hR8 hN8 hL8)
          | (go_at_call 19; refine (hmg2 _ p8 c8 HN8.out HL8.out).mono ?_; clear hmg2; rintro rr w9 ⟨p9, c9, rfl, hL9, hc9, hn9, hN9⟩; have HB9 : Aside (Below (w.heap.size + 2) ((w.alloc (.cells #[.slice y.ad k0 y.cap, .slice pl n cl] 26)).alloc (.cells #[.int .i64 0, .int .i64 0] 33)) w9) := up2 HB8.out hN9; obtain ⟨⟨r0, r1⟩, ⟨g0, g1⟩⟩ := res2 HB9.out; clear hL9 hN9))
        refine bodyPost_ret (v := .agg #[.int .i64 0, .int .i64 0]) (by simp [results, Tryz.results7, go_sem, r0, r1]) rfl ?_
        exact ⟨rfl, store2 (HB9.out) _ _⟩
      · go_wp2_with (first
          | (go_at_call 20; refine (hly2 _ (Below.refl _ _)).mono ?_; clear hly2; rintro e w8 ⟨⟨v8, rfl, hR8⟩, hN8⟩; have HN8 : Aside (Below wr.heap.size wr w8) := hN8; have HB8 : Aside (Below (w.heap.size + 2) ((w.alloc (.cells #[.slice y.ad k0 y.cap, .slice pl n cl] 26)).alloc (.cells #[.int .i64 0, .int .i64 0] 33)) w8) := up2 HB4.out hN8; rw [← HAL.out] at hR8; obtain ⟨p8, c8, rfl, hL8⟩ := hR8.form; rw [HLN.out]; have HL8 : Aside (LiesT w8 p8 all) := hL8; clear hR8 hN8 hL8)
          | (go_at_call 19; refine (hmg2 _ p8 c8 HN8.out HL8.out).mono ?_; clear hmg2; rintro rr w9 ⟨p9, c9, rfl, hL9, hc9, hn9, hN9⟩; have HB9 : Aside (Below (w.heap.size + 2) ((w.alloc (.cells #[.slice y.ad k0 y.cap, .slice pl n cl] 26)).alloc (.cells #[.int .i64 0, .int .i64 0] 33)) w9) := up2 HB8.out hN9; obtain ⟨⟨r0, r1⟩, ⟨g0, g1⟩⟩ := res2 HB9.out; clear hL9 hN9))
        refine bodyPost_ret (v := .agg #[.int .i64 er, .int .i64 0]) (by simp [results, Tryz.results7, go_sem, r0, r1]) rfl ?_
        exact ⟨rfl, store2 (HB9.out) _ _⟩
end Go.Proofs.YtampldoimpfjgaaGreatDoor
namespace Go.Proofs.YtampldoimpfjgaaGreatDoor
open Go.RowKit PM Go.Sort
set_option linter.unusedVariables false

abbrev RWuC (w : World) (u : Value) (er ea : Int) : Prop := ∀ W, Below w.heap.size w W → Calls Tryz.prog 7 #[u] W fun r w' => r = .returned (.agg #[.int .i64 er, .int .i64 ea]) ∧ Below W.heap.size W w'
theorem refWU_any (y : Lay) (ls : List Lay) (pl : Option Addr) (cl : Nat) (w : World) (hT : LiesT w pl ls) (hwr : RWrC w (y :: ls)) (hmg : RMgC w (y :: ls)) (hnil : pl = none → cl = 0) :
    RWuC w (.agg #[.slice y.ad y.es.length y.cap, .slice pl ls.length cl]) (wrongU ((y :: ls).map (·.es))).1 ((wrongU ((y :: ls).map (·.es))).2 : Nat) := fun W hB => by
  by_cases h4 : ls.length ≤ 4
  · exact refWU_few y ls pl cl W (hT.kept hB) (fun x hx X hX => hwr x hx X (Below.onto hB hX)) (fun X p c hX hL => hmg X p c (Below.onto hB hX) hL) hnil h4
  · have h1 : wrongU ((y :: ls).map (·.es)) = (5, 0) := by
      unfold wrongU
      rw [if_pos (by rw [List.length_map, List.length_cons]; omega)]
    rw [h1]
    exact refWU_many _ _ _ _ _ _ _ (by omega)
set_option maxHeartbeats 1000000 in
set_option maxRecDepth 100000 in
theorem refSeen_err (a : Option Addr) (k c : Nat) (pl : Option Addr) (n cl : Nat) (w : World) (er ea : Int) (he : ¬ er = 0) (hwu : RWuC w (.agg #[.slice a k c, .slice pl n cl]) er ea) :
    Calls Tryz.prog 5 #[.agg #[.slice a k c, .slice pl n cl]] w (TreePost er [] w) := by
  have HB1 : Aside (Below (w.heap.size + 1) (w.alloc (.cells #[.slice a k c, .slice pl n cl] 26)) (w.alloc (.cells #[.slice a k c, .slice pl n cl] 26))) := Below.refl _ _
  go_enter Tryz.func5, Tryz.ntmps5
  go_wp2_with (go_at_call 7; refine (hwu _ (base1 HB1.out)).mono ?_; clear hwu; rintro r w2 ⟨rfl, hN2⟩; have HB2 : Aside (Below (w.heap.size + 1) (w.alloc (.cells #[.slice a k c, .slice pl n cl] 26)) (w2.alloc (.cells #[.int .i64 er, .int .i64 ea] 33))) := up1 (up1 HB1.out hN2) ((Grown.refl w2).alloc _).below; clear hN2)
  go_region
  all_goals go_wp2
  all_goals go_ret2
  all_goals exact ⟨none, 0, rfl, Lies.nil _ _, Nat.le_refl _, fun _ => rfl, base1 (up1 HB2.out ((Below.refl _ _).drew))⟩
set_option maxHeartbeats 1000000 in
set_option maxRecDepth 100000 in
theorem refSeen_ok (y : Lay) (ls : List Lay) (pl : Option Addr) (cl : Nat) (w : World) (hT : LiesT w pl ls) (h4 : ls.length ≤ 4) (hnil : pl = none → cl = 0) (hmg : RMgC w (y :: ls)) (er : Int) (sl : List Ent) (he : er = 0) (h1 : (mergeL ((y :: ls).map (·.es))).1 = er) (h2 : (mergeL ((y :: ls).map (·.es))).2 = sl) (ea : Int) (hwu : RWuC w (.agg #[.slice y.ad y.es.length y.cap, .slice pl ls.length cl]) 0 ea) :
    Calls Tryz.prog 5 #[.agg #[.slice y.ad y.es.length y.cap, .slice pl ls.length cl]] w (TreePost 0 sl w) := by
  have hly := fun W (hB : Below w.heap.size w W) => refAll_any y ls pl cl W (hT.kept hB) (by omega) hnil
  have HLN : Aside ((y :: ls).length = ls.length + 1) := List.length_cons
  have hmg2 : ∀ W p c, Below w.heap.size w W → LiesT W p (y :: ls) → Calls Tryz.prog 19 #[.slice p (ls.length + 1) c] W (TreePost 0 sl W) := fun W p c hB hL => by
    have := hmg W p c hB hL
    rw [h1, h2, he] at this
    exact this
  obtain ⟨n, hnl⟩ : ∃ n, n = ls.length := ⟨_, rfl⟩
  obtain ⟨k, hk⟩ : ∃ k, k = y.es.length := ⟨_, rfl⟩
  rw [← hnl, ← hk] at hly hwu ⊢
  rw [← hnl] at hmg2 HLN
  clear hT hmg h1 h2 he hnl hk
  have HB1 : Aside (Below (w.heap.size + 1) (w.alloc (.cells #[.slice y.ad k y.cap, .slice pl n cl] 26)) (w.alloc (.cells #[.slice y.ad k y.cap, .slice pl n cl] 26))) := Below.refl _ _
  go_enter Tryz.func5, Tryz.ntmps5
  go_wp2_with (first
    | (go_at_call 7; refine (hwu _ (base1 HB1.out)).mono ?_; clear hwu; rintro r w2 ⟨rfl, hN2⟩; have HB2 : Aside (Below (w.heap.size + 1) (w.alloc (.cells #[.slice y.ad k y.cap, .slice pl n cl] 26)) (w2.alloc (.cells #[.int .i64 0, .int .i64 ea] 33))) := up1 (up1 HB1.out hN2) ((Grown.refl w2).alloc _).below; obtain ⟨⟨u0, u1⟩, _⟩ := new2 (Nat.lt_succ_self _) HB2.out; clear hN2)
    | (go_at_call 20; refine (hly _ (base1 HB2.out)).mono ?_; clear hly; rintro e w8 ⟨⟨v8, rfl, hR8⟩, hN8⟩; have HB8 : Aside (Below (w.heap.size + 1) (w.alloc (.cells #[.slice y.ad k y.cap, .slice pl n cl] 26)) w8) := up1 HB2.out hN8; obtain ⟨p8, c8, rfl, hL8⟩ := hR8.form; rw [HLN.out]; have HL8 : Aside (LiesT w8 p8 (y :: ls)) := hL8; clear hR8 hN8 hL8)
    | (go_at_call 19; refine (hmg2 _ p8 c8 (base1 HB8.out) HL8.out).mono ?_; clear hmg2; rintro rr w9 ⟨p9, c9, rfl, hL9, hc9, hn9, hN9⟩; have HB9 : Aside (Below w.heap.size w w9) := Below.onto (base1 HB8.out) hN9; have HL9 : Aside (Lies w9 p9 sl) := hL9; clear hL9 hN9))
  go_ret2
  exact ⟨p9, c9, rfl, HL9.out, hc9, hn9, HB9.out⟩
theorem refSeen_any (y : Lay) (ls : List Lay) (pl : Option Addr) (cl : Nat) (w : World) (hT : LiesT w pl ls) (hwr : RWrC w (y :: ls)) (hmg : RMgC w (y :: ls)) (hnil : pl = none → cl = 0) :
    Calls Tryz.prog 5 #[.agg #[.slice y.ad y.es.length y.cap, .slice pl ls.length cl]] w (TreePost (wrongU ((y :: ls).map (·.es))).1 (seenU ((y :: ls).map (·.es))) w) := by
  have hwu := refWU_any y ls pl cl w hT hwr hmg hnil
  by_cases he : (wrongU ((y :: ls).map (·.es))).1 = 0
  · obtain ⟨h5, hz, _⟩ := wrongU_zero.1 he
    have h4 : ls.length ≤ 4 := by rw [List.length_map, List.length_cons] at h5; omega
    have hmL : mergeL ((y :: ls).map (·.es)) = mergeF ((y :: ls).map (·.es)) := by rw [mergeL, if_neg (by omega)]
    have hs : (mergeL ((y :: ls).map (·.es))).2 = seenU ((y :: ls).map (·.es)) := by rw [hmL, seenU, if_pos he]
    rw [he] at hwu ⊢
    exact refSeen_ok y ls pl cl w hT h4 hnil hmg 0 _ rfl (by rw [hmL]; exact hz) hs _ hwu
  · have hs : seenU ((y :: ls).map (·.es)) = [] := by rw [seenU, if_neg he]
    rw [hs]
    exact refSeen_err _ _ _ _ _ _ w _ _ he hwu
end Go.Proofs.YtampldoimpfjgaaGreatDoor
namespace Go.Proofs.YtampldoimpfjgaaGreatDoor
open Go.RowKit PM Go.Sort
set_option linter.unusedVariables false

set_option maxHeartbeats 1000000 in
set_option maxRecDepth 100000 in
theorem refDone_many (a : Option Addr) (k c : Nat) (pl : Option Addr) (n cl : Nat) (p : Option Addr) (l cp : Nat) (w : World) (h : 80 < l) :
    Calls Tryz.prog 33 #[.agg #[.slice a k c, .slice pl n cl], .slice p l cp] w fun r w' => r = .returned (.tuple #[.agg #[.slice none 0 0, .slice none 0 0], .int .i64 5]) ∧ Below w.heap.size w w' := by
  have h8 : (80 : Int) < (l : Int) := by omega
  go_enter Tryz.func33, Tryz.ntmps33
  go_wp2
  refine bodyPost_ret (v := .tuple #[.agg #[.slice none 0 0, .slice none 0 0], .int .i64 5]) (by simp [results, Tryz.results33, go_sem]) rfl ?_
  exact ⟨rfl, ((Below.refl _ _).alloc (Nat.le_refl _) _).alloc (by simp) _⟩
set_option maxHeartbeats 1000000 in
set_option maxRecDepth 100000 in
theorem refDone_few (a : Option Addr) (k c : Nat) (pl : Option Addr) (n cl : Nat) (p : Option Addr) (l cp : Nat) (w : World) (h : l ≤ 80) :
    Calls Tryz.prog 33 #[.agg #[.slice a k c, .slice pl n cl], .slice p l cp] w fun r w' => r = .returned (.tuple #[.agg #[.slice p l cp, .slice pl n cl], .int .i64 0]) ∧ Below w.heap.size w w' := by
  have h8 : ¬ (80 : Int) < (l : Int) := by omega
  go_enter Tryz.func33, Tryz.ntmps33
  go_wp2
  refine bodyPost_ret (v := .tuple #[.agg #[.slice p l cp, .slice pl n cl], .int .i64 0]) (by simp [results, Tryz.results33, go_sem]) rfl ?_
  exact ⟨rfl, ((Below.refl _ _).alloc (Nat.le_refl _) _).alloc (by simp) _⟩
end Go.Proofs.YtampldoimpfjgaaGreatDoor
