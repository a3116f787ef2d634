/-
  The statement UnionLower: it answers true, and writes nothing that was there.
-/
import Derived.Test.YtampldoimpfjgabGreatDoorUD
namespace Go.Proofs.YtampldoimpfjgabGreatDoor
open Go.RowKit PM Go.Sort
set_option linter.unusedVariables false

set_option maxHeartbeats 2000000 in
set_option maxRecDepth 100000 in
theorem sameUnion_any (es : List Ent) (els : List (List Ent)) (a a' : Option Addr) (c c' : Nat) (ls ls' : List Lay) (pl pl' : Option Addr) (cl cl' : Nat) (w : World) (hL : Lies w a es) (hL' : Lies w a' es) (h80 : es.length < 4611686018427387904) (hT : LiesT w pl ls) (hT' : LiesT w pl' ls') (hO : ∀ x ∈ ls, LayOK w x) (hO' : ∀ x ∈ ls', LayOK w x) (h1 : ls.map (·.es) = els) (h2 : ls'.map (·.es) = els) (hn : els.length ≤ 80) :
    TrueC 20 #[.agg #[.slice a es.length c, .slice pl ls.length cl], .agg #[.slice a' es.length c', .slice pl' ls'.length cl']] w := by
  have hsu := fun W (hB : Below w.heap.size w W) => same_any es a a' c c' W (hL.kept hB) (hL'.kept hB) h80
  obtain ⟨k, hk⟩ : ∃ k, k = es.length := ⟨_, rfl⟩
  have hl1 : ls.length = els.length := by rw [← h1, List.length_map]
  have hl2 : ls'.length = els.length := by rw [← h2, List.length_map]
  rw [← hk] at hsu ⊢
  rw [hl1, hl2]
  obtain ⟨n, hn'⟩ : ∃ n, n = els.length := ⟨_, rfl⟩
  rw [← hn'] at hn ⊢
  have HT : Aside (LiesT w pl ls ∧ LiesT w pl' ls' ∧ (∀ x ∈ ls, LayOK w x) ∧ (∀ x ∈ ls', LayOK w x) ∧ ls.map (·.es) = els ∧ ls'.map (·.es) = els ∧ n = els.length) := ⟨hT, hT', hO, hO', h1, h2, hn'⟩
  have HB0 : Aside (Below (w.heap.size + 2) ((w.alloc (.cells #[.slice a k c, .slice pl n cl] 26)).alloc (.cells #[.slice a' k c', .slice pl' n cl'] 26)) ((w.alloc (.cells #[.slice a k c, .slice pl n cl] 26)).alloc (.cells #[.slice a' k c', .slice pl' n cl'] 26))) := Below.refl _ _
  clear hL hL' hT hT' hO hO' h1 h2 hn' hk hl1 hl2
  go_enter Tryz.func20, Tryz.ntmps20
  go_wp2_with (go_at_call 24; refine (hsu _ (down2 HB0.out)).mono ?_; clear hsu; rintro r w1 ⟨rfl, hN1⟩; have HB1 : Aside (Below (w.heap.size + 2) ((w.alloc (.cells #[.slice a k c, .slice pl n cl] 26)).alloc (.cells #[.slice a' k c', .slice pl' n cl'] 26)) w1) := up2 HB0.out hN1; obtain ⟨⟨u0, u1⟩, _⟩ := box2 HB1.out; obtain ⟨⟨v0, v1⟩, _⟩ := res2 HB1.out; clear hN1)
  go_loopg [24] n (fun gg s24 wr => ∃ j : Nat, j ≤ n ∧ n - j ≤ gg ∧ s24 = .int .i64 j ∧ Aside (Below (w.heap.size + 2) ((w.alloc (.cells #[.slice a k c, .slice pl n cl] 26)).alloc (.cells #[.slice a' k c', .slice pl' n cl'] 26)) wr))
  case atStart => exact ⟨0, Nat.zero_le _, by omega, rfl, HB1.out⟩
  case round =>
    obtain ⟨j, hj, hgg, rfl, BW⟩ := hrel
    by_cases hlt : j < n
    · have hltz : (j : Int) < (n : Int) := by omega
      have hjw : IntKind.i64.wrap (j : Int) = (j : Int) := by rw [IntKind.wrap_i64]; omega
      clear u0 u1 v0 v1
      obtain ⟨⟨u0, u1⟩, _⟩ := box2 BW.out
      obtain ⟨⟨v0, v1⟩, _⟩ := res2 BW.out
      have hBw := down2 BW.out
      obtain ⟨x, hx⟩ : ∃ x, ls[j]? = some x := ⟨_, List.getElem?_eq_getElem (by have h := HT.out; have := congrArg List.length h.2.2.2.2.1; rw [List.length_map] at this; omega)⟩
      obtain ⟨y, hy⟩ : ∃ y, ls'[j]? = some y := ⟨_, List.getElem?_eq_getElem (by have h := HT.out; have := congrArg List.length h.2.2.2.2.2.1; rw [List.length_map] at this; omega)⟩
      have hxy : y.es = x.es := by
        have g1 : els[j]? = some x.es := by rw [← HT.out.2.2.2.2.1, List.getElem?_map, hx]; rfl
        have g2 : els[j]? = some y.es := by rw [← HT.out.2.2.2.2.2.1, List.getElem?_map, hy]; rfl
        rw [g1] at g2
        exact (Option.some.inj g2).symm
      have hox := HT.out.2.2.1 x (List.mem_of_getElem? hx)
      have hoy := HT.out.2.2.2.1 y (List.mem_of_getElem? hy)
      have hsm := fun W (hB : Below w.heap.size w W) => same_any x.es x.ad y.ad x.cap y.cap W (hox.lies.kept hB) (hxy ▸ hoy.lies.kept hB) hox.small
      rcases HT.out.1 with h0 | ⟨b, off, rfl, hb, hc⟩
      · rw [h0] at hx; simp at hx
      rcases HT.out.2.1 with h0 | ⟨b', off', rfl, hb', hc'⟩
      · rw [h0] at hy; simp at hy
      have c0 : wr.cell? ⟨b, off + j, none⟩ = some (.slice x.ad x.es.length x.cap) := (hBw.cell (p := ⟨b, off + j, none⟩) hb).trans (hc j x hx)
      have c1 : wr.cell? ⟨b', off' + j, none⟩ = some (.slice y.ad x.es.length y.cap) := by rw [← hxy]; exact (hBw.cell (p := ⟨b', off' + j, none⟩) hb').trans (hc' j y hy)
      have hl0 := block_lt_of_cell u1
      simp only at hl0
      have hl1 := block_lt_of_cell v1
      simp only at hl1
      have hl2 := block_lt_of_cell c0
      simp only at hl2
      have hl3 := block_lt_of_cell c1
      simp only at hl3
      clear hc hc' hx hy hox hoy hxy u0 v0 HT
      generalize x.es.length = xn at c0 c1 hsm
      go_wp2
      go_region_held3 (fun w' => w'.cell? ⟨w.heap.size, 1, none⟩ = some (.slice (some ⟨b, off, none⟩) n cl) ∧ w'.cell? ⟨w.heap.size + 1, 1, none⟩ = some (.slice (some ⟨b', off', none⟩) n cl') ∧ w'.cell? ⟨b, off + j, none⟩ = some (.slice x.ad xn x.cap) ∧ w'.cell? ⟨b', off' + j, none⟩ = some (.slice y.ad xn y.cap)) (go_keep) (first
        | (go_at_call 24; refine (hsm _ hBw.drew).mono ?_; clear hsm; rintro r w2 ⟨rfl, hN2⟩; have BW2 : Aside (Below (w.heap.size + 2) ((w.alloc (.cells #[.slice a k c, .slice (some ⟨b, off, none⟩) n cl] 26)).alloc (.cells #[.slice a' k c', .slice (some ⟨b', off', none⟩) n cl'] 26)) w2) := up2 BW.out (((Below.refl _ _).drew).trans hN2); have t0 := (hN2.cell (p := ⟨w.heap.size, 1, none⟩) hl0).trans u1; have t1 := (hN2.cell (p := ⟨w.heap.size + 1, 1, none⟩) hl1).trans v1; have t2 := (hN2.cell (p := ⟨b, off + j, none⟩) hl2).trans c0; have t3 := (hN2.cell (p := ⟨b', off' + j, none⟩) hl3).trans c1; clear hN2))
      go_wp2
      go_roundg (n - (j + 1))
      case measure => omega
      case rel => exact ⟨j + 1, by omega, by omega, by go_num, BW2.out⟩
    · obtain rfl : j = n := by omega
      have hltz : ¬ (j : Int) < (j : Int) := by omega
      go_wp2
      go_ret
      exact ⟨rfl, down2 BW.out⟩
/-- What comes of a change: it is refused, and there is nothing; or it is made, and the union is right, and the lower layers are as they were. -/
abbrev Fate (w : World) (pl : Option Addr) (n cl : Nat) (x : Int) (up : List Ent) (lo : List (List Ent)) : Prop :=
  (¬ x = 0 ∧ ∀ W y lo' pl' cl', Below w.heap.size w W → UnOK W y lo' pl' cl' → y.es = up → lo'.map (·.es) = lo → TrueC 20 #[.agg #[.slice y.ad y.es.length y.cap, .slice pl' lo'.length cl'], .agg #[.slice none 0 0, .slice none 0 0]] W) ∨
  (x = 0 ∧ (∀ W y lo' pl' cl', Below w.heap.size w W → UnOK W y lo' pl' cl' → y.es = up → lo'.map (·.es) = lo → Calls Tryz.prog 21 #[.agg #[.slice y.ad y.es.length y.cap, .slice pl' lo'.length cl']] W fun r w' => r = .returned (.agg #[.int .i64 0, .int .i64 0]) ∧ Below W.heap.size W w') ∧
    ∀ W y lo' pl' cl', Below w.heap.size w W → UnOK W y lo' pl' cl' → lo'.map (·.es) = lo → TrueC 20 #[.agg #[.slice none 0 0, .slice pl' lo'.length cl'], .agg #[.slice none 0 0, .slice pl n cl]] W)
/-- What is moved can be sorted. -/
theorem puts_sort (ms : List Ent) (hd : ms.Pairwise fun a b => a.p ≠ b.p) : (putsL [] ms).Perm ms ∧ Sorted (putsL [] ms) := by
  obtain ⟨h1, h2⟩ := puts_mem ms [] List.Pairwise.nil hd
  refine ⟨?_, h1⟩
  have hn1 : (putsL [] ms).Nodup := (sorted_distinct h1).imp fun h e => h (by rw [e])
  have hn2 : ms.Nodup := hd.imp fun h e => h (by rw [e])
  exact (List.perm_ext_iff_of_nodup hn1 hn2).2 fun x => by rw [h2 x]; simp
theorem moved_ex {t : List Ent} {frm to : ByteArray} (h : MvOK t frm to) : ∃ l : List Ent, l.Perm (movedPre t frm to) ∧ l.Pairwise fun a b => ¬ cmp b.p a.p < 0 := by
  obtain ⟨h1, h2⟩ := puts_sort _ h.distinct
  refine ⟨_, h1, h2.imp fun {a b} hab hc => ?_⟩
  exact ltE_asymm hab hc
set_option maxHeartbeats 8000000 in
set_option maxRecDepth 100000 in
theorem ulower_walk (w : World) (a : Option Addr) (k c : Nat) (pl : Option Addr) (n cl : Nat) (e : Ent) (frm to : ByteArray) (x1 x2 x3 : Int) (up1 up2 up3 : List Ent) (lo1 lo2 lo3 : List (List Ent))
    (hal : ∀ W, Below w.heap.size w W → TrueC 11 #[] W)
    (hpu : UnC w 13 #[.agg #[.slice a k c, .slice pl n cl], .agg #[.string e.path, .int .i64 e.kind, .string e.text, .bool e.opq]] x1 up1 lo1) (c1 : Fate w pl n cl x1 up1 lo1)
    (hru : UnC w 16 #[.agg #[.slice a k c, .slice pl n cl], .string frm] x2 up2 lo2) (c2 : Fate w pl n cl x2 up2 lo2)
    (hmu : UnC w 18 #[.agg #[.slice a k c, .slice pl n cl], .string frm, .string to] x3 up3 lo3) (c3 : Fate w pl n cl x3 up3 lo3) :
    TrueC 4 #[.agg #[.slice a k c, .slice pl n cl], .agg #[.string e.path, .int .i64 e.kind, .string e.text, .bool e.opq], .string frm, .string to] w := by
  obtain ⟨W0, hW0⟩ : ∃ W0, ((w.alloc (.cells #[.slice a k c, .slice pl n cl] 26)).alloc (.cells #[.string e.path, .int .i64 e.kind, .string e.text, .bool e.opq] 28)) = W0 := ⟨_, rfl⟩
  have hBw : Below w.heap.size w W0 := by rw [← hW0]; exact ((Below.refl _ _).alloc (Nat.le_refl _) _).alloc (by simp) _
  have hu := (box2 (w := w) (hW0 ▸ Below.refl (w.heap.size + 2) ((w.alloc (.cells #[.slice a k c, .slice pl n cl] 26)).alloc (.cells #[.string e.path, .int .i64 e.kind, .string e.text, .bool e.opq] 28)) : Below (w.heap.size + 2) ((w.alloc (.cells #[.slice a k c, .slice pl n cl] 26)).alloc (.cells #[.string e.path, .int .i64 e.kind, .string e.text, .bool e.opq] 28)) W0)).1
  have hee := (new4 (w := w.alloc (.cells #[.slice a k c, .slice pl n cl] 26)) (B := w.heap.size + 2) (by simp) (hW0 ▸ Below.refl (w.heap.size + 2) ((w.alloc (.cells #[.slice a k c, .slice pl n cl] 26)).alloc (.cells #[.string e.path, .int .i64 e.kind, .string e.text, .bool e.opq] 28)) : Below (w.heap.size + 2) ((w.alloc (.cells #[.slice a k c, .slice pl n cl] 26)).alloc (.cells #[.string e.path, .int .i64 e.kind, .string e.text, .bool e.opq] 28)) W0)).1
  simp only [World.size_alloc] at hee
  have HW0 : Aside (((w.alloc (.cells #[.slice a k c, .slice pl n cl] 26)).alloc (.cells #[.string e.path, .int .i64 e.kind, .string e.text, .bool e.opq] 28)) = W0) := hW0
  have HBW : Aside (Below w.heap.size w W0) := hBw
  have HUE : Aside (((W0.cell? ⟨w.heap.size, 0, none⟩ = some (.slice a k c) ∧ W0.cell? ⟨w.heap.size, 1, none⟩ = some (.slice pl n cl))) ∧ (W0.cell? ⟨w.heap.size + 1, 0, none⟩ = some (.string e.path) ∧ W0.cell? ⟨w.heap.size + 1, 1, none⟩ = some (.int .i64 e.kind) ∧ W0.cell? ⟨w.heap.size + 1, 2, none⟩ = some (.string e.text) ∧ W0.cell? ⟨w.heap.size + 1, 3, none⟩ = some (.bool e.opq))) := ⟨hu, hee⟩
  have hs0 : W0.heap.size = w.heap.size + 2 := by rw [← hW0]; simp
  have hfld := field40
  clear hu hee hBw hW0
  go_enter Tryz.func4, Tryz.ntmps4
  go_wp2_with (go_at_call 11; rw [HW0.out]; refine (hal _ HBW.out).mono ?_; clear hal; rintro r w1 ⟨rfl, hN1⟩; have HB1 : Aside (Below W0.heap.size W0 w1) := hN1; clear hN1)
  go_loopg [14] 3 (fun gg s14 wr => ∃ j : Nat, j ≤ 3 ∧ 3 - j ≤ gg ∧ s14 = .int .i64 j ∧ Aside (Below W0.heap.size W0 wr))
  case atStart => exact ⟨0, by omega, by omega, rfl, HB1.out⟩
  case round =>
    obtain ⟨j, hj, hgg, rfl, BW⟩ := hrel
    obtain ⟨⟨u0, u1⟩, ⟨e0, e1, e2, e3⟩⟩ := ue_kept HUE.out hs0 BW.out
    have U0 := Lib.cell?_alloc_some (.cells #[.slice none 0 0, .slice none 0 0] 26) u0
    have U1 := Lib.cell?_alloc_some (.cells #[.slice none 0 0, .slice none 0 0] 26) u1
    have E0 := Lib.cell?_alloc_some (.cells #[.slice none 0 0, .slice none 0 0] 26) e0
    have E1 := Lib.cell?_alloc_some (.cells #[.slice none 0 0, .slice none 0 0] 26) e1
    have E2 := Lib.cell?_alloc_some (.cells #[.slice none 0 0, .slice none 0 0] 26) e2
    have E3 := Lib.cell?_alloc_some (.cells #[.slice none 0 0, .slice none 0 0] 26) e3
    by_cases hlt : j < 3
    · rcases (by omega : j = 0 ∨ j = 1 ∨ j = 2) with rfl | rfl | rfl
      · rcases c1 with ⟨hx, hs⟩ | ⟨hx, hw, hs⟩
        · go_wp2_with (first
            | (go_at_call 13; refine (hpu _ (Below.onto HBW.out (Below.onto BW.out ((Grown.refl wr).alloc (.cells #[.slice none 0 0, .slice none 0 0] 26)).below))).mono ?_; clear hpu; rintro r w3 ⟨y3, l3, pl3, cl3, rfl, h31, h32, hok3, hN3, hnw3⟩; obtain ⟨k3, hk3⟩ : ∃ k3, k3 = y3.es.length := ⟨_, rfl⟩; obtain ⟨n3, hn3⟩ : ∃ n3, n3 = l3.length := ⟨_, rfl⟩; rw [← hk3, ← hn3]; have hs3 : (wr.alloc (.cells #[.slice none 0 0, .slice none 0 0] 26)).heap.size = wr.heap.size + 1 := World.size_alloc _ _; rw [hs3] at hN3 hnw3; obtain ⟨⟨b0, b1⟩, ⟨f0, f1⟩⟩ := new2 (Nat.lt_succ_self _) hN3; have HBZ : Aside (BoxAt ((w3.setCell ⟨wr.heap.size, 0, none⟩ (.slice y3.ad k3 y3.cap)).setCell ⟨wr.heap.size, 1, none⟩ (.slice pl3 n3 cl3)) wr.heap.size (.slice y3.ad k3 y3.cap) (.slice pl3 n3 cl3)) := box_set (new2 (Nat.lt_succ_self _) hN3) _ _; have HZ : Aside (Below wr.heap.size wr ((w3.setCell ⟨wr.heap.size, 0, none⟩ (.slice y3.ad k3 y3.cap)).setCell ⟨wr.heap.size, 1, none⟩ (.slice pl3 n3 cl3))) := ((base1 hN3).setCell (p := ⟨wr.heap.size, 0, none⟩) (Nat.le_refl _) _).setCell (p := ⟨wr.heap.size, 1, none⟩) (Nat.le_refl _) _; have HU3 : Aside (y3.es = up1 ∧ l3.map (·.es) = lo1 ∧ UnOK ((w3.setCell ⟨wr.heap.size, 0, none⟩ (.slice y3.ad k3 y3.cap)).setCell ⟨wr.heap.size, 1, none⟩ (.slice pl3 n3 cl3)) y3 l3 pl3 cl3) := ⟨h31, h32, (hok3.setFar hnw3 _ _ (Nat.lt_succ_self _)).setFar hnw3 _ _ (Nat.lt_succ_self _)⟩; have HK3 : Aside (k3 = y3.es.length ∧ n3 = l3.length) := ⟨hk3, hn3⟩; obtain ⟨⟨d0, d1⟩, _⟩ := HBZ.out; obtain ⟨⟨u0', u1'⟩, _⟩ := ue_kept HUE.out hs0 (Below.onto BW.out HZ.out); clear h31 h32 hok3 hN3 hnw3 hk3 hn3 hs3)
            | (go_at_call 20; refine (by_eq (hs _ y3 l3 pl3 cl3 (Below.onto HBW.out (Below.onto BW.out HZ.out)) HU3.out.2.2 HU3.out.1 HU3.out.2.1) (by rw [HK3.out.1, HK3.out.2])).mono ?_; clear hs; rintro r w4 ⟨rfl, hN4⟩; have HB4 : Aside (Below W0.heap.size W0 w4) := Below.onto (Below.onto BW.out HZ.out) hN4; clear hN4))
          go_roundg (3 - 1)
          case measure => omega
          case rel => exact ⟨1, by omega, by omega, rfl, HB4.out⟩
        · subst hx
          go_wp2_with (first
            | (go_at_call 13; refine (hpu _ (Below.onto HBW.out (Below.onto BW.out ((Grown.refl wr).alloc (.cells #[.slice none 0 0, .slice none 0 0] 26)).below))).mono ?_; clear hpu; rintro r w3 ⟨y3, l3, pl3, cl3, rfl, h31, h32, hok3, hN3, hnw3⟩; obtain ⟨k3, hk3⟩ : ∃ k3, k3 = y3.es.length := ⟨_, rfl⟩; obtain ⟨n3, hn3⟩ : ∃ n3, n3 = l3.length := ⟨_, rfl⟩; rw [← hk3, ← hn3]; have hs3 : (wr.alloc (.cells #[.slice none 0 0, .slice none 0 0] 26)).heap.size = wr.heap.size + 1 := World.size_alloc _ _; rw [hs3] at hN3 hnw3; obtain ⟨⟨b0, b1⟩, ⟨f0, f1⟩⟩ := new2 (Nat.lt_succ_self _) hN3; have HBZ : Aside (BoxAt ((w3.setCell ⟨wr.heap.size, 0, none⟩ (.slice y3.ad k3 y3.cap)).setCell ⟨wr.heap.size, 1, none⟩ (.slice pl3 n3 cl3)) wr.heap.size (.slice y3.ad k3 y3.cap) (.slice pl3 n3 cl3)) := box_set (new2 (Nat.lt_succ_self _) hN3) _ _; have HZ : Aside (Below wr.heap.size wr ((w3.setCell ⟨wr.heap.size, 0, none⟩ (.slice y3.ad k3 y3.cap)).setCell ⟨wr.heap.size, 1, none⟩ (.slice pl3 n3 cl3))) := ((base1 hN3).setCell (p := ⟨wr.heap.size, 0, none⟩) (Nat.le_refl _) _).setCell (p := ⟨wr.heap.size, 1, none⟩) (Nat.le_refl _) _; have HU3 : Aside (y3.es = up1 ∧ l3.map (·.es) = lo1 ∧ UnOK ((w3.setCell ⟨wr.heap.size, 0, none⟩ (.slice y3.ad k3 y3.cap)).setCell ⟨wr.heap.size, 1, none⟩ (.slice pl3 n3 cl3)) y3 l3 pl3 cl3) := ⟨h31, h32, (hok3.setFar hnw3 _ _ (Nat.lt_succ_self _)).setFar hnw3 _ _ (Nat.lt_succ_self _)⟩; have HK3 : Aside (k3 = y3.es.length ∧ n3 = l3.length) := ⟨hk3, hn3⟩; obtain ⟨⟨d0, d1⟩, _⟩ := HBZ.out; obtain ⟨⟨u0', u1'⟩, _⟩ := ue_kept HUE.out hs0 (Below.onto BW.out HZ.out); clear h31 h32 hok3 hN3 hnw3 hk3 hn3 hs3)
            | (go_at_call 21; refine (by_eq (hw _ y3 l3 pl3 cl3 (Below.onto HBW.out (Below.onto BW.out HZ.out)) HU3.out.2.2 HU3.out.1 HU3.out.2.1) (by rw [HK3.out.1, HK3.out.2])).mono ?_; clear hw; rintro r w4 ⟨rfl, hN4⟩; have HB4 : Aside (Below W0.heap.size W0 w4) := Below.onto (Below.onto BW.out HZ.out) hN4; have HU4 : Aside (UnOK w4 y3 l3 pl3 cl3) := HU3.out.2.2.kept hN4; obtain ⟨⟨d2, d3⟩, _⟩ := box_kept HBZ.out hN4; obtain ⟨⟨u2', u3'⟩, _⟩ := ue_kept HUE.out hs0 HB4.out; clear hN4)
            | (go_at_call 20; refine (by_eq (hs _ y3 l3 pl3 cl3 (Below.onto HBW.out HB4.out) HU4.out HU3.out.2.1) (by rw [HK3.out.2])).mono ?_; clear hs; rintro r w5 ⟨rfl, hN5⟩; have HB5 : Aside (Below W0.heap.size W0 w5) := Below.onto HB4.out hN5; clear hN5))
          go_roundg (3 - 1)
          case measure => omega
          case rel => exact ⟨1, by omega, by omega, rfl, HB5.out⟩
      · rcases c2 with ⟨hx, hs⟩ | ⟨hx, hw, hs⟩
        · go_wp2_with (first
            | (go_at_call 16; refine (hru _ (Below.onto HBW.out (Below.onto BW.out ((Grown.refl wr).alloc (.cells #[.slice none 0 0, .slice none 0 0] 26)).below))).mono ?_; clear hru; rintro r w3 ⟨y3, l3, pl3, cl3, rfl, h31, h32, hok3, hN3, hnw3⟩; obtain ⟨k3, hk3⟩ : ∃ k3, k3 = y3.es.length := ⟨_, rfl⟩; obtain ⟨n3, hn3⟩ : ∃ n3, n3 = l3.length := ⟨_, rfl⟩; rw [← hk3, ← hn3]; have hs3 : (wr.alloc (.cells #[.slice none 0 0, .slice none 0 0] 26)).heap.size = wr.heap.size + 1 := World.size_alloc _ _; rw [hs3] at hN3 hnw3; obtain ⟨⟨b0, b1⟩, ⟨f0, f1⟩⟩ := new2 (Nat.lt_succ_self _) hN3; have HBZ : Aside (BoxAt ((w3.setCell ⟨wr.heap.size, 0, none⟩ (.slice y3.ad k3 y3.cap)).setCell ⟨wr.heap.size, 1, none⟩ (.slice pl3 n3 cl3)) wr.heap.size (.slice y3.ad k3 y3.cap) (.slice pl3 n3 cl3)) := box_set (new2 (Nat.lt_succ_self _) hN3) _ _; have HZ : Aside (Below wr.heap.size wr ((w3.setCell ⟨wr.heap.size, 0, none⟩ (.slice y3.ad k3 y3.cap)).setCell ⟨wr.heap.size, 1, none⟩ (.slice pl3 n3 cl3))) := ((base1 hN3).setCell (p := ⟨wr.heap.size, 0, none⟩) (Nat.le_refl _) _).setCell (p := ⟨wr.heap.size, 1, none⟩) (Nat.le_refl _) _; have HU3 : Aside (y3.es = up2 ∧ l3.map (·.es) = lo2 ∧ UnOK ((w3.setCell ⟨wr.heap.size, 0, none⟩ (.slice y3.ad k3 y3.cap)).setCell ⟨wr.heap.size, 1, none⟩ (.slice pl3 n3 cl3)) y3 l3 pl3 cl3) := ⟨h31, h32, (hok3.setFar hnw3 _ _ (Nat.lt_succ_self _)).setFar hnw3 _ _ (Nat.lt_succ_self _)⟩; have HK3 : Aside (k3 = y3.es.length ∧ n3 = l3.length) := ⟨hk3, hn3⟩; obtain ⟨⟨d0, d1⟩, _⟩ := HBZ.out; obtain ⟨⟨u0', u1'⟩, _⟩ := ue_kept HUE.out hs0 (Below.onto BW.out HZ.out); clear h31 h32 hok3 hN3 hnw3 hk3 hn3 hs3)
            | (go_at_call 20; refine (by_eq (hs _ y3 l3 pl3 cl3 (Below.onto HBW.out (Below.onto BW.out HZ.out)) HU3.out.2.2 HU3.out.1 HU3.out.2.1) (by rw [HK3.out.1, HK3.out.2])).mono ?_; clear hs; rintro r w4 ⟨rfl, hN4⟩; have HB4 : Aside (Below W0.heap.size W0 w4) := Below.onto (Below.onto BW.out HZ.out) hN4; clear hN4))
          go_roundg (3 - 2)
          case measure => omega
          case rel => exact ⟨2, by omega, by omega, rfl, HB4.out⟩
        · subst hx
          go_wp2_with (first
            | (go_at_call 16; refine (hru _ (Below.onto HBW.out (Below.onto BW.out ((Grown.refl wr).alloc (.cells #[.slice none 0 0, .slice none 0 0] 26)).below))).mono ?_; clear hru; rintro r w3 ⟨y3, l3, pl3, cl3, rfl, h31, h32, hok3, hN3, hnw3⟩; obtain ⟨k3, hk3⟩ : ∃ k3, k3 = y3.es.length := ⟨_, rfl⟩; obtain ⟨n3, hn3⟩ : ∃ n3, n3 = l3.length := ⟨_, rfl⟩; rw [← hk3, ← hn3]; have hs3 : (wr.alloc (.cells #[.slice none 0 0, .slice none 0 0] 26)).heap.size = wr.heap.size + 1 := World.size_alloc _ _; rw [hs3] at hN3 hnw3; obtain ⟨⟨b0, b1⟩, ⟨f0, f1⟩⟩ := new2 (Nat.lt_succ_self _) hN3; have HBZ : Aside (BoxAt ((w3.setCell ⟨wr.heap.size, 0, none⟩ (.slice y3.ad k3 y3.cap)).setCell ⟨wr.heap.size, 1, none⟩ (.slice pl3 n3 cl3)) wr.heap.size (.slice y3.ad k3 y3.cap) (.slice pl3 n3 cl3)) := box_set (new2 (Nat.lt_succ_self _) hN3) _ _; have HZ : Aside (Below wr.heap.size wr ((w3.setCell ⟨wr.heap.size, 0, none⟩ (.slice y3.ad k3 y3.cap)).setCell ⟨wr.heap.size, 1, none⟩ (.slice pl3 n3 cl3))) := ((base1 hN3).setCell (p := ⟨wr.heap.size, 0, none⟩) (Nat.le_refl _) _).setCell (p := ⟨wr.heap.size, 1, none⟩) (Nat.le_refl _) _; have HU3 : Aside (y3.es = up2 ∧ l3.map (·.es) = lo2 ∧ UnOK ((w3.setCell ⟨wr.heap.size, 0, none⟩ (.slice y3.ad k3 y3.cap)).setCell ⟨wr.heap.size, 1, none⟩ (.slice pl3 n3 cl3)) y3 l3 pl3 cl3) := ⟨h31, h32, (hok3.setFar hnw3 _ _ (Nat.lt_succ_self _)).setFar hnw3 _ _ (Nat.lt_succ_self _)⟩; have HK3 : Aside (k3 = y3.es.length ∧ n3 = l3.length) := ⟨hk3, hn3⟩; obtain ⟨⟨d0, d1⟩, _⟩ := HBZ.out; obtain ⟨⟨u0', u1'⟩, _⟩ := ue_kept HUE.out hs0 (Below.onto BW.out HZ.out); clear h31 h32 hok3 hN3 hnw3 hk3 hn3 hs3)
            | (go_at_call 21; refine (by_eq (hw _ y3 l3 pl3 cl3 (Below.onto HBW.out (Below.onto BW.out HZ.out)) HU3.out.2.2 HU3.out.1 HU3.out.2.1) (by rw [HK3.out.1, HK3.out.2])).mono ?_; clear hw; rintro r w4 ⟨rfl, hN4⟩; have HB4 : Aside (Below W0.heap.size W0 w4) := Below.onto (Below.onto BW.out HZ.out) hN4; have HU4 : Aside (UnOK w4 y3 l3 pl3 cl3) := HU3.out.2.2.kept hN4; obtain ⟨⟨d2, d3⟩, _⟩ := box_kept HBZ.out hN4; obtain ⟨⟨u2', u3'⟩, _⟩ := ue_kept HUE.out hs0 HB4.out; clear hN4)
            | (go_at_call 20; refine (by_eq (hs _ y3 l3 pl3 cl3 (Below.onto HBW.out HB4.out) HU4.out HU3.out.2.1) (by rw [HK3.out.2])).mono ?_; clear hs; rintro r w5 ⟨rfl, hN5⟩; have HB5 : Aside (Below W0.heap.size W0 w5) := Below.onto HB4.out hN5; clear hN5))
          go_roundg (3 - 2)
          case measure => omega
          case rel => exact ⟨2, by omega, by omega, rfl, HB5.out⟩
      · rcases c3 with ⟨hx, hs⟩ | ⟨hx, hw, hs⟩
        · go_wp2_with (first
            | (go_at_call 18; refine (hmu _ (Below.onto HBW.out (Below.onto BW.out ((Grown.refl wr).alloc (.cells #[.slice none 0 0, .slice none 0 0] 26)).below))).mono ?_; clear hmu; rintro r w3 ⟨y3, l3, pl3, cl3, rfl, h31, h32, hok3, hN3, hnw3⟩; obtain ⟨k3, hk3⟩ : ∃ k3, k3 = y3.es.length := ⟨_, rfl⟩; obtain ⟨n3, hn3⟩ : ∃ n3, n3 = l3.length := ⟨_, rfl⟩; rw [← hk3, ← hn3]; have hs3 : (wr.alloc (.cells #[.slice none 0 0, .slice none 0 0] 26)).heap.size = wr.heap.size + 1 := World.size_alloc _ _; rw [hs3] at hN3 hnw3; obtain ⟨⟨b0, b1⟩, ⟨f0, f1⟩⟩ := new2 (Nat.lt_succ_self _) hN3; have HBZ : Aside (BoxAt ((w3.setCell ⟨wr.heap.size, 0, none⟩ (.slice y3.ad k3 y3.cap)).setCell ⟨wr.heap.size, 1, none⟩ (.slice pl3 n3 cl3)) wr.heap.size (.slice y3.ad k3 y3.cap) (.slice pl3 n3 cl3)) := box_set (new2 (Nat.lt_succ_self _) hN3) _ _; have HZ : Aside (Below wr.heap.size wr ((w3.setCell ⟨wr.heap.size, 0, none⟩ (.slice y3.ad k3 y3.cap)).setCell ⟨wr.heap.size, 1, none⟩ (.slice pl3 n3 cl3))) := ((base1 hN3).setCell (p := ⟨wr.heap.size, 0, none⟩) (Nat.le_refl _) _).setCell (p := ⟨wr.heap.size, 1, none⟩) (Nat.le_refl _) _; have HU3 : Aside (y3.es = up3 ∧ l3.map (·.es) = lo3 ∧ UnOK ((w3.setCell ⟨wr.heap.size, 0, none⟩ (.slice y3.ad k3 y3.cap)).setCell ⟨wr.heap.size, 1, none⟩ (.slice pl3 n3 cl3)) y3 l3 pl3 cl3) := ⟨h31, h32, (hok3.setFar hnw3 _ _ (Nat.lt_succ_self _)).setFar hnw3 _ _ (Nat.lt_succ_self _)⟩; have HK3 : Aside (k3 = y3.es.length ∧ n3 = l3.length) := ⟨hk3, hn3⟩; obtain ⟨⟨d0, d1⟩, _⟩ := HBZ.out; obtain ⟨⟨u0', u1'⟩, _⟩ := ue_kept HUE.out hs0 (Below.onto BW.out HZ.out); clear h31 h32 hok3 hN3 hnw3 hk3 hn3 hs3)
            | (go_at_call 20; refine (by_eq (hs _ y3 l3 pl3 cl3 (Below.onto HBW.out (Below.onto BW.out HZ.out)) HU3.out.2.2 HU3.out.1 HU3.out.2.1) (by rw [HK3.out.1, HK3.out.2])).mono ?_; clear hs; rintro r w4 ⟨rfl, hN4⟩; have HB4 : Aside (Below W0.heap.size W0 w4) := Below.onto (Below.onto BW.out HZ.out) hN4; clear hN4))
          go_roundg (3 - 3)
          case measure => omega
          case rel => exact ⟨3, by omega, by omega, rfl, HB4.out⟩
        · subst hx
          go_wp2_with (first
            | (go_at_call 18; refine (hmu _ (Below.onto HBW.out (Below.onto BW.out ((Grown.refl wr).alloc (.cells #[.slice none 0 0, .slice none 0 0] 26)).below))).mono ?_; clear hmu; rintro r w3 ⟨y3, l3, pl3, cl3, rfl, h31, h32, hok3, hN3, hnw3⟩; obtain ⟨k3, hk3⟩ : ∃ k3, k3 = y3.es.length := ⟨_, rfl⟩; obtain ⟨n3, hn3⟩ : ∃ n3, n3 = l3.length := ⟨_, rfl⟩; rw [← hk3, ← hn3]; have hs3 : (wr.alloc (.cells #[.slice none 0 0, .slice none 0 0] 26)).heap.size = wr.heap.size + 1 := World.size_alloc _ _; rw [hs3] at hN3 hnw3; obtain ⟨⟨b0, b1⟩, ⟨f0, f1⟩⟩ := new2 (Nat.lt_succ_self _) hN3; have HBZ : Aside (BoxAt ((w3.setCell ⟨wr.heap.size, 0, none⟩ (.slice y3.ad k3 y3.cap)).setCell ⟨wr.heap.size, 1, none⟩ (.slice pl3 n3 cl3)) wr.heap.size (.slice y3.ad k3 y3.cap) (.slice pl3 n3 cl3)) := box_set (new2 (Nat.lt_succ_self _) hN3) _ _; have HZ : Aside (Below wr.heap.size wr ((w3.setCell ⟨wr.heap.size, 0, none⟩ (.slice y3.ad k3 y3.cap)).setCell ⟨wr.heap.size, 1, none⟩ (.slice pl3 n3 cl3))) := ((base1 hN3).setCell (p := ⟨wr.heap.size, 0, none⟩) (Nat.le_refl _) _).setCell (p := ⟨wr.heap.size, 1, none⟩) (Nat.le_refl _) _; have HU3 : Aside (y3.es = up3 ∧ l3.map (·.es) = lo3 ∧ UnOK ((w3.setCell ⟨wr.heap.size, 0, none⟩ (.slice y3.ad k3 y3.cap)).setCell ⟨wr.heap.size, 1, none⟩ (.slice pl3 n3 cl3)) y3 l3 pl3 cl3) := ⟨h31, h32, (hok3.setFar hnw3 _ _ (Nat.lt_succ_self _)).setFar hnw3 _ _ (Nat.lt_succ_self _)⟩; have HK3 : Aside (k3 = y3.es.length ∧ n3 = l3.length) := ⟨hk3, hn3⟩; obtain ⟨⟨d0, d1⟩, _⟩ := HBZ.out; obtain ⟨⟨u0', u1'⟩, _⟩ := ue_kept HUE.out hs0 (Below.onto BW.out HZ.out); clear h31 h32 hok3 hN3 hnw3 hk3 hn3 hs3)
            | (go_at_call 21; refine (by_eq (hw _ y3 l3 pl3 cl3 (Below.onto HBW.out (Below.onto BW.out HZ.out)) HU3.out.2.2 HU3.out.1 HU3.out.2.1) (by rw [HK3.out.1, HK3.out.2])).mono ?_; clear hw; rintro r w4 ⟨rfl, hN4⟩; have HB4 : Aside (Below W0.heap.size W0 w4) := Below.onto (Below.onto BW.out HZ.out) hN4; have HU4 : Aside (UnOK w4 y3 l3 pl3 cl3) := HU3.out.2.2.kept hN4; obtain ⟨⟨d2, d3⟩, _⟩ := box_kept HBZ.out hN4; obtain ⟨⟨u2', u3'⟩, _⟩ := ue_kept HUE.out hs0 HB4.out; clear hN4)
            | (go_at_call 20; refine (by_eq (hs _ y3 l3 pl3 cl3 (Below.onto HBW.out HB4.out) HU4.out HU3.out.2.1) (by rw [HK3.out.2])).mono ?_; clear hs; rintro r w5 ⟨rfl, hN5⟩; have HB5 : Aside (Below W0.heap.size W0 w5) := Below.onto HB4.out hN5; clear hN5))
          go_roundg (3 - 3)
          case measure => omega
          case rel => exact ⟨3, by omega, by omega, rfl, HB5.out⟩
    · obtain rfl : j = 3 := by omega
      go_wp2
      go_ret
      exact ⟨rfl, Below.onto HBW.out BW.out⟩
theorem fate_any (y : Lay) (ls : List Lay) (m : Int) (pl : Option Addr) (cl : Nat) (w : World) (hUn : UnOK w y ls pl cl) (hm : w.cell? ⟨0, 0, none⟩ = some (.int .i64 m)) (ae : Int) (own' : List Ent)
    (h : (wrongU (y.es :: ls.map (·.es))).1 = 0 → ae = 0 → own'.length ≤ 80 → ls.length ≤ 4 ∧ ∃ t, mergeF (own' :: ls.map (·.es)) = (0, t)) :
    Fate w pl ls.length cl (chgErr (wrongU (y.es :: ls.map (·.es))).1 ae own'.length) (if chgErr (wrongU (y.es :: ls.map (·.es))).1 ae own'.length = 0 then own' else []) (if chgErr (wrongU (y.es :: ls.map (·.es))).1 ae own'.length = 0 then ls.map (·.es) else []) := by
  by_cases h0 : chgErr (wrongU (y.es :: ls.map (·.es))).1 ae own'.length = 0
  · obtain ⟨h1, h2, h3⟩ := chgErr_zero.1 h0
    obtain ⟨hl4, t, hmg⟩ := h h1 h2 h3
    obtain ⟨e1, _⟩ := union_right (by rw [List.length_cons, List.length_map]; omega) hmg
    rw [if_pos h0, if_pos h0]
    refine .inr ⟨h0, fun W y' lo' pl' cl' hB hU g1 g2 => ?_, fun W y' lo' pl' cl' hB hU g2 => ?_⟩
    · refine unionWrong_of W y'.ad y'.es.length y'.cap pl' lo'.length cl' 0 0 (seenU (own' :: ls.map (·.es))) (fun X hX => ?_)
      have hk := hU.kept hX
      have := merged_any y' lo' m pl' cl' X hk.lies hk.all hk.nil (held (Below.onto hB hX) hm)
      rw [List.map_cons, g1, g2, e1] at this
      rw [g1]
      exact this
    · have hk := hUn.kept hB
      exact sameUnion_any [] (ls.map (·.es)) none none 0 0 lo' ls pl' pl cl' cl W (Lies.nil _ _) (Lies.nil _ _) (by decide) hU.lies hk.lies (fun x hx => (hU.each x hx).1) (fun x hx => (hk.each x hx).1) g2 rfl (by rw [List.length_map]; omega)
  · rw [if_neg h0, if_neg h0]
    refine .inl ⟨h0, fun W y' lo' pl' cl' hB hU g1 g2 => ?_⟩
    have := sameUnion_any [] [] y'.ad none y'.cap 0 lo' [] pl' none cl' 0 W (g1 ▸ hU.up.lies) (Lies.nil _ _) (by decide) hU.lies (.inl rfl) (fun x hx => (hU.each x hx).1) (fun x hx => by simp at hx) g2 rfl (by simp)
    rw [g1]
    exact this
theorem unionLower_law (y : Lay) (ls : List Lay) (m : Int) (pl : Option Addr) (cl : Nat) (e : Ent) (frm to : ByteArray) (w : World) (hUn : UnOK w y ls pl cl) (he : e.path.size ≤ maxLen) (he62 : e.path.size < 4611686018427387904) (het : e.text.size ≤ maxLen) (hf : frm.size ≤ maxLen) (ht : to.size ≤ maxLen)
    (hm : w.cell? ⟨0, 0, none⟩ = some (.int .i64 m)) :
    TrueC 4 #[.agg #[.slice y.ad y.es.length y.cap, .slice pl ls.length cl], .agg #[.string e.path, .int .i64 e.kind, .string e.text, .bool e.opq], .string frm, .string to] w := by
  have hal : ∀ W, Below w.heap.size w W → TrueC 11 #[] W := fun W hB => unionAlive_any m W (held hB hm)
  have key : (wrongU (y.es :: ls.map (·.es))).1 = 0 → ls.length ≤ 4 ∧ mergeF (y.es :: ls.map (·.es)) = (0, seenU (y.es :: ls.map (·.es))) := fun h0 => by
    obtain ⟨hl5, hz, hr⟩ := wrongU_zero.1 h0
    rw [List.length_cons, List.length_map] at hl5
    have hs : seenU (y.es :: ls.map (·.es)) = (mergeF (y.es :: ls.map (·.es))).2 := by rw [seenU, if_pos h0]
    exact ⟨by omega, by rw [hs]; exact Prod.ext hz rfl⟩
  refine ulower_walk w y.ad y.es.length y.cap pl ls.length cl e frm to _ _ _ _ _ _ _ _ _ hal
    (fun W hB => unionPut_any y ls m pl cl e he he62 het W (hUn.kept hB) (held hB hm)) (fate_any y ls m pl cl w hUn hm _ _ (fun h0 ha hl => ?_))
    (fun W hB => unionRemove_any y ls m pl cl frm hf W (hUn.kept hB) (held hB hm)) (fate_any y ls m pl cl w hUn hm _ _ (fun h0 ha hl => ?_))
    (fun W hB => unionMove_any y ls m pl cl frm to hf ht W (hUn.kept hB) (held hB hm)) (fate_any y ls m pl cl w hUn hm _ _ (fun h0 ha hl => ?_))
  · obtain ⟨h4, hmg⟩ := key h0
    exact ⟨h4, _, (put_union hmg ha).2 hl⟩
  · obtain ⟨h4, hmg⟩ := key h0
    exact ⟨h4, _, (remove_union hmg ha).2 hl⟩
  · obtain ⟨h4, hmg⟩ := key h0
    refine ⟨h4, ?_⟩
    by_cases hft : frm.data.toList = to.data.toList
    · rw [if_pos hft]
      exact ⟨_, hmg⟩
    · rw [if_neg hft] at hl ⊢
      obtain ⟨l, q1, q2⟩ := moved_ex (mvOK_of ha hft)
      exact ⟨l, (move_union hmg ha hft).2 hl l q1 q2⟩
end Go.Proofs.YtampldoimpfjgabGreatDoor
