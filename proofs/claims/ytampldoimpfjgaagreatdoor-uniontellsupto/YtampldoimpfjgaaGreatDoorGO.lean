/-
  The document's own PutUnion, way by way.
-/
import Derived.Test.YtampldoimpfjgaaGreatDoorGN
namespace Go.Proofs.YtampldoimpfjgaaGreatDoor
open Go.RowKit PM Go.Sort
set_option linter.unusedVariables false

def ErrU (er : Int) (w : World) (r : Ending) (w' : World) : Prop := r = .returned (.tuple #[.agg #[.slice none 0 0, .slice none 0 0], .int .i64 er]) ∧ Below w.heap.size w w'
def OkU (h0 : Nat) (up : List Ent) (pl : Option Addr) (n cl : Nat) (w : World) (r : Ending) (w' : World) : Prop := ∃ p c, r = .returned (.tuple #[.agg #[.slice p up.length c, .slice pl n cl], .int .i64 0]) ∧ Lies w' p up ∧ (up = [] ∨ ∀ b off s, p = some ⟨b, off, s⟩ → b < h0 ∨ w.heap.size ≤ b) ∧ Below w.heap.size w w'
abbrev RSn (w : World) (u : Value) (er : Int) (sl : List Ent) : Prop := ∀ W, Below w.heap.size w W → Calls Tryz.prog 5 #[u] W (TreePost er sl W)
abbrev RPt (w : World) (ev : Value) (sl : List Ent) (ae : Int) : Prop := ∀ W p c n, n = sl.length → Below w.heap.size w W → Lies W p sl → n ≤ c → Calls Tryz.prog 32 #[.slice p n c, ev] W fun r w' => (∃ v, r = .returned (.tuple #[v, .int .i64 ae])) ∧ Below W.heap.size W w'
abbrev RSu (w : World) (a : Option Addr) (k c : Nat) (ev : Value) (own' : List Ent) : Prop := ∀ W, Below w.heap.size w W → Calls Tryz.prog 34 #[.slice a k c, ev] W (RowsPost own' W)
theorem up3 {w W W2 : World} {o o2 o3 : Obj} (h : Below (w.heap.size + 3) (((w.alloc o).alloc o2).alloc o3) W) (g : Below W.heap.size W W2) : Below (w.heap.size + 3) (((w.alloc o).alloc o2).alloc o3) W2 := h.trans (g.mono (by have := h.size; simpa using this))
theorem down3 {w W : World} {o o2 o3 : Obj} (h : Below (w.heap.size + 3) (((w.alloc o).alloc o2).alloc o3) W) : Below w.heap.size w W := ((((Below.refl _ _).alloc (Nat.le_refl _) _).alloc (by simp) _).alloc (by simp; omega) _).trans (h.mono (by omega))
theorem three {w W : World} {u0 u1 e0 e1 e2 e3 r0 r1 : Value} {t1 t2 t3 : TypeId} (h : Below (w.heap.size + 3) (((w.alloc (.cells #[u0, u1] t1)).alloc (.cells #[e0, e1, e2, e3] t2)).alloc (.cells #[r0, r1] t3)) W) :
    (W.cell? ⟨w.heap.size, 0, none⟩ = some u0 ∧ W.cell? ⟨w.heap.size, 1, none⟩ = some u1) ∧ (W.cell? ⟨w.heap.size + 1, 0, none⟩ = some e0 ∧ W.cell? ⟨w.heap.size + 1, 1, none⟩ = some e1 ∧ W.cell? ⟨w.heap.size + 1, 2, none⟩ = some e2 ∧ W.cell? ⟨w.heap.size + 1, 3, none⟩ = some e3) ∧
    (W.cell? ⟨w.heap.size + 2, 0, none⟩ = some r0 ∧ W.cell? ⟨w.heap.size + 2, 1, none⟩ = some r1) ∧ (W.frozen? ⟨w.heap.size + 2, 0, none⟩ = false ∧ W.frozen? ⟨w.heap.size + 2, 1, none⟩ = false) ∧ w.heap.size + 2 < W.heap.size := by
  have h1 := new2 (w := (w.alloc (.cells #[u0, u1] t1)).alloc (.cells #[e0, e1, e2, e3] t2)) (B := w.heap.size + 3) (by simp) h
  have hA : Below (w.heap.size + 2) ((w.alloc (.cells #[u0, u1] t1)).alloc (.cells #[e0, e1, e2, e3] t2)) W := ((Below.refl _ _).alloc (by simp) _).trans (h.mono (by omega))
  have h2 := new4 (w := w.alloc (.cells #[u0, u1] t1)) (B := w.heap.size + 2) (by simp) hA
  have hB : Below (w.heap.size + 1) (w.alloc (.cells #[u0, u1] t1)) W := ((Below.refl _ _).alloc (by simp) _).trans (hA.mono (by omega))
  have h3 := new2 (w := w) (B := w.heap.size + 1) (by omega) hB
  have hs := h.size
  simp at h1 h2 h3 hs
  exact ⟨h3.1, h2.1, h1.1, h1.2, by omega⟩
theorem store3 {w W : World} {o o2 o3 : Obj} (h : Below (w.heap.size + 3) (((w.alloc o).alloc o2).alloc o3) W) (a b : Value) : Below w.heap.size w ((W.setCell ⟨w.heap.size + 2, 0, none⟩ a).setCell ⟨w.heap.size + 2, 1, none⟩ b) :=
  ((down3 h).setCell (p := ⟨w.heap.size + 2, 0, none⟩) (by simp) _).setCell (p := ⟨w.heap.size + 2, 1, none⟩) (by simp) _
set_option maxHeartbeats 1000000 in
set_option maxRecDepth 100000 in
theorem pu_1 (h0 : Nat) (a : Option Addr) (k c : Nat) (pl : Option Addr) (n cl : Nat) (e : Ent) (w : World) (sl own' : List Ent) (er : Int) (he : ¬ er = 0) (hsn : RSn w (.agg #[.slice a k c, .slice pl n cl]) er sl) :
    Calls Tryz.prog 12 #[.agg #[.slice a k c, .slice pl n cl], .agg #[.string e.path, .int .i64 e.kind, .string e.text, .bool e.opq]] w (ErrU er w) := by
  have I : Below (w.heap.size + 3) (((w.alloc (.cells #[.slice a k c, .slice pl n cl] 26)).alloc (.cells #[.string e.path, .int .i64 e.kind, .string e.text, .bool e.opq] 28)).alloc (.cells #[.slice none 0 0, .slice none 0 0] 26)) (((w.alloc (.cells #[.slice a k c, .slice pl n cl] 26)).alloc (.cells #[.string e.path, .int .i64 e.kind, .string e.text, .bool e.opq] 28)).alloc (.cells #[.slice none 0 0, .slice none 0 0] 26)) := Below.refl _ _
  go_enter Tryz.func12, Tryz.ntmps12
  go_wp2_with (first
    | (go_at_call 5; refine (hsn _ (down3 I)).mono ?_; clear hsn; rintro rr w1 ⟨p1, c1, rfl, hL1, hc1, hn1, hN1⟩; replace I := up3 I hN1; have HL1 : Aside (Lies w1 p1 sl) := hL1; clear hL1 hN1 hn1; obtain ⟨sn, hsn2⟩ : ∃ sn, sn = sl.length := ⟨_, rfl⟩; have HSN : Aside (sn = sl.length) := hsn2; rw [← hsn2] at hc1 ⊢; clear hsn2; obtain ⟨⟨u0, u1⟩, ⟨e0, e1, e2, e3⟩, ⟨r0, r1⟩, ⟨g0, g1⟩, hlt⟩ := three I))
  refine bodyPost_ret (v := .tuple #[.agg #[.slice none 0 0, .slice none 0 0], .int .i64 er]) (by simp [results, Tryz.results12, go_sem, r0, r1]) rfl ?_
  exact ⟨rfl, store3 I _ _⟩
set_option maxHeartbeats 1000000 in
set_option maxRecDepth 100000 in
theorem pu_2 (h0 : Nat) (a : Option Addr) (k c : Nat) (pl : Option Addr) (n cl : Nat) (e : Ent) (w : World) (sl own' : List Ent) (hsn : RSn w (.agg #[.slice a k c, .slice pl n cl]) 0 sl) (ae : Int) (ha : ¬ ae = 0) (hpt : RPt w (.agg #[.string e.path, .int .i64 e.kind, .string e.text, .bool e.opq]) sl ae) :
    Calls Tryz.prog 12 #[.agg #[.slice a k c, .slice pl n cl], .agg #[.string e.path, .int .i64 e.kind, .string e.text, .bool e.opq]] w (ErrU ae w) := by
  have I : Below (w.heap.size + 3) (((w.alloc (.cells #[.slice a k c, .slice pl n cl] 26)).alloc (.cells #[.string e.path, .int .i64 e.kind, .string e.text, .bool e.opq] 28)).alloc (.cells #[.slice none 0 0, .slice none 0 0] 26)) (((w.alloc (.cells #[.slice a k c, .slice pl n cl] 26)).alloc (.cells #[.string e.path, .int .i64 e.kind, .string e.text, .bool e.opq] 28)).alloc (.cells #[.slice none 0 0, .slice none 0 0] 26)) := Below.refl _ _
  go_enter Tryz.func12, Tryz.ntmps12
  go_wp2_with (first
    | (go_at_call 5; refine (hsn _ (down3 I)).mono ?_; clear hsn; rintro rr w1 ⟨p1, c1, rfl, hL1, hc1, hn1, hN1⟩; replace I := up3 I hN1; have HL1 : Aside (Lies w1 p1 sl) := hL1; clear hL1 hN1 hn1; obtain ⟨sn, hsn2⟩ : ∃ sn, sn = sl.length := ⟨_, rfl⟩; have HSN : Aside (sn = sl.length) := hsn2; rw [← hsn2] at hc1 ⊢; clear hsn2; obtain ⟨⟨u0, u1⟩, ⟨e0, e1, e2, e3⟩, ⟨r0, r1⟩, ⟨g0, g1⟩, hlt⟩ := three I)
    | (go_at_call 32; refine (hpt _ p1 c1 sn HSN.out (down3 I) HL1.out hc1).mono ?_; clear hpt; rintro rr w2 ⟨⟨v2, rfl⟩, hN2⟩; replace I := up3 I hN2; clear hN2; clear u0 u1 e0 e1 e2 e3 r0 r1 g0 g1 hlt; obtain ⟨⟨u0, u1⟩, ⟨e0, e1, e2, e3⟩, ⟨r0, r1⟩, ⟨g0, g1⟩, hlt⟩ := three I))
  refine bodyPost_ret (v := .tuple #[.agg #[.slice none 0 0, .slice none 0 0], .int .i64 ae]) (by simp [results, Tryz.results12, go_sem, r0, r1]) rfl ?_
  exact ⟨rfl, store3 I _ _⟩
set_option maxHeartbeats 1000000 in
set_option maxRecDepth 100000 in
theorem pu_3 (h0 : Nat) (a : Option Addr) (k c : Nat) (pl : Option Addr) (n cl : Nat) (e : Ent) (w : World) (sl own' : List Ent) (hsn : RSn w (.agg #[.slice a k c, .slice pl n cl]) 0 sl) (hpt : RPt w (.agg #[.string e.path, .int .i64 e.kind, .string e.text, .bool e.opq]) sl 0) (hsu : RSu w a k c (.agg #[.string e.path, .int .i64 e.kind, .string e.text, .bool e.opq]) own') (h80 : 80 < own'.length) :
    Calls Tryz.prog 12 #[.agg #[.slice a k c, .slice pl n cl], .agg #[.string e.path, .int .i64 e.kind, .string e.text, .bool e.opq]] w (ErrU 5 w) := by
  have I : Below (w.heap.size + 3) (((w.alloc (.cells #[.slice a k c, .slice pl n cl] 26)).alloc (.cells #[.string e.path, .int .i64 e.kind, .string e.text, .bool e.opq] 28)).alloc (.cells #[.slice none 0 0, .slice none 0 0] 26)) (((w.alloc (.cells #[.slice a k c, .slice pl n cl] 26)).alloc (.cells #[.string e.path, .int .i64 e.kind, .string e.text, .bool e.opq] 28)).alloc (.cells #[.slice none 0 0, .slice none 0 0] 26)) := Below.refl _ _
  obtain ⟨on, hon⟩ : ∃ on, on = own'.length := ⟨_, rfl⟩
  have HON : Aside (on = own'.length) := hon
  rw [← hon] at h80
  clear hon
  go_enter Tryz.func12, Tryz.ntmps12
  go_wp2_with (first
    | (go_at_call 5; refine (hsn _ (down3 I)).mono ?_; clear hsn; rintro rr w1 ⟨p1, c1, rfl, hL1, hc1, hn1, hN1⟩; replace I := up3 I hN1; have HL1 : Aside (Lies w1 p1 sl) := hL1; clear hL1 hN1 hn1; obtain ⟨sn, hsn2⟩ : ∃ sn, sn = sl.length := ⟨_, rfl⟩; have HSN : Aside (sn = sl.length) := hsn2; rw [← hsn2] at hc1 ⊢; clear hsn2; obtain ⟨⟨u0, u1⟩, ⟨e0, e1, e2, e3⟩, ⟨r0, r1⟩, ⟨g0, g1⟩, hlt⟩ := three I)
    | (go_at_call 32; refine (hpt _ p1 c1 sn HSN.out (down3 I) HL1.out hc1).mono ?_; clear hpt; rintro rr w2 ⟨⟨v2, rfl⟩, hN2⟩; replace I := up3 I hN2; clear hN2; clear u0 u1 e0 e1 e2 e3 r0 r1 g0 g1 hlt; obtain ⟨⟨u0, u1⟩, ⟨e0, e1, e2, e3⟩, ⟨r0, r1⟩, ⟨g0, g1⟩, hlt⟩ := three I))
  have hs2 : ¬ (w.heap.size + 1 + 1 = w.heap.size) := by omega
  have hs3 : ¬ (w.heap.size = w.heap.size + 1 + 1) := by omega
  go_region_held3 (fun w' => w'.cell? ⟨w.heap.size, 0, none⟩ = some (.slice a k c) ∧ w'.cell? ⟨w.heap.size, 1, none⟩ = some (.slice pl n cl) ∧ w'.cell? ⟨w.heap.size + 1, 0, none⟩ = some (.string e.path) ∧ w'.cell? ⟨w.heap.size + 1, 1, none⟩ = some (.int .i64 e.kind) ∧ w'.cell? ⟨w.heap.size + 1, 2, none⟩ = some (.string e.text) ∧ w'.cell? ⟨w.heap.size + 1, 3, none⟩ = some (.bool e.opq)) (go_keep) (first
    | (go_at_call 34; refine (hsu _ (down3 (up3 I (Below.refl _ _).drew))).mono ?_; clear hsu; intro rr w3 hP3; obtain ⟨p3, c3, rfl, HL3, HB3⟩ := rows_parts HON.out hP3; clear hP3; have HFR : Aside (∀ b off s, p3 = some ⟨b, off, s⟩ → w.heap.size + 2 < b) := (fun b off s h => by have := HL3.out.2 b off s h; have h2 : w2.drew.heap.size = w2.heap.size := rfl; omega); have I3 := up3 (up3 I (Below.refl _ _).drew) HB3.out; clear u0 u1 e0 e1 e2 e3 r0 r1 g0 g1 hlt; clear I; have I := I3; clear I3; obtain ⟨⟨u0, u1⟩, ⟨e0, e1, e2, e3⟩, ⟨r0, r1⟩, ⟨g0, g1⟩, hlt⟩ := three I)
    | (go_at_call 33; refine (refDone_many a k c pl n cl p3 on c3 _ h80).mono ?_; rintro rr w4 ⟨rfl, hN4⟩; have HL4 : Aside (Lies w4 p3 own') := HL3.out.1.kept hN4; have I4 := up3 I hN4; clear hN4; clear u0 u1 e0 e1 e2 e3 r0 r1 g0 g1 hlt; clear I; have I := I4; clear I4; obtain ⟨⟨u0, u1⟩, ⟨e0, e1, e2, e3⟩, ⟨r0, r1⟩, ⟨g0, g1⟩, hlt⟩ := three I))
  go_wp2
  refine bodyPost_ret (v := .tuple #[.agg #[.slice none 0 0, .slice none 0 0], .int .i64 5]) (by simp [results, Tryz.results12, go_sem, r0, r1]) rfl ?_
  exact ⟨rfl, store3 I _ _⟩
set_option maxHeartbeats 1000000 in
set_option maxRecDepth 100000 in
theorem pu_4 (h0 : Nat) (a : Option Addr) (k c : Nat) (pl : Option Addr) (n cl : Nat) (e : Ent) (w : World) (sl own' : List Ent) (hsn : RSn w (.agg #[.slice a k c, .slice pl n cl]) 0 sl) (hpt : RPt w (.agg #[.string e.path, .int .i64 e.kind, .string e.text, .bool e.opq]) sl 0) (hsu : RSu w a k c (.agg #[.string e.path, .int .i64 e.kind, .string e.text, .bool e.opq]) own') (h80 : own'.length ≤ 80) :
    Calls Tryz.prog 12 #[.agg #[.slice a k c, .slice pl n cl], .agg #[.string e.path, .int .i64 e.kind, .string e.text, .bool e.opq]] w (OkU h0 own' pl n cl w) := by
  have I : Below (w.heap.size + 3) (((w.alloc (.cells #[.slice a k c, .slice pl n cl] 26)).alloc (.cells #[.string e.path, .int .i64 e.kind, .string e.text, .bool e.opq] 28)).alloc (.cells #[.slice none 0 0, .slice none 0 0] 26)) (((w.alloc (.cells #[.slice a k c, .slice pl n cl] 26)).alloc (.cells #[.string e.path, .int .i64 e.kind, .string e.text, .bool e.opq] 28)).alloc (.cells #[.slice none 0 0, .slice none 0 0] 26)) := Below.refl _ _
  obtain ⟨on, hon⟩ : ∃ on, on = own'.length := ⟨_, rfl⟩
  have HON : Aside (on = own'.length) := hon
  rw [← hon] at h80
  clear hon
  go_enter Tryz.func12, Tryz.ntmps12
  go_wp2_with (first
    | (go_at_call 5; refine (hsn _ (down3 I)).mono ?_; clear hsn; rintro rr w1 ⟨p1, c1, rfl, hL1, hc1, hn1, hN1⟩; replace I := up3 I hN1; have HL1 : Aside (Lies w1 p1 sl) := hL1; clear hL1 hN1 hn1; obtain ⟨sn, hsn2⟩ : ∃ sn, sn = sl.length := ⟨_, rfl⟩; have HSN : Aside (sn = sl.length) := hsn2; rw [← hsn2] at hc1 ⊢; clear hsn2; obtain ⟨⟨u0, u1⟩, ⟨e0, e1, e2, e3⟩, ⟨r0, r1⟩, ⟨g0, g1⟩, hlt⟩ := three I)
    | (go_at_call 32; refine (hpt _ p1 c1 sn HSN.out (down3 I) HL1.out hc1).mono ?_; clear hpt; rintro rr w2 ⟨⟨v2, rfl⟩, hN2⟩; replace I := up3 I hN2; clear hN2; clear u0 u1 e0 e1 e2 e3 r0 r1 g0 g1 hlt; obtain ⟨⟨u0, u1⟩, ⟨e0, e1, e2, e3⟩, ⟨r0, r1⟩, ⟨g0, g1⟩, hlt⟩ := three I))
  have hs2 : ¬ (w.heap.size + 1 + 1 = w.heap.size) := by omega
  have hs3 : ¬ (w.heap.size = w.heap.size + 1 + 1) := by omega
  go_region_held3 (fun w' => w'.cell? ⟨w.heap.size, 0, none⟩ = some (.slice a k c) ∧ w'.cell? ⟨w.heap.size, 1, none⟩ = some (.slice pl n cl) ∧ w'.cell? ⟨w.heap.size + 1, 0, none⟩ = some (.string e.path) ∧ w'.cell? ⟨w.heap.size + 1, 1, none⟩ = some (.int .i64 e.kind) ∧ w'.cell? ⟨w.heap.size + 1, 2, none⟩ = some (.string e.text) ∧ w'.cell? ⟨w.heap.size + 1, 3, none⟩ = some (.bool e.opq)) (go_keep) (first
    | (go_at_call 34; refine (hsu _ (down3 (up3 I (Below.refl _ _).drew))).mono ?_; clear hsu; intro rr w3 hP3; obtain ⟨p3, c3, rfl, HL3, HB3⟩ := rows_parts HON.out hP3; clear hP3; have HFR : Aside (∀ b off s, p3 = some ⟨b, off, s⟩ → w.heap.size + 2 < b) := (fun b off s h => by have := HL3.out.2 b off s h; have h2 : w2.drew.heap.size = w2.heap.size := rfl; omega); have I3 := up3 (up3 I (Below.refl _ _).drew) HB3.out; clear u0 u1 e0 e1 e2 e3 r0 r1 g0 g1 hlt; clear I; have I := I3; clear I3; obtain ⟨⟨u0, u1⟩, ⟨e0, e1, e2, e3⟩, ⟨r0, r1⟩, ⟨g0, g1⟩, hlt⟩ := three I)
    | (go_at_call 33; refine (refDone_few a k c pl n cl p3 on c3 _ h80).mono ?_; rintro rr w4 ⟨rfl, hN4⟩; have HL4 : Aside (Lies w4 p3 own') := HL3.out.1.kept hN4; have I4 := up3 I hN4; clear hN4; clear u0 u1 e0 e1 e2 e3 r0 r1 g0 g1 hlt; clear I; have I := I4; clear I4; obtain ⟨⟨u0, u1⟩, ⟨e0, e1, e2, e3⟩, ⟨r0, r1⟩, ⟨g0, g1⟩, hlt⟩ := three I))
  go_wp2
  refine bodyPost_ret (v := .tuple #[.agg #[.slice p3 on c3, .slice pl n cl], .int .i64 0]) (by simp [results, Tryz.results12, go_sem, r0, r1]) rfl ?_
  exact ⟨p3, c3, by rw [HON.out], lies_far (lies_far HL4.out _ _ (fun b off s h => by have := HFR.out b off s h; simp only; omega)) _ _ (fun b off s h => by have := HFR.out b off s h; simp only; omega), .inr (fun b off s h => by have := HFR.out b off s h; exact .inr (by omega)), store3 I _ _⟩
/-- What the document's own PutUnion answers. -/
def RUPost (h0 : Nat) (er : Int) (up : List Ent) (pl : Option Addr) (n cl : Nat) (w : World) (r : Ending) (w' : World) : Prop := (er ≠ 0 ∧ ErrU er w r w') ∨ (er = 0 ∧ OkU h0 up pl n cl w r w')
theorem refPutU_any (h0 : Nat) (y : Lay) (pl : Option Addr) (n cl : Nat) (e : Ent) (w : World) (we : Int) (sl : List Ent) (hsn : RSn w (.agg #[.slice y.ad y.es.length y.cap, .slice pl n cl]) we sl) (hsl : we = 0 → Right false sl) (hy : Right true y.es) (hL : Lies w y.ad y.es) (he : e.path.size ≤ 1048576) (het : e.text.size ≤ 1048576) :
    Calls Tryz.prog 12 #[.agg #[.slice y.ad y.es.length y.cap, .slice pl n cl], .agg #[.string e.path, .int .i64 e.kind, .string e.text, .bool e.opq]] w (RUPost h0 (chgErr we (putErr sl e) (haveL y.es e).length) (haveL y.es e) pl n cl w) := by
  by_cases h1 : we = 0
  · subst h1
    have hr := hsl rfl
    have hpt : RPt w (.agg #[.string e.path, .int .i64 e.kind, .string e.text, .bool e.opq]) sl (putErr sl e) := fun W p c n hn hB hLs hc => by
      subst hn
      refine (refPut_any sl e p c W hLs (fun x hx => ?_) (by have := hr.len; omega) hc he het).mono ?_
      · exact wrongE_small (hr.each x hx)
      · rintro r w' ⟨p', c', rfl, _, _, _, hB'⟩
        exact ⟨⟨_, rfl⟩, hB'⟩
    by_cases h2 : putErr sl e = 0
    · rw [h2] at hpt
      have hw := (put_okU h2).2.1
      have hcl := wrongE_clean hw
      have hpl : e.p.length ≤ 80 := by
        unfold clean at hcl
        simp at hcl
        exact hcl.1
      have hop : e.opq = false := wrongE_opq_false hw
      have hy80 := hy.len
      have hps := path_len e
      have hsu : RSu w y.ad y.es.length y.cap (.agg #[.string e.path, .int .i64 e.kind, .string e.text, .bool e.opq]) (haveL y.es e) := fun W hB => refSetU_any _ y.es e y.ad y.cap W (Nat.le_refl _) (right_sm hy) (clean_ne hcl) he hop (by omega) (hL.kept hB)
      by_cases h80 : 80 < (haveL y.es e).length
      · rw [show chgErr 0 (putErr sl e) (haveL y.es e).length = 5 by unfold chgErr; rw [if_pos rfl, if_pos h2, if_pos h80]]
        exact (pu_3 h0 _ _ _ _ _ _ e w sl _ hsn hpt hsu h80).mono fun r w' h => .inl ⟨by decide, h⟩
      · rw [show chgErr 0 (putErr sl e) (haveL y.es e).length = 0 by unfold chgErr; rw [if_pos rfl, if_pos h2, if_neg h80]]
        exact (pu_4 h0 _ _ _ _ _ _ e w sl _ hsn hpt hsu (by omega)).mono fun r w' h => .inr ⟨rfl, h⟩
    · rw [show chgErr 0 (putErr sl e) (haveL y.es e).length = putErr sl e by unfold chgErr; rw [if_pos rfl, if_neg h2]]
      exact (pu_2 h0 _ _ _ _ _ _ e w sl [] hsn _ h2 hpt).mono fun r w' h => .inl ⟨h2, h⟩
  · rw [show chgErr we (putErr sl e) (haveL y.es e).length = we by unfold chgErr; rw [if_neg h1]]
    exact (pu_1 h0 _ _ _ _ _ _ e w sl [] _ h1 hsn).mono fun r w' h => .inl ⟨h1, h⟩
end Go.Proofs.YtampldoimpfjgaaGreatDoor
namespace Go.Proofs.YtampldoimpfjgaaGreatDoor
open Go.RowKit PM Go.Sort
set_option linter.unusedVariables false

abbrev RRm (w : World) (q : ByteArray) (sl : List Ent) (ae : Int) : Prop := ∀ W p c n, n = sl.length → Below w.heap.size w W → Lies W p sl → n ≤ c → Calls Tryz.prog 39 #[.slice p n c, .string q] W fun r w' => (∃ v, r = .returned (.tuple #[v, .int .i64 ae])) ∧ Below W.heap.size W w'
abbrev RMg (w : World) (pl : Option Addr) (n cl : Nat) (B : List Ent) : Prop := ∀ W, Below w.heap.size w W → ∃ me, Calls Tryz.prog 19 #[.slice pl n cl] W (TreePost me B W)
abbrev RDr (w : World) (a : Option Addr) (k c : Nat) (B : List Ent) (q : ByteArray) (own' : List Ent) : Prop := ∀ W pb nb cb, nb = B.length → Below w.heap.size w W → Lies W pb B → Calls Tryz.prog 40 #[.slice a k c, .slice pb nb cb, .string q] W (RowsPost own' W)
theorem box2f {w W : World} {u0 u1 r0 r1 : Value} {t1 t2 : TypeId} (h : Below (w.heap.size + 2) ((w.alloc (.cells #[u0, u1] t1)).alloc (.cells #[r0, r1] t2)) W) :
    (W.cell? ⟨w.heap.size, 0, none⟩ = some u0 ∧ W.cell? ⟨w.heap.size, 1, none⟩ = some u1) ∧ (W.cell? ⟨w.heap.size + 1, 0, none⟩ = some r0 ∧ W.cell? ⟨w.heap.size + 1, 1, none⟩ = some r1) ∧ (W.frozen? ⟨w.heap.size + 1, 0, none⟩ = false ∧ W.frozen? ⟨w.heap.size + 1, 1, none⟩ = false) ∧ w.heap.size + 1 < W.heap.size := by
  have h1 := res2 h
  have hB : Below (w.heap.size + 1) (w.alloc (.cells #[u0, u1] t1)) W := ((Below.refl _ _).alloc (by simp) _).trans (h.mono (by omega))
  have h3 := new2 (w := w) (B := w.heap.size + 1) (by omega) hB
  have hs := h.size
  simp at hs
  exact ⟨h3.1, h1.1, h1.2, by omega⟩
set_option maxHeartbeats 1000000 in
set_option maxRecDepth 100000 in
theorem ru_1 (h0 : Nat) (a : Option Addr) (k c : Nat) (pl : Option Addr) (n cl : Nat) (q : ByteArray) (w : World) (sl B own' : List Ent) (er : Int) (he : ¬ er = 0) (hsn : RSn w (.agg #[.slice a k c, .slice pl n cl]) er sl) :
    Calls Tryz.prog 15 #[.agg #[.slice a k c, .slice pl n cl], .string q] w (ErrU er w) := by
  have I : Below (w.heap.size + 2) ((w.alloc (.cells #[.slice a k c, .slice pl n cl] 26)).alloc (.cells #[.slice none 0 0, .slice none 0 0] 26)) ((w.alloc (.cells #[.slice a k c, .slice pl n cl] 26)).alloc (.cells #[.slice none 0 0, .slice none 0 0] 26)) := Below.refl _ _
  go_enter Tryz.func15, Tryz.ntmps15
  go_wp2_with (first
    | (go_at_call 5; refine (hsn _ (down2 I)).mono ?_; clear hsn; rintro rr w1 ⟨p1, c1, rfl, hL1, hc1, hn1, hN1⟩; replace I := up2 I hN1; have HL1 : Aside (Lies w1 p1 sl) := hL1; clear hL1 hN1 hn1; obtain ⟨sn, hsn2⟩ : ∃ sn, sn = sl.length := ⟨_, rfl⟩; have HSN : Aside (sn = sl.length) := hsn2; rw [← hsn2] at hc1 ⊢; clear hsn2; obtain ⟨⟨u0, u1⟩, ⟨r0, r1⟩, ⟨g0, g1⟩, hlt⟩ := box2f I))
  refine bodyPost_ret (v := .tuple #[.agg #[.slice none 0 0, .slice none 0 0], .int .i64 er]) (by simp [results, Tryz.results15, go_sem, r0, r1]) rfl ?_
  exact ⟨rfl, store2 I _ _⟩
set_option maxHeartbeats 1000000 in
set_option maxRecDepth 100000 in
theorem ru_2 (h0 : Nat) (a : Option Addr) (k c : Nat) (pl : Option Addr) (n cl : Nat) (q : ByteArray) (w : World) (sl B own' : List Ent) (hsn : RSn w (.agg #[.slice a k c, .slice pl n cl]) 0 sl) (ae : Int) (ha : ¬ ae = 0) (hpt : RRm w q sl ae) :
    Calls Tryz.prog 15 #[.agg #[.slice a k c, .slice pl n cl], .string q] w (ErrU ae w) := by
  have I : Below (w.heap.size + 2) ((w.alloc (.cells #[.slice a k c, .slice pl n cl] 26)).alloc (.cells #[.slice none 0 0, .slice none 0 0] 26)) ((w.alloc (.cells #[.slice a k c, .slice pl n cl] 26)).alloc (.cells #[.slice none 0 0, .slice none 0 0] 26)) := Below.refl _ _
  go_enter Tryz.func15, Tryz.ntmps15
  go_wp2_with (first
    | (go_at_call 5; refine (hsn _ (down2 I)).mono ?_; clear hsn; rintro rr w1 ⟨p1, c1, rfl, hL1, hc1, hn1, hN1⟩; replace I := up2 I hN1; have HL1 : Aside (Lies w1 p1 sl) := hL1; clear hL1 hN1 hn1; obtain ⟨sn, hsn2⟩ : ∃ sn, sn = sl.length := ⟨_, rfl⟩; have HSN : Aside (sn = sl.length) := hsn2; rw [← hsn2] at hc1 ⊢; clear hsn2; obtain ⟨⟨u0, u1⟩, ⟨r0, r1⟩, ⟨g0, g1⟩, hlt⟩ := box2f I)
    | (go_at_call 39; refine (hpt _ p1 c1 sn HSN.out (down2 I) HL1.out hc1).mono ?_; clear hpt; rintro rr w2 ⟨⟨v2, rfl⟩, hN2⟩; replace I := up2 I hN2; clear hN2; clear u0 u1 r0 r1 g0 g1 hlt; obtain ⟨⟨u0, u1⟩, ⟨r0, r1⟩, ⟨g0, g1⟩, hlt⟩ := box2f I))
  refine bodyPost_ret (v := .tuple #[.agg #[.slice none 0 0, .slice none 0 0], .int .i64 ae]) (by simp [results, Tryz.results15, go_sem, r0, r1]) rfl ?_
  exact ⟨rfl, store2 I _ _⟩
set_option maxHeartbeats 1000000 in
set_option maxRecDepth 100000 in
theorem ru_3 (h0 : Nat) (a : Option Addr) (k c : Nat) (pl : Option Addr) (n cl : Nat) (q : ByteArray) (w : World) (sl B own' : List Ent) (hsn : RSn w (.agg #[.slice a k c, .slice pl n cl]) 0 sl) (hpt : RRm w q sl 0) (hmg : RMg w pl n cl B) (hdr : RDr w a k c B q own') (h80 : 80 < own'.length) :
    Calls Tryz.prog 15 #[.agg #[.slice a k c, .slice pl n cl], .string q] w (ErrU 5 w) := by
  have I : Below (w.heap.size + 2) ((w.alloc (.cells #[.slice a k c, .slice pl n cl] 26)).alloc (.cells #[.slice none 0 0, .slice none 0 0] 26)) ((w.alloc (.cells #[.slice a k c, .slice pl n cl] 26)).alloc (.cells #[.slice none 0 0, .slice none 0 0] 26)) := Below.refl _ _
  obtain ⟨on, hon⟩ : ∃ on, on = own'.length := ⟨_, rfl⟩
  have HON : Aside (on = own'.length) := hon
  rw [← hon] at h80
  clear hon
  go_enter Tryz.func15, Tryz.ntmps15
  go_wp2_with (first
    | (go_at_call 5; refine (hsn _ (down2 I)).mono ?_; clear hsn; rintro rr w1 ⟨p1, c1, rfl, hL1, hc1, hn1, hN1⟩; replace I := up2 I hN1; have HL1 : Aside (Lies w1 p1 sl) := hL1; clear hL1 hN1 hn1; obtain ⟨sn, hsn2⟩ : ∃ sn, sn = sl.length := ⟨_, rfl⟩; have HSN : Aside (sn = sl.length) := hsn2; rw [← hsn2] at hc1 ⊢; clear hsn2; obtain ⟨⟨u0, u1⟩, ⟨r0, r1⟩, ⟨g0, g1⟩, hlt⟩ := box2f I)
    | (go_at_call 39; refine (hpt _ p1 c1 sn HSN.out (down2 I) HL1.out hc1).mono ?_; clear hpt; rintro rr w2 ⟨⟨v2, rfl⟩, hN2⟩; replace I := up2 I hN2; clear hN2; clear u0 u1 r0 r1 g0 g1 hlt; obtain ⟨⟨u0, u1⟩, ⟨r0, r1⟩, ⟨g0, g1⟩, hlt⟩ := box2f I)
    | (go_at_call 19; obtain ⟨me, hme⟩ := hmg _ (down2 I); refine hme.mono ?_; clear hme hmg; rintro rr w3 ⟨p3, c3, rfl, hL3, hc3, hn3, hN3⟩; replace I := up2 I hN3; have HL3 : Aside (Lies w3 p3 B) := hL3; clear hL3 hN3 hn3 hc3; obtain ⟨bn, hbn⟩ : ∃ bn, bn = B.length := ⟨_, rfl⟩; have HBN : Aside (bn = B.length) := hbn; rw [← hbn]; clear hbn; clear u0 u1 r0 r1 g0 g1 hlt; obtain ⟨⟨u0, u1⟩, ⟨r0, r1⟩, ⟨g0, g1⟩, hlt⟩ := box2f I))
  go_region_held3 (fun w' => w'.cell? ⟨w.heap.size, 0, none⟩ = some (.slice a k c) ∧ w'.cell? ⟨w.heap.size, 1, none⟩ = some (.slice pl n cl)) (go_keep) (first
    | (go_at_call 40; refine (hdr _ p3 bn c3 HBN.out (down2 (up2 I (Below.refl _ _).drew)) (HL3.out.kept (Below.refl _ _).drew)).mono ?_; clear hdr; intro rr w5 hP5; obtain ⟨p5, c5, rfl, HL5, HB5⟩ := rows_parts HON.out hP5; clear hP5; have HFR : Aside (∀ b off s, p5 = some ⟨b, off, s⟩ → w.heap.size + 1 < b) := (fun b off s h => by have := HL5.out.2 b off s h; have h2 : w3.drew.heap.size = w3.heap.size := rfl; omega); have I3 := up2 (up2 I (Below.refl _ _).drew) HB5.out; clear u0 u1 r0 r1 g0 g1 hlt; clear I; have I := I3; clear I3; obtain ⟨⟨u0, u1⟩, ⟨r0, r1⟩, ⟨g0, g1⟩, hlt⟩ := box2f I)
    | (go_at_call 33; refine (refDone_many a k c pl n cl p5 on c5 _ h80).mono ?_; rintro rr w6 ⟨rfl, hN6⟩; have HL6 : Aside (Lies w6 p5 own') := HL5.out.1.kept hN6; have I4 := up2 I hN6; clear hN6; clear u0 u1 r0 r1 g0 g1 hlt; clear I; have I := I4; clear I4; obtain ⟨⟨u0, u1⟩, ⟨r0, r1⟩, ⟨g0, g1⟩, hlt⟩ := box2f I))
  go_wp2
  refine bodyPost_ret (v := .tuple #[.agg #[.slice none 0 0, .slice none 0 0], .int .i64 5]) (by simp [results, Tryz.results15, go_sem, r0, r1]) rfl ?_
  exact ⟨rfl, store2 I _ _⟩
set_option maxHeartbeats 1000000 in
set_option maxRecDepth 100000 in
theorem ru_4 (h0 : Nat) (a : Option Addr) (k c : Nat) (pl : Option Addr) (n cl : Nat) (q : ByteArray) (w : World) (sl B own' : List Ent) (hsn : RSn w (.agg #[.slice a k c, .slice pl n cl]) 0 sl) (hpt : RRm w q sl 0) (hmg : RMg w pl n cl B) (hdr : RDr w a k c B q own') (h80 : own'.length ≤ 80) :
    Calls Tryz.prog 15 #[.agg #[.slice a k c, .slice pl n cl], .string q] w (OkU h0 own' pl n cl w) := by
  have I : Below (w.heap.size + 2) ((w.alloc (.cells #[.slice a k c, .slice pl n cl] 26)).alloc (.cells #[.slice none 0 0, .slice none 0 0] 26)) ((w.alloc (.cells #[.slice a k c, .slice pl n cl] 26)).alloc (.cells #[.slice none 0 0, .slice none 0 0] 26)) := Below.refl _ _
  obtain ⟨on, hon⟩ : ∃ on, on = own'.length := ⟨_, rfl⟩
  have HON : Aside (on = own'.length) := hon
  rw [← hon] at h80
  clear hon
  go_enter Tryz.func15, Tryz.ntmps15
  go_wp2_with (first
    | (go_at_call 5; refine (hsn _ (down2 I)).mono ?_; clear hsn; rintro rr w1 ⟨p1, c1, rfl, hL1, hc1, hn1, hN1⟩; replace I := up2 I hN1; have HL1 : Aside (Lies w1 p1 sl) := hL1; clear hL1 hN1 hn1; obtain ⟨sn, hsn2⟩ : ∃ sn, sn = sl.length := ⟨_, rfl⟩; have HSN : Aside (sn = sl.length) := hsn2; rw [← hsn2] at hc1 ⊢; clear hsn2; obtain ⟨⟨u0, u1⟩, ⟨r0, r1⟩, ⟨g0, g1⟩, hlt⟩ := box2f I)
    | (go_at_call 39; refine (hpt _ p1 c1 sn HSN.out (down2 I) HL1.out hc1).mono ?_; clear hpt; rintro rr w2 ⟨⟨v2, rfl⟩, hN2⟩; replace I := up2 I hN2; clear hN2; clear u0 u1 r0 r1 g0 g1 hlt; obtain ⟨⟨u0, u1⟩, ⟨r0, r1⟩, ⟨g0, g1⟩, hlt⟩ := box2f I)
    | (go_at_call 19; obtain ⟨me, hme⟩ := hmg _ (down2 I); refine hme.mono ?_; clear hme hmg; rintro rr w3 ⟨p3, c3, rfl, hL3, hc3, hn3, hN3⟩; replace I := up2 I hN3; have HL3 : Aside (Lies w3 p3 B) := hL3; clear hL3 hN3 hn3 hc3; obtain ⟨bn, hbn⟩ : ∃ bn, bn = B.length := ⟨_, rfl⟩; have HBN : Aside (bn = B.length) := hbn; rw [← hbn]; clear hbn; clear u0 u1 r0 r1 g0 g1 hlt; obtain ⟨⟨u0, u1⟩, ⟨r0, r1⟩, ⟨g0, g1⟩, hlt⟩ := box2f I))
  go_region_held3 (fun w' => w'.cell? ⟨w.heap.size, 0, none⟩ = some (.slice a k c) ∧ w'.cell? ⟨w.heap.size, 1, none⟩ = some (.slice pl n cl)) (go_keep) (first
    | (go_at_call 40; refine (hdr _ p3 bn c3 HBN.out (down2 (up2 I (Below.refl _ _).drew)) (HL3.out.kept (Below.refl _ _).drew)).mono ?_; clear hdr; intro rr w5 hP5; obtain ⟨p5, c5, rfl, HL5, HB5⟩ := rows_parts HON.out hP5; clear hP5; have HFR : Aside (∀ b off s, p5 = some ⟨b, off, s⟩ → w.heap.size + 1 < b) := (fun b off s h => by have := HL5.out.2 b off s h; have h2 : w3.drew.heap.size = w3.heap.size := rfl; omega); have I3 := up2 (up2 I (Below.refl _ _).drew) HB5.out; clear u0 u1 r0 r1 g0 g1 hlt; clear I; have I := I3; clear I3; obtain ⟨⟨u0, u1⟩, ⟨r0, r1⟩, ⟨g0, g1⟩, hlt⟩ := box2f I)
    | (go_at_call 33; refine (refDone_few a k c pl n cl p5 on c5 _ h80).mono ?_; rintro rr w6 ⟨rfl, hN6⟩; have HL6 : Aside (Lies w6 p5 own') := HL5.out.1.kept hN6; have I4 := up2 I hN6; clear hN6; clear u0 u1 r0 r1 g0 g1 hlt; clear I; have I := I4; clear I4; obtain ⟨⟨u0, u1⟩, ⟨r0, r1⟩, ⟨g0, g1⟩, hlt⟩ := box2f I))
  go_wp2
  refine bodyPost_ret (v := .tuple #[.agg #[.slice p5 on c5, .slice pl n cl], .int .i64 0]) (by simp [results, Tryz.results15, go_sem, r0, r1]) rfl ?_
  exact ⟨p5, c5, by rw [HON.out], lies_far (lies_far HL6.out _ _ (fun b off s h => by have := HFR.out b off s h; simp only; omega)) _ _ (fun b off s h => by have := HFR.out b off s h; simp only; omega), .inr (fun b off s h => by have := HFR.out b off s h; exact .inr (by omega)), store2 I _ _⟩
theorem clean_len {q : List UInt8} (h : clean q = true) : q.length ≤ 80 := by
  unfold clean at h
  simp at h
  exact h.1
theorem rem_path {t : List Ent} {q : List UInt8} (hr : Right false t) (h : remErr t q = 0) : q ≠ [] ∧ q.length ≤ 80 := by
  unfold remErr at h
  have h1 : missL t q = 0 := by
    unfold orL at h
    split at h
    · unfold orL at h
      split at h
      · assumption
      · rename_i h2; exact absurd h h2
    · rename_i h2; exact absurd h h2
  unfold missL at h1
  split at h1
  · rename_i h2
    obtain ⟨e, he, rfl⟩ := h2
    exact ⟨hr.ne he, clean_len (wrongE_clean (hr.each e he))⟩
  · omega
/-- What the document's own RemoveUnion answers. -/
theorem refRemU_any (h0 : Nat) (y : Lay) (pl : Option Addr) (n cl : Nat) (q : ByteArray) (w : World) (we : Int) (sl B : List Ent) (hsn : RSn w (.agg #[.slice y.ad y.es.length y.cap, .slice pl n cl]) we sl) (hsl : we = 0 → Right false sl) (hy : Right true y.es) (hL : Lies w y.ad y.es) (hB : Right false B) (hmg : RMg w pl n cl B) (hq : q.size ≤ 1048576) :
    Calls Tryz.prog 15 #[.agg #[.slice y.ad y.es.length y.cap, .slice pl n cl], .string q] w (RUPost h0 (chgErr we (remErr sl q.data.toList) (dropL y.es B q).length) (dropL y.es B q) pl n cl w) := by
  by_cases h1 : we = 0
  · subst h1
    have hr := hsl rfl
    have hpt : RRm w q sl (remErr sl q.data.toList) := fun W p c n hn hB' hLs hc => by
      subst hn
      refine (refRemove_any sl q p c W hLs (fun x hx => wrongE_small (hr.each x hx)) (by have := hr.len; omega) hc (by unfold maxLen; omega)).mono ?_
      rintro r w' ⟨p', c', rfl, _, _, _, hB'⟩
      exact ⟨⟨_, rfl⟩, hB'⟩
    by_cases h2 : remErr sl q.data.toList = 0
    · rw [h2] at hpt
      obtain ⟨hq0, hq80⟩ := rem_path hr h2
      have hy80 := hy.len
      have hB80 := hB.len
      have hqs : q.size = q.data.toList.length := rfl
      have hdr : RDr w y.ad y.es.length y.cap B q (dropL y.es B q) := fun W pb nb cb hnb hW hLB => by
        subst hnb
        exact refDrop_any y.es B q y.ad y.cap pb cb W (hL.kept hW) hLB (right_sm hy) (by omega) hq0 hq (by omega)
      by_cases h80 : 80 < (dropL y.es B q).length
      · rw [show chgErr 0 (remErr sl q.data.toList) (dropL y.es B q).length = 5 by unfold chgErr; rw [if_pos rfl, if_pos h2, if_pos h80]]
        exact (ru_3 h0 _ _ _ _ _ _ q w sl B _ hsn hpt hmg hdr h80).mono fun r w' h => .inl ⟨by decide, h⟩
      · rw [show chgErr 0 (remErr sl q.data.toList) (dropL y.es B q).length = 0 by unfold chgErr; rw [if_pos rfl, if_pos h2, if_neg h80]]
        exact (ru_4 h0 _ _ _ _ _ _ q w sl B _ hsn hpt hmg hdr (by omega)).mono fun r w' h => .inr ⟨rfl, h⟩
    · rw [show chgErr 0 (remErr sl q.data.toList) (dropL y.es B q).length = remErr sl q.data.toList by unfold chgErr; rw [if_pos rfl, if_neg h2]]
      exact (ru_2 h0 _ _ _ _ _ _ q w sl B [] hsn _ h2 hpt).mono fun r w' h => .inl ⟨h2, h⟩
  · rw [show chgErr we (remErr sl q.data.toList) (dropL y.es B q).length = we by unfold chgErr; rw [if_neg h1]]
    exact (ru_1 h0 _ _ _ _ _ _ q w sl B [] _ h1 hsn).mono fun r w' h => .inl ⟨h1, h⟩
end Go.Proofs.YtampldoimpfjgaaGreatDoor
