/-
  What tree.Get, tree.noDir, tree.noDirFor and tree.missing answer of any entries; where they rise: what the document says.
-/
import Derived.Test.YtampldoimpfjgabGreatDoorTWalks1
import Derived.Test.YtampldoimpfjgabGreatDoorWalks4
namespace Go.Proofs.YtampldoimpfjgabGreatDoor
open Go.RowKit PM Go.Sort
set_option linter.unusedVariables false

theorem isAt_cases (t : List Ent) (q : List UInt8) (i : Nat) : (isAt t q i = true ∧ ∃ y, t[i]? = some y ∧ y.p = q) ∨ isAt t q i = false := by
  cases h : isAt t q i with
  | false => exact .inr rfl
  | true =>
    obtain ⟨h1, h2⟩ := isAt_iff.1 h
    exact .inl ⟨rfl, _, List.getElem?_eq_getElem h1, h2⟩
/-- A block of four cells of the call's own. -/
theorem new4 {w W : World} {a b c d : Value} {t : TypeId} {B : Nat} (hB : w.heap.size < B) (h : Below B (w.alloc (.cells #[a, b, c, d] t)) W) :
    (W.cell? ⟨w.heap.size, 0, none⟩ = some a ∧ W.cell? ⟨w.heap.size, 1, none⟩ = some b ∧ W.cell? ⟨w.heap.size, 2, none⟩ = some c ∧ W.cell? ⟨w.heap.size, 3, none⟩ = some d) ∧
    (W.frozen? ⟨w.heap.size, 0, none⟩ = false ∧ W.frozen? ⟨w.heap.size, 1, none⟩ = false ∧ W.frozen? ⟨w.heap.size, 2, none⟩ = false ∧ W.frozen? ⟨w.heap.size, 3, none⟩ = false) := by
  have hc := fun i => h.cell (p := ⟨w.heap.size, i, none⟩) hB
  have hf := fun i => h.frozen (p := ⟨w.heap.size, i, none⟩) hB
  refine ⟨⟨(hc 0).trans ?_, (hc 1).trans ?_, (hc 2).trans ?_, (hc 3).trans ?_⟩, ⟨(hf 0).trans ?_, (hf 1).trans ?_, (hf 2).trans ?_, (hf 3).trans ?_⟩⟩ <;> simp
theorem new2 {w W : World} {a b : Value} {t : TypeId} {B : Nat} (hB : w.heap.size < B) (h : Below B (w.alloc (.cells #[a, b] t)) W) :
    (W.cell? ⟨w.heap.size, 0, none⟩ = some a ∧ W.cell? ⟨w.heap.size, 1, none⟩ = some b) ∧ (W.frozen? ⟨w.heap.size, 0, none⟩ = false ∧ W.frozen? ⟨w.heap.size, 1, none⟩ = false) := by
  have hc := fun i => h.cell (p := ⟨w.heap.size, i, none⟩) hB
  have hf := fun i => h.frozen (p := ⟨w.heap.size, i, none⟩) hB
  refine ⟨⟨(hc 0).trans ?_, (hc 1).trans ?_⟩, ⟨(hf 0).trans ?_, (hf 1).trans ?_⟩⟩ <;> simp

theorem isDir_cells (p : ByteArray) (k : Int) (t : ByteArray) (o : Bool) (w : World) : Calls Tryz.prog 42 #[.agg #[.string p, .int .i64 k, .string t, .bool o]] w fun r w' => r = .returned (.bool (k == 2)) ∧ Grown w w' := by
  go_enter Tryz.func42, Tryz.ntmps42
  go_wp2
  go_ret
  exact ⟨rfl, (Grown.refl w).alloc _⟩
theorem isDir_any (e : Ent) (w : World) : Calls Tryz.prog 42 #[.agg #[.string e.path, .int .i64 e.kind, .string e.text, .bool e.opq]] w fun r w' => r = .returned (.bool (e.kind == 2)) ∧ Grown w w' := by
  go_enter Tryz.func42, Tryz.ntmps42
  go_wp2
  go_ret
  exact ⟨rfl, (Grown.refl w).alloc _⟩

def zeroE : Ent := ⟨⟨#[]⟩, 0, ⟨#[]⟩, false⟩
def GetPost (t : List Ent) (q : List UInt8) (w : World) (r : Ending) (w' : World) : Prop :=
  ∃ (x : Ent) (b : Bool), r = .returned (.tuple #[.agg #[.string x.path, .int .i64 x.kind, .string x.text, .bool x.opq], .bool b]) ∧ (Sorted t → getL t q = if b then some x else none) ∧ (b = false → x = zeroE) ∧ (b = true → x = dirE ∨ x ∈ t) ∧ Below w.heap.size w w'
theorem getL_found {t : List Ent} {q : List UInt8} {i : Nat} {y : Ent} (hq : q ≠ []) (hp : PlaceAt t q i) (hy : t[i]? = some y) (hyq : y.p = q) : Sorted t → getL t q = if true then some y else none := fun hs => by
  have := getL_of hs (List.mem_of_getElem? hy) (by rw [hyq]; exact hq)
  rw [hyq] at this; simpa using this
theorem getL_missed {t : List Ent} {q : List UInt8} {i : Nat} {y : Ent} (hq : q ≠ []) (hp : PlaceAt t q i) (hb : isAt t q i = false) : Sorted t → getL t q = if false then some y else none := fun hs => by
  have : getL t q = none := getL_none_of hq fun e he hep => by
    have := (hp.there hs).2 ⟨e, he, hep⟩
    rw [hb] at this; cases this
  simpa using this

/-- What a search leaves: it is there, with its cells, or it is not. -/
theorem found_cases {w W : World} {b off : Nat} {t : List Ent} {n : Nat} (hn : n = t.length) (hc : ∀ j e, t[j]? = some e → ∀ i v, (encE e)[i]? = some v → w.cell? ⟨b, off + j * 4 + i, none⟩ = some v) (hb : b < w.heap.size) (hW : Below w.heap.size w W) (q : List UInt8) (i : Nat) :
    (isAt t q i = true ∧ ∃ y, Aside (t[i]? = some y ∧ y.p = q) ∧ i < n ∧ W.cell? ⟨b, off + i * 4, none⟩ = some (.string y.path) ∧ W.cell? ⟨b, off + i * 4 + 1, none⟩ = some (.int .i64 y.kind) ∧ W.cell? ⟨b, off + i * 4 + 2, none⟩ = some (.string y.text) ∧ W.cell? ⟨b, off + i * 4 + 3, none⟩ = some (.bool y.opq)) ∨ isAt t q i = false := by
  rcases isAt_cases t q i with ⟨h, y, hy, hyp⟩ | h
  · exact .inl ⟨h, y, ⟨hy, hyp⟩, by rw [hn]; exact (List.getElem?_eq_some_iff.1 hy).1, Lies.cells hc hb hW hy⟩
  · exact .inr h
theorem own_store4 {w W : World} {o : Obj} (hB : Below (w.heap.size + 1) (w.alloc o) W) (a b c d : Value) :
    Below w.heap.size w ((((W.setCell ⟨w.heap.size, 0, none⟩ a).setCell ⟨w.heap.size, 1, none⟩ b).setCell ⟨w.heap.size, 2, none⟩ c).setCell ⟨w.heap.size, 3, none⟩ d) :=
  (((((Below.refl w.heap.size w).alloc (Nat.le_refl _) _).trans (hB.mono (by simp))).setCell (Nat.le_refl _) _).setCell (Nat.le_refl _) _ |>.setCell (Nat.le_refl _) _ |>.setCell (Nat.le_refl _) _)

set_option maxHeartbeats 1000000 in
theorem get_any (t : List Ent) (q : ByteArray) (p : Option Addr) (cap : Nat) (w : World) (hL : Lies w p t) (hF : Fits t) (hn : t.length < 4611686018427387904) (hq : q.size ≤ maxLen) :
    Calls Tryz.prog 23 #[.slice p t.length cap, .string q] w (GetPost t q.data.toList w) := by
  by_cases h0 : q.data.toList = []
  · have h1 := empty_of h0
    have HG : Aside (getL t q.data.toList = some dirE) := by show _ = _; rw [h0, getL_nil]
    clear h0
    go_enter Tryz.func23, Tryz.ntmps23
    go_wp2
    refine bodyPost_ret (v := .tuple #[.agg #[.string dirE.path, .int .i64 dirE.kind, .string dirE.text, .bool dirE.opq], .bool true]) (by simp [results, Tryz.results23, go_sem, dirE]; rfl) rfl ?_
    exact ⟨dirE, true, rfl, fun _ => HG.out, (fun h => by cases h), fun _ => .inl rfl, (Below.refl _ _).alloc (Nat.le_refl _) _⟩
  · have h1 := empty_not h0
    have H0 : Aside (q.data.toList ≠ []) := h0
    clear h0
    have hs := fun W (hg : Grown w W) => find_any t q p cap W (hL.grown hg) hF hn hq
    rcases hL with h | ⟨b, off, rfl, hb, hc⟩
    · have HT : Aside (t = []) := h
      obtain ⟨n, hnl⟩ : ∃ n, n = t.length := ⟨_, rfl⟩
      rw [← hnl] at hs ⊢
      clear h
      go_enter Tryz.func23, Tryz.ntmps23
      clear hnl
      go_wp2_with (go_at_call 41; refine (hs _ ((Grown.refl _).alloc _)).mono ?_; rintro e w' ⟨i, rfl, hpl, hg⟩; have hib : isAt t q.data.toList i = false := (by rw [HT.out]; rfl); have HB : Aside (Grown _ w') := hg; obtain ⟨⟨c0, c1, c2, c3⟩, ⟨f0, f1, f2, f3⟩⟩ := new4 (by simp) hg.below; have HP : Aside (PlaceAt _ _ _) := hpl; clear hpl hg)
      refine bodyPost_ret (v := .tuple #[.agg #[.string zeroE.path, .int .i64 zeroE.kind, .string zeroE.text, .bool zeroE.opq], .bool false]) (by simp [results, Tryz.results23, go_sem, zeroE, c0, c1, c2, c3]) rfl ?_
      exact ⟨zeroE, false, rfl, getL_missed H0.out HP.out hib, fun _ => rfl, (fun h => by cases h), own_store4 (HB.out.below.mono (by simp)) _ _ _ _⟩
    · have HC : Aside (∀ j e, t[j]? = some e → ∀ i v, (encE e)[i]? = some v → w.cell? ⟨b, off + j * 4 + i, none⟩ = some v) := hc
      obtain ⟨n, hnl⟩ : ∃ n, n = t.length := ⟨_, rfl⟩
      have HN : Aside (n = t.length) := hnl
      rw [← hnl] at hs hn ⊢
      clear hc hnl
      have hne : b ≠ w.heap.size := by omega
      go_enter Tryz.func23, Tryz.ntmps23
      go_wp2_with (go_at_call 41; refine (hs _ ((Grown.refl _).alloc _)).mono ?_; rintro e w' ⟨i, rfl, hpl, hg⟩; have HB : Aside (Grown _ w') := hg; obtain ⟨⟨c0, c1, c2, c3⟩, ⟨f0, f1, f2, f3⟩⟩ := new4 (by simp) hg.below; have HP : Aside (PlaceAt _ _ _) := hpl; clear hpl hg; rcases found_cases HN.out HC.out hb (((Grown.refl w).alloc _).trans HB.out).below q.data.toList i with ⟨hib, y, HY, hin, d0, d1, d2, d3⟩ | hib)
      · refine bodyPost_ret (v := .tuple #[.agg #[.string y.path, .int .i64 y.kind, .string y.text, .bool y.opq], .bool true]) (by simp [results, Tryz.results23, go_sem, c0, c1, c2, c3]) rfl ?_
        exact ⟨y, true, rfl, getL_found H0.out HP.out HY.out.1 HY.out.2, (fun h => by cases h), fun _ => .inr (List.mem_of_getElem? HY.out.1), own_store4 (HB.out.below.mono (by simp)) _ _ _ _⟩
      · refine bodyPost_ret (v := .tuple #[.agg #[.string zeroE.path, .int .i64 zeroE.kind, .string zeroE.text, .bool zeroE.opq], .bool false]) (by simp [results, Tryz.results23, go_sem, zeroE, c0, c1, c2, c3]) rfl ?_
        exact ⟨zeroE, false, rfl, getL_missed H0.out HP.out hib, fun _ => rfl, (fun h => by cases h), own_store4 (HB.out.below.mono (by simp)) _ _ _ _⟩

def NumPost (f : Int → Prop) (w : World) (r : Ending) (w' : World) : Prop := ∃ n : Int, r = .returned (.int .i64 n) ∧ f n ∧ Below w.heap.size w w'
theorem noDir_any (t : List Ent) (q : ByteArray) (p : Option Addr) (cap : Nat) (w : World) (hL : Lies w p t) (hF : Fits t) (hn : t.length < 4611686018427387904) (hq : q.size ≤ maxLen) :
    Calls Tryz.prog 76 #[.slice p t.length cap, .string q] w (NumPost (fun n => Sorted t → n = noDirL t q.data.toList) w) := by
  have hs := get_any t q p cap w hL hF hn hq
  go_enter Tryz.func76, Tryz.ntmps76
  go_wp2_with (first
    | (go_at_call 23; refine hs.mono ?_; clear hs; rintro e w1 ⟨x, b, rfl, hg, hz, hx, hB⟩; have HG : Aside (Sorted t → getL t q.data.toList = if b then some x else none) := hg; clear hg hz hx; cases b)
    | (go_at_call 42; refine (isDir_any x _).mono ?_; rintro e w2 ⟨rfl, hG⟩))
  · go_ret
    exact ⟨6, rfl, (fun h => by rw [noDirL, HG.out h]; rfl), hB.alloc hB.size _⟩
  · have hk : (x.kind == 2) = false := by simpa using (by assumption : (!(x.kind == 2)) = true)
    go_ret
    exact ⟨10, rfl, (fun h => by rw [noDirL, HG.out h]; simp at hk ⊢; simp [hk]), hB.alloc hB.size _ |>.trans (hG.below.mono (by have := hB.size; simp; omega))⟩
  · have hk : (x.kind == 2) = true := by simpa using (by assumption : (!(x.kind == 2)) = false)
    go_ret
    exact ⟨0, rfl, (fun h => by rw [noDirL, HG.out h]; simp at hk ⊢; simp [hk]), hB.alloc hB.size _ |>.trans (hG.below.mono (by have := hB.size; simp; omega))⟩
theorem noDirFor_any (t : List Ent) (q : ByteArray) (p : Option Addr) (cap : Nat) (w : World) (hL : Lies w p t) (hF : Fits t) (hn : t.length < 4611686018427387904) (hq : q.size ≤ maxLen) (hq62 : q.size < 4611686018427387904) :
    Calls Tryz.prog 40 #[.slice p t.length cap, .string q] w (NumPost (fun n => Sorted t → n = noDirL t (dirOf q.data.toList)) w) := by
  have hcut := cut_any q w hq62
  have hs := fun W (d : ByteArray) (hd : d.size ≤ maxLen) (hg : Below w.heap.size w W) => noDir_any t d p cap W (hL.kept hg) hF hn hd
  go_enter Tryz.func40, Tryz.ntmps40
  go_wp2_with (first
    | (go_at_call 73; refine hcut.mono ?_; clear hcut; rintro e w1 ⟨⟨d, nm, rfl, hd, hnn⟩, m, rfl⟩)
    | (go_at_call 76; refine (hs _ d ?_ ?_).mono ?_))
  · have := dirOf_le q.data.toList
    have h1 : d.size ≤ q.size := by rw [← szl d, ← szl q, hd]; exact this
    exact Nat.le_trans h1 hq
  · exact below_drewN (Below.refl _ _) _
  · rintro e w' ⟨r, rfl, h, hB⟩
    go_wp2
    go_ret
    exact ⟨r, rfl, (fun g => by rw [h g, hd]; rfl), Below.onto (below_drewN (Below.refl _ _) _) hB⟩
def missL (t : List Ent) (q : List UInt8) : Int := if ∃ e ∈ t, e.p = q then 0 else 6
theorem missing_any (t : List Ent) (q : ByteArray) (p : Option Addr) (cap : Nat) (w : World) (hL : Lies w p t) (hF : Fits t) (hn : t.length < 4611686018427387904) (hq : q.size ≤ maxLen) :
    Calls Tryz.prog 47 #[.slice p t.length cap, .string q] w (NumPost (fun n => Sorted t → n = missL t q.data.toList) w) := by
  have hs := find_any t q p cap w hL hF hn hq
  go_enter Tryz.func47, Tryz.ntmps47
  go_wp2_with (go_at_call 41; refine hs.mono ?_; clear hs; rintro e w1 ⟨i, rfl, hp, hB⟩; have HP : Aside (PlaceAt _ _ _) := hp; clear hp; cases hib : isAt t q.data.toList i)
  · go_ret
    exact ⟨6, rfl, (fun h => by rw [missL, if_neg]; intro g; have := (HP.out.there h).2 g; rw [hib] at this; cases this), hB.below⟩
  · go_ret
    exact ⟨0, rfl, (fun h => by rw [missL, if_pos]; exact (HP.out.there h).1 hib), hB.below⟩
end Go.Proofs.YtampldoimpfjgabGreatDoor
