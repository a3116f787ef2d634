/-
  tree.Remove: what it answers, and the tree that comes of it.
-/
import Derived.Test.YtampldoimpfjgabGreatDoorTWith
namespace Go.Proofs.YtampldoimpfjgabGreatDoor
open Go.RowKit PM Go.Sort
set_option linter.unusedVariables false

theorem or3_any (a b c : Int) (W : World) : Calls Tryz.prog 38 #[.slice (some ⟨W.heap.size, 0, none⟩) 3 3] (W.alloc (.cells #[.int .i64 a, .int .i64 b, .int .i64 c] 30)) fun e w' => e = .returned (.int .i64 (orL [a, b, c])) ∧ w' = W.alloc (.cells #[.int .i64 a, .int .i64 b, .int .i64 c] 30) :=
  or_any [a, b, c] W.heap.size 3 _ (by simp) (fun j x hx => by
    match j, hx with
    | 0, hx => simp at hx; subst hx; simp
    | 1, hx => simp at hx; subst hx; simp
    | 2, hx => simp at hx; subst hx; simp
    | j + 3, hx => simp at hx)
theorem or2_any (a b : Int) (W : World) : Calls Tryz.prog 38 #[.slice (some ⟨W.heap.size, 0, none⟩) 2 2] (W.alloc (.cells #[.int .i64 a, .int .i64 b] 30)) fun e w' => e = .returned (.int .i64 (orL [a, b])) ∧ w' = W.alloc (.cells #[.int .i64 a, .int .i64 b] 30) :=
  or_any [a, b] W.heap.size 2 _ (by simp) (fun j x hx => by
    match j, hx with
    | 0, hx => simp at hx; subst hx; simp
    | 1, hx => simp at hx; subst hx; simp
    | j + 2, hx => simp at hx)

/-- What a call that answers a tree and a number leaves. -/
def TreePost (err : Int) (l : List Ent) (w : World) (e : Ending) (w' : World) : Prop :=
  ∃ p c, e = .returned (.tuple #[.slice p l.length c, .int .i64 err]) ∧ Lies w' p l ∧ l.length ≤ c ∧ (p = none → c = 0) ∧ Below w.heap.size w w'
theorem TreePost.none {err : Int} {w w' : World} (hB : Below w.heap.size w w') : TreePost err [] w (.returned (.tuple #[.slice .none 0 0, .int .i64 err])) w' := ⟨.none, 0, rfl, Lies.nil _ _, Nat.le_refl _, fun _ => rfl, hB⟩
def remErr (t : List Ent) (q : List UInt8) : Int := orL [(faultL false t).1, missL t q, fullL t q]
theorem remErr_of (t : List Ent) (q : List UInt8) (r : Int) (hr : Sorted t → r = missL t q) : orL [(faultL false t).1, r, fullL t q] = remErr t q := by
  unfold remErr
  by_cases h : (faultL false t).1 = 0
  · rw [hr (faultL_zero.1 h).sorted]
  · simp [orL, h]
theorem orL_zero {a : Int} {r : List Int} : orL (a :: r) = 0 ↔ a = 0 ∧ orL r = 0 := by
  rw [orL]
  by_cases h : a = 0 <;> simp [h]
theorem remErr_zero {t : List Ent} {q : List UInt8} (h : remErr t q = 0) : Right false t ∧ (∃ e ∈ t, e.p = q) ∧ ∀ x ∈ t, under x.p q = false := by
  unfold remErr at h
  obtain ⟨h1, h⟩ := orL_zero.1 h
  obtain ⟨h2, h⟩ := orL_zero.1 h
  obtain ⟨h3, _⟩ := orL_zero.1 h
  refine ⟨faultL_zero.1 h1, ?_, ?_⟩
  · unfold missL at h2
    split at h2
    · assumption
    · omega
  · unfold fullL at h3
    split at h3
    · omega
    · rename_i g; intro x hx; simpa using fun hu => g (List.any_eq_true.2 ⟨x, hx, hu⟩)

theorem field40 (a b : Value) (w : World) : Sem.run Tryz.prog (Instr.field 44 (.agg #[a, b]) 0) w = .ok a w := by
  first | kernel_rfl | simp [go_sem] | rfl
set_option maxHeartbeats 2000000 in
set_option maxRecDepth 100000 in
theorem remove_any (t : List Ent) (q : ByteArray) (m : Int) (p : Option Addr) (cap : Nat) (w : World) (hL : Lies w p t) (hF : Fits t) (hn : t.length < 4611686018427387904) (hcap : t.length ≤ cap) (hnil : p = none → cap = 0) (hq : q.size ≤ maxLen) (hm : w.cell? ⟨0, 0, none⟩ = some (.int .i64 m)) :
    Calls Tryz.prog 17 #[.slice p t.length cap, .string q] w (TreePost (remErr t q.data.toList) (if remErr t q.data.toList = 0 then remL t q.data.toList else []) w) := by
  have hwr := fun W (hB : Below w.heap.size w W) => wrong_any t m p cap W (hL.kept hB) hF hn hcap (held hB hm)
  have hms := fun W (hB : Below w.heap.size w W) => missing_any t q p cap W (hL.kept hB) hF hn hq
  have hfu := fun W (hB : Below w.heap.size w W) => full_any t q p cap W (hL.kept hB) hF hn hq
  have hwo := fun (h : remErr t q.data.toList = 0) W (hB : Below w.heap.size w W) => without_any t q p cap W (hL.kept hB) hnil (remErr_zero h).1.len
  have HRE : Aside (∀ r : Int, (Sorted t → r = missL t q.data.toList) → orL [(faultL false t).1, r, fullL t q.data.toList] = remErr t q.data.toList) := remErr_of t q.data.toList
  have hB : Below w.heap.size w w := Below.refl _ _
  clear hL hF hcap hnil hm
  generalize t.length = n at *
  generalize (faultL false t).1 = f at hwr HRE
  generalize ((faultL false t).2 : Int) = fa at hwr
  generalize fullL t q.data.toList = u at hfu HRE
  obtain ⟨l, hl⟩ : ∃ l, l = if remErr t q.data.toList = 0 then remL t q.data.toList else [] := ⟨_, rfl⟩
  rw [← hl]
  have HL : Aside (l = if remErr t q.data.toList = 0 then remL t q.data.toList else []) := hl
  clear hl
  generalize remErr t q.data.toList = er at HRE hwo HL ⊢
  have hfld := field40
  go_enter Tryz.func17, Tryz.ntmps17
  go_wp2_with (first
    | (go_at_call 31; refine (hwr _ hB).mono ?_; clear hwr; rintro e w1 ⟨rfl, hN⟩; replace hB := Below.onto hB hN; clear hN)
    | (go_at_call 47; refine (hms _ hB).mono ?_; clear hms; rintro e w2 ⟨r, rfl, hr, hN⟩; have HE : Aside (orL [f, r, u] = er) := HRE.out r hr; clear hr HRE; replace hB := Below.onto hB hN; clear hN)
    | (go_at_call 48; refine (hfu _ hB).mono ?_; clear hfu; rintro e w3 ⟨rfl, hN⟩; replace hB := Below.onto hB hN; clear hN)
    | (go_at_call 38; refine (or3_any _ _ _ _).mono ?_; rintro e w4 ⟨rfl, hw⟩; subst hw; replace hB := hB.alloc hB.size (.cells #[.int .i64 f, .int .i64 r, .int .i64 u] 30); rw [HE.out]; by_cases her : er = 0)
    | (go_at_call 49; refine (hwo her _ hB).mono ?_; clear hwo; rintro e w5 ⟨g, c, rfl, hg, hO, hN⟩; replace hB := Below.onto hB hN; clear hN))
  · go_ret2
    have hl := HL.out
    rw [if_pos her] at hl
    subst hl her
    exact ⟨some ⟨g, 0, none⟩, c, rfl, hO.lies, hO.len, nofun, hB⟩
  · go_ret2
    have hl := HL.out
    rw [if_neg her] at hl
    subst hl
    exact TreePost.none hB
end Go.Proofs.YtampldoimpfjgabGreatDoor
