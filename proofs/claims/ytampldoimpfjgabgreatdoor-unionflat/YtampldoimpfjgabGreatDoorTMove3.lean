/-
  tree.Move: what it answers, and the tree that comes of it.
-/
import Derived.Test.YtampldoimpfjgabGreatDoorTMove2
namespace Go.Proofs.YtampldoimpfjgabGreatDoor
open Go.RowKit PM Go.Sort
set_option linter.unusedVariables false

def moveAsk (t : List Ent) (f : List UInt8) : Int := orL [(faultL false t).1, missL t f]
def moveAsk2 (t : List Ent) (f to : List UInt8) : Int := orL [noDirL t (dirOf to), roomL t f to]
def moveErr (t : List Ent) (frm to : ByteArray) : Int :=
  if moveAsk t frm.data.toList = 0 then
    if clean to.data.toList = true then
      if frm.data.toList = to.data.toList then 0
      else if under to.data.toList frm.data.toList = true then 8
      else if moveAsk2 t frm.data.toList to.data.toList = 0 then (if badMove t frm to = true then 4 else 0)
      else moveAsk2 t frm.data.toList to.data.toList
    else 7
  else moveAsk t frm.data.toList
def MovePost (t : List Ent) (frm to : ByteArray) (w : World) (r : Ending) (w' : World) : Prop :=
  ∃ l, TreePost (moveErr t frm to) l w r w' ∧ (moveErr t frm to ≠ 0 → l = []) ∧
    (moveErr t frm to = 0 → (frm.data.toList = to.data.toList → l = t) ∧ (frm.data.toList ≠ to.data.toList → l.Perm (movedPre t frm to) ∧ l.Pairwise fun a b => ¬ cmp b.p a.p < 0))
theorem moveAsk_of (t : List Ent) (f : List UInt8) (r : Int) (hr : Sorted t → r = missL t f) : orL [(faultL false t).1, r] = moveAsk t f := by
  unfold moveAsk
  by_cases h : (faultL false t).1 = 0
  · rw [hr (faultL_zero.1 h).sorted]
  · simp [orL, h]
theorem moveAsk_zero {t : List Ent} {f : List UInt8} (h : moveAsk t f = 0) : Right false t ∧ ∃ e ∈ t, e.p = f := by
  unfold moveAsk at h
  obtain ⟨h1, h⟩ := orL_zero.1 h
  obtain ⟨h2, _⟩ := orL_zero.1 h
  refine ⟨faultL_zero.1 h1, ?_⟩
  unfold missL at h2
  split at h2
  · assumption
  · omega
theorem MovePost.err {t : List Ent} {frm to : ByteArray} {w w' : World} {er : Int} (he : er = moveErr t frm to) (h0 : er ≠ 0) (hB : Below w.heap.size w w') : MovePost t frm to w (.returned (.tuple #[.slice none 0 0, .int .i64 er])) w' := by
  subst he
  exact ⟨[], TreePost.none hB, fun _ => rfl, fun h => absurd h h0⟩

set_option maxHeartbeats 8000000 in
set_option maxRecDepth 100000 in
theorem move_any (t : List Ent) (frm to : ByteArray) (m : Int) (p : Option Addr) (cap : Nat) (w : World) (hL : Lies w p t) (hF : Fits t) (hn : t.length < 4611686018427387904) (hcap : t.length ≤ cap) (hnil : p = none → cap = 0)
    (hf : frm.size ≤ maxLen) (ht : to.size ≤ maxLen) (hm : w.cell? ⟨0, 0, none⟩ = some (.int .i64 m)) :
    Calls Tryz.prog 19 #[.slice p t.length cap, .string frm, .string to] w (MovePost t frm to w) := by
  have hwr := fun W (hB : Below w.heap.size w W) => wrong_any t m p cap W (hL.kept hB) hF hn hcap (held hB hm)
  have hms := fun W (hB : Below w.heap.size w W) => missing_any t frm p cap W (hL.kept hB) hF hn hf
  have hcl := fun W (hB : Below w.heap.size w W) => clean_any to m W ht (held hB hm)
  have HA : Aside (∀ r : Int, (Sorted t → r = missL t frm.data.toList) → orL [(faultL false t).1, r] = moveAsk t frm.data.toList) := moveAsk_of t frm.data.toList
  have hB : Below w.heap.size w w := Below.refl _ _
  have hfld := field40
  have HER : Aside (moveErr t frm to = if moveAsk t frm.data.toList = 0 then
    if clean to.data.toList = true then
      if frm.data.toList = to.data.toList then 0
      else if under to.data.toList frm.data.toList = true then 8
      else if moveAsk2 t frm.data.toList to.data.toList = 0 then (if badMove t frm to = true then 4 else 0)
      else moveAsk2 t frm.data.toList to.data.toList
    else 7
  else moveAsk t frm.data.toList) := rfl
  have HZ : Aside (moveAsk t frm.data.toList = 0 → Right false t ∧ ∃ e ∈ t, e.p = frm.data.toList) := moveAsk_zero
  obtain ⟨n, hnl⟩ : ∃ n, n = t.length := ⟨_, rfl⟩
  have HN : Aside (n = t.length) := hnl
  generalize (faultL false t).1 = f at hwr HA
  generalize ((faultL false t).2 : Int) = fa at hwr
  generalize moveAsk t frm.data.toList = ask at HA HER HZ
  by_cases hask : ask = 0
  · subst hask
    have HRT := HZ.out rfl
    have HR : Aside (Right false t ∧ ∃ e ∈ t, e.p = frm.data.toList) := HRT
    have hf80 : frm.size ≤ 80 := by
      obtain ⟨hr, x, hx, hxp⟩ := HRT
      have := hr.clean hx
      rw [hxp] at this
      exact clean_size this
    have HL : Aside (Lies w p t) := hL
    have HFt : Aside (Fits t) := hF
    rw [if_pos rfl] at HER
    cases hct : clean to.data.toList with
    | false =>
      have HE7 : Aside (7 = moveErr t frm to) := by show _ = _; rw [HER.out, hct]; rfl
      rw [hct] at hcl
      rw [← hnl] at hwr hms ⊢
      clear hnl HRT hL hF hn hcap
      go_enter Tryz.func19, Tryz.ntmps19
      go_wp2_with (first
        | (go_at_call 31; refine (hwr _ hB).mono ?_; clear hwr; rintro e w1 ⟨rfl, hN⟩; replace hB := Below.onto hB hN; clear hN)
        | (go_at_call 47; refine (hms _ hB).mono ?_; clear hms; rintro e w2 ⟨r, rfl, hr, hN⟩; have HE : Aside (orL [f, r] = 0) := HA.out r hr; clear hr HA; replace hB := Below.onto hB hN; clear hN)
        | (go_at_call 38; refine (or2_any _ _ _).mono ?_; rintro e w4 ⟨rfl, hw⟩; subst hw; replace hB := hB.alloc hB.size (.cells #[.int .i64 f, .int .i64 r] 30); rw [HE.out])
        | (go_at_call 53; refine (hcl _ hB).mono ?_; clear hcl; rintro e w5 ⟨rfl, hN⟩; replace hB := Below.onto hB hN; clear hN))
      go_ret2
      exact MovePost.err HE7.out (by decide) hB
    | true =>
      have ht80 : to.size ≤ 80 := clean_size hct
      rw [hct, if_pos rfl] at HER
      rw [hct] at hcl
      have hn80 : n ≤ 80 := by rw [hnl]; exact HRT.1.len
      have hun := fun W => under_any to frm W ht hf
      have hnd : ∀ W, Below w.heap.size w W → Calls Tryz.prog 40 #[.slice p t.length cap, .string to] W fun r w' => r = .returned (.int .i64 (noDirL t (dirOf to.data.toList))) ∧ Below W.heap.size W w' := fun W hB => (noDirFor_any t to p cap W (hL.kept hB) hF hn ht (by omega)).mono fun r w' ⟨x, h1, h2, h3⟩ => ⟨by rw [h1, h2 HRT.1.sorted], h3⟩
      have hro := fun W (hB : Below w.heap.size w W) => noRoom_any t frm to p cap W (hL.kept hB) hF hn hf ht HRT.1.sorted
      have hmo := fun W (hB : Below w.heap.size w W) => moved_any t frm to m p cap W (hL.kept hB) hnil HRT.1 hf80 ht80 (held hB hm)
      have HA2 : Aside (orL [noDirL t (dirOf to.data.toList), roomL t frm.data.toList to.data.toList] = moveAsk2 t frm.data.toList to.data.toList) := rfl
      generalize noDirL t (dirOf to.data.toList) = nd at hnd HA2
      generalize roomL t frm.data.toList to.data.toList = rm at hro HA2
      generalize moveAsk2 t frm.data.toList to.data.toList = ask2 at HA2 HER
      rw [← hnl] at hwr hms hnd hro hmo ⊢
      clear hnl HRT hL hF hn hcap
      by_cases hft : frm.data.toList = to.data.toList
      · have HE0 : Aside (moveErr t frm to = 0) := by show _ = _; rw [HER.out, if_pos hft]
        obtain ⟨e1, e2⟩ := eq_parts hft
        have HFT : Aside (frm.data.toList = to.data.toList) := hft
        clear hft hun hnd hro hmo HER HA2
        go_enter Tryz.func19, Tryz.ntmps19
        go_wp2_with (first
        | (go_at_call 31; refine (hwr _ hB).mono ?_; clear hwr; rintro e w1 ⟨rfl, hN⟩; replace hB := Below.onto hB hN; clear hN)
        | (go_at_call 47; refine (hms _ hB).mono ?_; clear hms; rintro e w2 ⟨r, rfl, hr, hN⟩; have HE : Aside (orL [f, r] = 0) := HA.out r hr; clear hr HA; replace hB := Below.onto hB hN; clear hN)
        | (go_at_call 38; refine (or2_any _ _ _).mono ?_; rintro e w4 ⟨rfl, hw⟩; subst hw; replace hB := hB.alloc hB.size (.cells #[.int .i64 f, .int .i64 r] 30); rw [HE.out]; clear HE)
        | (go_at_call 53; refine (hcl _ hB).mono ?_; clear hcl; rintro e w5 ⟨rfl, hN⟩; replace hB := Below.onto hB hN; clear hN)
        | (at_builtin; refine append_copy _ rfl _ _ rfl w5.heap.size rfl ?_ p n cap t rfl HN.out ?_ hnil hn80 ?_ ?_))
        · exact empty_row w5 _ rfl
        · exact (HL.out.kept hB).grown ((Grown.refl _).alloc _)
        · simp
        · intro g c w6 hO hg hB6
          have hX : Below w5.heap.size w5 w6 := ((Below.refl _ _).alloc (Nat.le_refl _) _).trans hB6
          have H6 : Aside (Own w6 g c t ∧ Below w.heap.size w w6) := ⟨hO, Below.onto hB hX⟩
          clear hO hB6 hX
          go_wp2
          go_ret2
          refine ⟨t, ?_, fun h => absurd HE0.out h, fun _ => ⟨fun _ => rfl, fun h => absurd HFT.out h⟩⟩
          rw [HE0.out]
          exact ⟨some ⟨g, 0, none⟩, c, by rw [← HN.out]; rfl, H6.out.1.lies, H6.out.1.len, nofun, H6.out.2⟩
      · rw [if_neg hft] at HER
        obtain ⟨e1, e2⟩ := ne_parts hft
        have HFT : Aside (frm.data.toList ≠ to.data.toList) := hft
        clear hft
        cases hut : under to.data.toList frm.data.toList with
        | true =>
          have HE8 : Aside (8 = moveErr t frm to) := by show _ = _; rw [HER.out, hut]; rfl
          rw [hut] at hun
          clear hnd hro hmo HER HA2
          go_enter Tryz.func19, Tryz.ntmps19
          go_wp2_with (first
        | (go_at_call 31; refine (hwr _ hB).mono ?_; clear hwr; rintro e w1 ⟨rfl, hN⟩; replace hB := Below.onto hB hN; clear hN)
        | (go_at_call 47; refine (hms _ hB).mono ?_; clear hms; rintro e w2 ⟨r, rfl, hr, hN⟩; have HE : Aside (orL [f, r] = 0) := HA.out r hr; clear hr HA; replace hB := Below.onto hB hN; clear hN)
        | (go_at_call 38; refine (or2_any _ _ _).mono ?_; rintro e w4 ⟨rfl, hw⟩; subst hw; replace hB := hB.alloc hB.size (.cells #[.int .i64 f, .int .i64 r] 30); rw [HE.out]; clear HE)
        | (go_at_call 53; refine (hcl _ hB).mono ?_; clear hcl; rintro e w5 ⟨rfl, hN⟩; replace hB := Below.onto hB hN; clear hN)
        | (go_at_call 54; refine (hun _).mono ?_; rintro rr wx ⟨rfl, hwx⟩; subst wx))
          go_ret2
          exact MovePost.err HE8.out (by decide) hB
        | false =>
          rw [hut] at hun HER
          rw [if_neg (by decide)] at HER
          by_cases hask2 : ask2 = 0
          · rw [if_pos hask2] at HER
            subst hask2
            go_enter Tryz.func19, Tryz.ntmps19
            go_wp2_with (first
        | (go_at_call 31; refine (hwr _ hB).mono ?_; clear hwr; rintro e w1 ⟨rfl, hN⟩; replace hB := Below.onto hB hN; clear hN)
        | (go_at_call 47; refine (hms _ hB).mono ?_; clear hms; rintro e w2 ⟨r, rfl, hr, hN⟩; have HE : Aside (orL [f, r] = 0) := HA.out r hr; clear hr HA; replace hB := Below.onto hB hN; clear hN)
        | (go_at_call 38; refine (or2_any _ _ _).mono ?_; rintro e w4 ⟨rfl, hw⟩; subst hw; replace hB := hB.alloc hB.size (.cells #[.int .i64 f, .int .i64 r] 30); rw [HE.out]; clear HE)
        | (go_at_call 53; refine (hcl _ hB).mono ?_; clear hcl; rintro e w5 ⟨rfl, hN⟩; replace hB := Below.onto hB hN; clear hN)
        | (go_at_call 54; refine (hun _).mono ?_; rintro rr wx ⟨rfl, hwx⟩; subst wx)
        | (go_at_call 40; refine (hnd _ hB).mono ?_; clear hnd; rintro rr w6 ⟨rfl, hN⟩; replace hB := Below.onto hB hN; clear hN)
        | (go_at_call 55; refine (hro _ hB).mono ?_; clear hro; rintro rr w7 ⟨rfl, hN⟩; replace hB := Below.onto hB hN; clear hN)
        | (go_at_call 38; refine (or2_any _ _ _).mono ?_; rintro rr w8 ⟨rfl, hw⟩; subst hw; replace hB := hB.alloc hB.size (.cells #[.int .i64 nd, .int .i64 rm] 30); rw [HA2.out])
        | (go_at_call 56; refine (hmo _ hB).mono ?_; clear hmo; rintro rr w9 (⟨hbad, p9, c9, rfl, hl9, hc9, hn9, hB9⟩ | ⟨hbad, l9, hp9, hs9, p9, c9, rfl, hl9, hc9, hn9, hB9⟩)))
            · go_ret2
              have h4 : moveErr t frm to = 4 := by rw [HER.out, if_pos hbad]
              refine ⟨[], ?_, fun _ => rfl, fun h => by rw [h4] at h; cases h⟩
              rw [h4]
              exact ⟨p9, c9, rfl, hl9, hc9, hn9, Below.onto hB hB9⟩
            · go_ret2
              have h0 : moveErr t frm to = 0 := by rw [HER.out, if_neg (by rw [hbad]; decide)]
              refine ⟨l9, ?_, fun h => absurd h0 h, fun _ => ⟨fun h => absurd h HFT.out, fun _ => ⟨hp9, hs9.imp (fun h => by omega)⟩⟩⟩
              rw [h0]
              exact ⟨p9, c9, rfl, hl9, hc9, hn9, Below.onto hB hB9⟩
          · rw [if_neg hask2] at HER
            clear hmo
            go_enter Tryz.func19, Tryz.ntmps19
            go_wp2_with (first
        | (go_at_call 31; refine (hwr _ hB).mono ?_; clear hwr; rintro e w1 ⟨rfl, hN⟩; replace hB := Below.onto hB hN; clear hN)
        | (go_at_call 47; refine (hms _ hB).mono ?_; clear hms; rintro e w2 ⟨r, rfl, hr, hN⟩; have HE : Aside (orL [f, r] = 0) := HA.out r hr; clear hr HA; replace hB := Below.onto hB hN; clear hN)
        | (go_at_call 38; refine (or2_any _ _ _).mono ?_; rintro e w4 ⟨rfl, hw⟩; subst hw; replace hB := hB.alloc hB.size (.cells #[.int .i64 f, .int .i64 r] 30); rw [HE.out]; clear HE)
        | (go_at_call 53; refine (hcl _ hB).mono ?_; clear hcl; rintro e w5 ⟨rfl, hN⟩; replace hB := Below.onto hB hN; clear hN)
        | (go_at_call 54; refine (hun _).mono ?_; rintro rr wx ⟨rfl, hwx⟩; subst wx)
        | (go_at_call 40; refine (hnd _ hB).mono ?_; clear hnd; rintro rr w6 ⟨rfl, hN⟩; replace hB := Below.onto hB hN; clear hN)
        | (go_at_call 55; refine (hro _ hB).mono ?_; clear hro; rintro rr w7 ⟨rfl, hN⟩; replace hB := Below.onto hB hN; clear hN)
        | (go_at_call 38; refine (or2_any _ _ _).mono ?_; rintro rr w8 ⟨rfl, hw⟩; subst hw; replace hB := hB.alloc hB.size (.cells #[.int .i64 nd, .int .i64 rm] 30); rw [HA2.out]))
            go_ret2
            exact MovePost.err HER.out.symm hask2 hB
  · have HEA : Aside (ask = moveErr t frm to) := by show _ = _; rw [HER.out, if_neg hask]
    rw [← hnl] at hwr hms ⊢
    clear hnl hL hF hn hcap hcl
    go_enter Tryz.func19, Tryz.ntmps19
    go_wp2_with (first
      | (go_at_call 31; refine (hwr _ hB).mono ?_; clear hwr; rintro e w1 ⟨rfl, hN⟩; replace hB := Below.onto hB hN; clear hN)
      | (go_at_call 47; refine (hms _ hB).mono ?_; clear hms; rintro e w2 ⟨r, rfl, hr, hN⟩; have HE : Aside (orL [f, r] = ask) := HA.out r hr; clear hr HA; replace hB := Below.onto hB hN; clear hN)
      | (go_at_call 38; refine (or2_any _ _ _).mono ?_; rintro e w4 ⟨rfl, hw⟩; subst hw; replace hB := hB.alloc hB.size (.cells #[.int .i64 f, .int .i64 r] 30); rw [HE.out]))
    go_ret2
    exact MovePost.err HEA.out hask hB
end Go.Proofs.YtampldoimpfjgabGreatDoor
