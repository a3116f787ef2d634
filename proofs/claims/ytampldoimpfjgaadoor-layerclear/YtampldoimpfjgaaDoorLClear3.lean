/-
  The statement LayerClear: it answers true, and writes nothing that was there.
-/
import Derived.Test.YtampldoimpfjgaaDoorLClear2
import Derived.Test.YtampldoimpfjgaaDoorLClear4
namespace Go.Proofs.YtampldoimpfjgaaDoor
open Go.RowKit PM Go.Sort
set_option linter.unusedVariables false

theorem mergeF_none : ∀ {ls : List (List Ent)}, ¬ (mergeF ls).1 = 0 → (mergeF ls).2 = []
  | [], h => rfl
  | x :: r, h => by
    by_cases h1 : (mergeF r).1 = 0
    · rw [mergeF_ok h1] at h ⊢
      exact if_neg h
    · rw [mergeF_err h1]
theorem mergeL_none {ls : List (List Ent)} (h : ¬ (mergeL ls).1 = 0) : (mergeL ls).2 = [] := by
  unfold mergeL at h ⊢
  by_cases h5 : 5 < ls.length
  · rw [if_pos h5]
  · rw [if_neg h5] at h ⊢
    exact mergeF_none h
theorem clear_walk (ls : List Lay) (at' : Int) (t : List Ent) (m : Int) (p : Option Addr) (cap : Nat) (pt : Option Addr) (capt : Nat) (w : World) (hT : LiesT w p ls) (hOK : ∀ x ∈ ls, LayOK w x) (hcap : ls.length ≤ cap) (hnil : p = none → cap = 0)
    (hLt : Lies w pt t) (hFt : Fits t) (hnt : t.length < 4611686018427387904) (hct : t.length ≤ capt) (hm : w.cell? ⟨0, 0, none⟩ = some (.int .i64 m)) :
    Calls Tryd.prog 12 #[.slice p ls.length cap, .int .i64 at', .slice pt t.length capt] w fun r w' => r = .returned (.bool true) ∧ Below w.heap.size w w' := by
  have hal : AlC w := layerAlive_any m w hm
  have hmg : MgC w p ls.length cap (mergeL (ls.map (·.es))).1 (mergeL (ls.map (·.es))).2 := fun W hB => merge_any ls m p cap W (hT.kept hB) (fun x hx => (hOK x hx).kept hB) (held hB hm)
  by_cases e0 : ¬ (mergeL (ls.map (·.es))).1 = 0
  · rw [mergeL_none e0] at hmg
    exact clear_E p ls.length cap at' pt t.length capt w hal _ hmg e0
  replace e0 := Decidable.not_not.1 e0
  rw [e0] at hmg
  by_cases ha : at' < 0
  · exact clear_N p ls.length cap at' pt t.length capt w hal _ hmg ha
  by_cases hb : (ls.length : Int) < at'
  · exact clear_G p ls.length cap at' pt t.length capt w hal _ hmg ha hb
  by_cases h4 : (4 : Int) < (ls.length : Int)
  · exact clear_M p ls.length cap at' pt t.length capt w hal _ hmg ha hb h4
  obtain ⟨k, rfl⟩ : ∃ k : Nat, at' = (k : Int) := ⟨at'.toNat, by omega⟩
  have hk : k ≤ ls.length := by omega
  have hl4 : ls.length ≤ 4 := by omega
  obtain ⟨h5, hF⟩ := merge_len5 e0
  rw [hF] at e0 hmg
  have hsp : ls.map (·.es) = (ls.take k).map (·.es) ++ (ls.drop k).map (·.es) := by rw [← List.map_append, List.take_append_drop]
  have e1 := e0
  rw [hsp] at e1
  have hcl := mergeF_clear e1
  rw [← hsp] at hcl
  have hmk : MgK w (ls.take k) (ls.drop k) 0 (mergeF (ls.map (·.es))).2 := fun W v p' c' base hB hR => by
    obtain ⟨pp, cc, rfl, hTT⟩ := hR.form
    have := merge_any (ls.take k ++ [⟨p', c', []⟩] ++ ls.drop k) m pp cc W hTT (fun x hx => by
      rcases List.mem_append.1 hx with hx | hx
      · rcases List.mem_append.1 hx with hx | hx
        · exact (hOK x (List.mem_of_mem_take hx)).kept hB
        · rw [List.mem_singleton] at hx
          subst hx
          exact ⟨Lies.nil _ _, right_fitsL (right_nil false), Nat.zero_le _, show 0 < 4611686018427387904 by decide⟩
      · exact (hOK x (List.mem_of_mem_drop hx)).kept hB) (held hB hm)
    have hmap : (ls.take k ++ [(⟨p', c', []⟩ : Lay)] ++ ls.drop k).map (·.es) = (ls.take k).map (·.es) ++ [] :: (ls.drop k).map (·.es) := by simp
    have hlen : ¬ 5 < ((ls.take k).map (·.es) ++ [] :: (ls.drop k).map (·.es)).length := by simp; omega
    rw [hmap, mergeL, if_neg hlen, hcl, e0] at this
    exact this
  have hra := (mergeF_right e0).len
  have hlt : (ls.take k).length = k := by rw [List.length_take]; omega
  have hwr : WrC w pt t.length capt (faultL false t).1 ((faultL false t).2 : Nat) := fun W hB => wrong_any t m pt capt W (hLt.kept hB) hFt hnt hct (held hB hm)
  have hov : OvC w pt t.length capt (overErr t []) (if overErr t [] = 0 then overL t [] else []) := fun W hB => over_any t [] m pt none capt 0 W (hLt.kept hB) (Lies.nil _ _) hFt (right_fitsL (right_nil false)) hnt (by decide) hct (Nat.le_refl _) (held hB hm)
  generalize (mergeF (ls.map (·.es))).2 = allL at hmg hmk hra
  by_cases hck : cap = k
  · have hkl : k = ls.length := by omega
    have hcl' : cap = ls.length := by omega
    subst hcl'
    have hdr : ls.drop k = [] := by rw [hkl]; simp
    have htk : ls.take k = ls := by rw [hkl]; simp
    rw [htk, hdr] at hmk
    rw [show ((k : Nat) : Int) = (ls.length : Int) by omega]
    have hcells : ls = [] ∨ ∃ ad, p = some ad ∧ ∀ j y, ls[j]? = some y → w.cell? (ad.add j) = some y.v ∧ (ad.add j).block < w.heap.size := by
      cases p with
      | none => exact .inl (List.eq_nil_of_length_eq_zero (hnil rfl))
      | some ad =>
        rcases lay_cells hT rfl ls.length with h | h
        · exact .inl (by simpa using h)
        · exact .inr ⟨ad, rfl, by simpa using h⟩
    by_cases hft : (faultL false t).1 = 0
    · have hrt := faultL_zero.1 hft
      obtain ⟨o1, o2⟩ := over_bare hrt
      rw [faultL_right hrt] at hwr
      rw [if_pos o1, o1, o2] at hov
      exact clear_B0 ls p ls.length t pt capt w hal allL hmg hmk hcells rfl hnil hl4 hra hLt hrt.len hov hwr
    · exact clear_B1 ls p ls.length t pt capt w hal allL hmg hmk hcells rfl hnil hl4 hra hLt _ _ hov _ _ hft hwr
  · cases p with
    | none => exact absurd (by have := hnil rfl; omega) hck
    | some ad =>
      have hcd : ls.drop k = [] ∨ ∀ j y, (ls.drop k)[j]? = some y → w.cell? ((ad.add k).add j) = some y.v ∧ ((ad.add k).add j).block < w.heap.size := by
        have h := lay_cells (lies_drop hT k) rfl (ls.drop k).length
        rw [List.take_length] at h
        exact h
      by_cases hft : (faultL false t).1 = 0
      · have hrt := faultL_zero.1 hft
        obtain ⟨o1, o2⟩ := over_bare hrt
        rw [faultL_right hrt] at hwr
        rw [if_pos o1, o1, o2] at hov
        exact clear_A0 ls k ad ls.length cap t pt capt w hal allL hmg hmk (lay_cells hT rfl k) hcd hlt.symm (by rw [List.length_drop]) hk hcap hck hl4 hra hLt hrt.len hov hwr
      · exact clear_A1 ls k ad ls.length cap t pt capt w hal allL hmg hmk (lay_cells hT rfl k) hcd hlt.symm (by rw [List.length_drop]) hk hcap hck hl4 hra hLt _ _ hov _ _ hft hwr
end Go.Proofs.YtampldoimpfjgaaDoor
