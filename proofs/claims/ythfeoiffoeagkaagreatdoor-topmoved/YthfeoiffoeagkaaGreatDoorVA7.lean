/-
  Plain mathematics of layers as lists of entries: what a layer hides, what is seen, what layers come to; nothing of a program stands in it.
-/
import Derived.Test.YthfeoiffoeagkaaGreatDoorVA1
namespace Go.Proofs.YthfeoiffoeagkaaGreatDoor.PM
set_option linter.unusedVariables false
def putsL (b ms : List Ent) : List Ent:=ms.foldl putL b
theorem puts_mem : ∀ (ms b : List Ent),Sorted b → ms.Pairwise (fun a b => a.p ≠ b.p) → Sorted (putsL b ms) ∧ ∀ x,x ∈ putsL b ms ↔ x ∈ ms ∨ x ∈ b ∧ ∀ m ∈ ms,x.p ≠ m.p
 | [],b,hs,_ => ⟨hs,fun x => by simp [putsL]⟩
 | m :: ms,b,hs,hd => by
  have hd':=List.pairwise_cons.1 hd
  obtain ⟨h1,h2⟩:=puts_mem ms (putL b m) (sorted_putL hs m) hd'.2
  refine ⟨h1,fun x => ?_⟩
  show x ∈ putsL (putL b m) ms ↔ _
  rw [h2,mem_putL]
  constructor
  ·rintro (hx | ⟨rfl | ⟨hb,hne⟩,hm⟩)
   ·exact .inl (List.mem_cons_of_mem _ hx)
   ·exact .inl (by simp)
   ·refine .inr ⟨hb,fun y hy => ?_⟩
    rcases List.mem_cons.1 hy with rfl | hy
    ·exact hne
    ·exact hm y hy
  ·rintro (hx | ⟨hb,hm⟩)
   ·rcases List.mem_cons.1 hx with rfl | hx
    ·exact .inr ⟨.inl rfl,fun y hy => hd'.1 y hy⟩
    ·exact .inl hx
   ·exact .inr ⟨.inr ⟨hb,hm m (by simp)⟩,fun y hy => hm y (List.mem_cons_of_mem _ hy)⟩
theorem puts_len : ∀ (ms b : List Ent),Sorted b → ms.Pairwise (fun a b => a.p ≠ b.p) → (∀ x ∈ b,∀ m ∈ ms,x.p ≠ m.p) → (putsL b ms).length = ms.length + b.length
 | [],b,hs,_,_ => by simp [putsL]
 | m :: ms,b,hs,hd,hb => by
  have hd':=List.pairwise_cons.1 hd
  have h1 : (putL b m).length = b.length + 1:=by
   rw [putL_length hs,if_neg]
   rintro ⟨x,hx,hp⟩
   exact hb x hx m (by simp) hp
  have:=puts_len ms (putL b m) (sorted_putL hs m) hd'.2 (fun x hx y hy => by
   rcases mem_putL.1 hx with rfl | ⟨hx,_⟩
   ·exact hd'.1 y hy
   ·exact hb x hx y (List.mem_cons_of_mem _ hy))
  show (putsL (putL b m) ms).length = _
  rw [this,h1,List.length_cons];omega
theorem sorted_distinct {l : List Ent} (h : Sorted l) : l.Pairwise fun a b => a.p ≠ b.p:=h.imp ltE_ne
theorem sorted_of_weak {l : List Ent} (hd : l.Pairwise fun a b => a.p ≠ b.p) (hs : l.Pairwise fun a b => ¬ cmp b.p a.p < 0) : Sorted l:=by
 have:=hd.and hs
 refine this.imp ?_
 rintro a b ⟨h1,h2⟩
 exact cmp_ge h2 (Ne.symm h1)
theorem perm_sorted {l pre : List Ent} (hp : l.Perm pre) (hd : pre.Pairwise fun a b => a.p ≠ b.p) (hs : l.Pairwise fun a b => ¬ cmp b.p a.p < 0) : Sorted l :=
 sorted_of_weak ((hp.pairwise_iff (fun {a b} h => Ne.symm h)).2 hd) hs
theorem under_tr {a b c : List UInt8} (hb : b ≠ []) (hc : c ≠ []) (h1 : under a b = true) (h2 : under b c = true) : under a c = true:=by
 obtain ⟨r,rfl⟩:=(under_iff _ _ hb).1 h1
 obtain ⟨s,rfl⟩:=(under_iff _ _ hc).1 h2
 exact (under_iff _ _ hc).2 ⟨s ++ 47 :: r,by simp⟩
/-! layers -/
def clearE (e : Ent) : Ent:={ e with opq:=false }
def ownL (l : List Ent) : List Ent:=(l.filter fun e => !(e.kind == 4)).map clearE
def hidesE (q : List UInt8) (e : Ent) : Bool:=decide (e.p = q) && !(e.kind == 2) || under q e.p && (!(e.kind == 2) || e.opq)
def hidesL (l : List Ent) (q : List UInt8) : Bool:=l.any (hidesE q)
def seenThru (l : List Ent) (e : Ent) : Bool:=(getL l e.p).isNone && !hidesL l e.p
def thruL (l t : List Ent) : List Ent:=t.filter (seenThru l)
def overL (l t : List Ent) : List Ent:=putsL (thruL l t) (ownL l)
def overN (l t : List Ent) : Nat:=(ownL l ++ thruL l t).length
def overErr (l t : List Ent) : Int:=if (faultL true l).1 = 0 then (if (faultL false t).1 = 0 then (if 80 < overN l t then 5 else 0) else (faultL false t).1) else (faultL true l).1
theorem overErr_zero {l t : List Ent} : overErr l t = 0 ↔ Right true l ∧ Right false t ∧ overN l t ≤ 80:=by
 unfold overErr
 by_cases h1 : (faultL true l).1 = 0
 ·rw [if_pos h1]
  by_cases h2 : (faultL false t).1 = 0
  ·rw [if_pos h2]
   by_cases h3 : 80 < overN l t
   ·rw [if_pos h3]
    exact ⟨fun h => absurd h (by decide),fun h => by omega⟩
   ·rw [if_neg h3]
    exact ⟨fun _ => ⟨faultL_zero.1 h1,faultL_zero.1 h2,by omega⟩,fun _ => rfl⟩
  ·rw [if_neg h2]
   exact ⟨fun h => absurd h h2,fun h => absurd (faultL_zero.2 h.2.1) h2⟩
 ·rw [if_neg h1]
  exact ⟨fun h => absurd h h1,fun h => absurd (faultL_zero.2 h.1) h1⟩
theorem mem_ownL {l : List Ent} {x : Ent} : x ∈ ownL l ↔ ∃ y ∈ l,¬ y.kind = 4 ∧ clearE y = x:=by
 unfold ownL
 rw [List.mem_map]
 constructor
 ·rintro ⟨y,hy,rfl⟩
  rw [List.mem_filter] at hy
  exact ⟨y,hy.1,by simpa using hy.2,rfl⟩
 ·rintro ⟨y,hy,hk,rfl⟩
  exact ⟨y,List.mem_filter.2 ⟨hy,by simpa using hk⟩,rfl⟩
theorem mem_thruL {l t : List Ent} {x : Ent} : x ∈ thruL l t ↔ x ∈ t ∧ getL l x.p = none ∧ hidesL l x.p = false:=by
 unfold thruL seenThru
 rw [List.mem_filter]
 simp
theorem own_distinct {l : List Ent} (h : Sorted l) : (ownL l).Pairwise fun a b => a.p ≠ b.p:=by
 unfold ownL
 rw [List.pairwise_map]
 exact (List.Pairwise.filter _ h).imp fun h => ltE_ne h
theorem thru_own {l t : List Ent} : ∀ x ∈ thruL l t,∀ m ∈ ownL l,x.p ≠ m.p:=by
 intro x hx m hm he
 obtain ⟨y,hy,_,rfl⟩:=mem_ownL.1 hm
 exact (getL_none (mem_thruL.1 hx).2.1).2 y hy he.symm
theorem sorted_thru {l t : List Ent} (h : Sorted t) : Sorted (thruL l t):=List.Pairwise.filter _ h
theorem over_sorted {l t : List Ent} (hl : Sorted l) (ht : Sorted t) : Sorted (overL l t):=(puts_mem _ _ (sorted_thru ht) (own_distinct hl)).1
theorem mem_over {l t : List Ent} (hl : Sorted l) (ht : Sorted t) {x : Ent} : x ∈ overL l t ↔ x ∈ ownL l ∨ x ∈ thruL l t:=by
 unfold overL
 rw [(puts_mem _ _ (sorted_thru ht) (own_distinct hl)).2]
 exact ⟨fun h => h.imp id (·.1),fun h => h.imp id fun h => ⟨h,thru_own x h⟩⟩
theorem over_len {l t : List Ent} (hl : Sorted l) (ht : Sorted t) : (overL l t).length = overN l t:=by
 unfold overL overN
 rw [puts_len _ _ (sorted_thru ht) (own_distinct hl) thru_own,List.length_append]
theorem pre_distinct {l t : List Ent} (hl : Sorted l) (ht : Sorted t) : (ownL l ++ thruL l t).Pairwise fun a b => a.p ≠ b.p:=by
 rw [List.pairwise_append]
 exact ⟨own_distinct hl,sorted_distinct (sorted_thru ht),fun a ha b hb => Ne.symm (thru_own b hb a ha)⟩
theorem over_of {l t r : List Ent} (hl : Sorted l) (ht : Sorted t) (hp : r.Perm (ownL l ++ thruL l t)) (hs : r.Pairwise fun a b => ¬ cmp b.p a.p < 0) : r = overL l t:=by
 refine sorted_ext (perm_sorted hp (pre_distinct hl ht) hs) (over_sorted hl ht) fun x => ?_
 rw [mem_over hl ht,hp.mem_iff,List.mem_append]
theorem kind_layer {e : Ent} (h : wrongE e false = 0) : ¬ e.kind = 4 ∧ e.opq = false:=by
 unfold wrongE at h
 split at h
 ·omega
 rename_i h1
 split at h
 ·omega
 split at h
 ·omega
 split at h
 ·omega
 rename_i h4
 refine ⟨fun hk => h1 (by simp [hk]),?_⟩
 cases ho : e.opq with
 | false => rfl
 | true => exact absurd (by simp [ho]) h4
theorem wrongE_layer {e : Ent} (h : wrongE e false = 0) : wrongE e true = 0:=by
 obtain ⟨h4,ho⟩:=kind_layer h
 unfold wrongE at h ⊢
 rw [ho] at h ⊢
 simp [h4] at h ⊢
 exact h
theorem wrongE_clear {e : Ent} (h : wrongE e true = 0) (hk : ¬ e.kind = 4) : wrongE (clearE e) false = 0:=by
 unfold wrongE at h ⊢
 have hp : (clearE e).p = e.p:=rfl
 have h2 : (clearE e).kind = e.kind:=rfl
 have h3 : (clearE e).text = e.text:=rfl
 have h4 : (clearE e).opq = false:=rfl
 rw [hp,h2,h3,h4]
 simp only [hk,decide_false,Bool.and_false,Bool.false_and,Bool.not_false,Bool.and_true,Bool.or_false] at h ⊢
 split at h
 ·omega
 rename_i c1
 rw [if_neg c1]
 split at h
 ·omega
 rename_i c2
 rw [if_neg c2]
 split at h
 ·omega
 rename_i c3
 rw [if_neg c3]
 split at h
 ·omega
 rename_i c4
 rw [if_neg]
 intro c
 apply c4
 rw [c]
 rfl
theorem clearE_id {e : Ent} (h : e.opq = false) : clearE e = e:=by
 obtain ⟨p,k,t,o⟩:=e
 simp at h
 subst h;rfl
theorem Right.layer {t : List Ent} (h : Right false t) : Right true t:=⟨h.len,fun e he => wrongE_layer (h.each e he),h.sorted,h.dir⟩
theorem own_tree {t : List Ent} (h : Right false t) : ownL t = t:=by
 unfold ownL
 have h1 : (t.filter fun e => !(e.kind == 4)) = t:=List.filter_eq_self.2 fun e he => by simpa using (kind_layer (h.each e he)).1
 rw [h1]
 conv => rhs;rw [← List.map_id t]
 exact List.map_congr_left fun e he => clearE_id (kind_layer (h.each e he)).2
theorem over_right {l t : List Ent} (h : overErr l t = 0) : Right false (overL l t):=by
 obtain ⟨hl,ht,hn⟩:=overErr_zero.1 h
 refine ⟨by rw [over_len hl.sorted ht.sorted];exact hn,fun e he => ?_,over_sorted hl.sorted ht.sorted,fun e he => ?_⟩
 ·rcases (mem_over hl.sorted ht.sorted).1 he with he | he
  ·obtain ⟨y,hy,hk,rfl⟩:=mem_ownL.1 he
   exact wrongE_clear (hl.each y hy) hk
  ·exact ht.each e (mem_thruL.1 he).1
 ·have own_dir : ∀ d ∈ l,d.kind = 2 → ∃ x ∈ overL l t,x.p = d.p ∧ x.kind = 2:=fun d hd hk =>
   ⟨clearE d,(mem_over hl.sorted ht.sorted).2 (.inl (mem_ownL.2 ⟨d,hd,by omega,rfl⟩)),rfl,hk⟩
  rcases (mem_over hl.sorted ht.sorted).1 he with he | he
  ·obtain ⟨y,hy,hk,rfl⟩:=mem_ownL.1 he
   rcases hl.dir y hy with g | ⟨d,hd,hp,hk2⟩
   ·exact .inl g
   ·obtain ⟨x,h1,h2,h3⟩:=own_dir d hd hk2
    exact .inr ⟨x,h1,h2.trans hp,h3⟩
  ·obtain ⟨hm,hg,hh⟩:=mem_thruL.1 he
   rcases ht.dir e hm with g | ⟨d,hd,hp,hk2⟩
   ·exact .inl g
   ·have hdn : d.p ≠ []:=ht.ne hd
    have hu : under e.p d.p = true:=by rw [hp];exact dir_under (ht.ne hm) (by rw [← hp];exact hdn)
    have hno : ∀ y ∈ l,hidesE e.p y = false:=fun y hy => by
     cases hc : hidesE e.p y with
     | false => rfl
     | true => rw [show hidesL l e.p = true from List.any_eq_true.2 ⟨y,hy,hc⟩] at hh;cases hh
    cases hgl : getL l d.p with
    | some y =>
     obtain ⟨hy,hyp⟩:=getL_some hdn hgl
     have hky : y.kind = 2:=by
      have:=hno y hy
      unfold hidesE at this
      rw [hyp,hu] at this
      by_cases hk : y.kind = 2
      ·exact hk
      ·simp [hk] at this
     obtain ⟨x,h1,h2,h3⟩:=own_dir y hy hky
     exact .inr ⟨x,h1,h2.trans (hyp.trans hp),h3⟩
    | none =>
     refine .inr ⟨d,(mem_over hl.sorted ht.sorted).2 (.inr (mem_thruL.2 ⟨hd,hgl,?_⟩)),hp,hk2⟩
     cases hc : hidesL l d.p with
     | false => rfl
     | true =>
      obtain ⟨y,hy,hhy⟩:=List.any_eq_true.1 hc
      have:=hno y hy
      have hyd : ¬ y.p = d.p:=(getL_none hgl).2 y hy
      unfold hidesE at this hhy
      simp [hyd] at hhy
      rw [under_tr hdn (hl.ne hy) hu hhy.1] at this
      rcases hhy.2 with h | h <;> simp [h] at this
theorem right_nil (b : Bool) : Right b []:=⟨by simp,by simp,List.Pairwise.nil,by simp⟩
/-! many layers -/
def mergeF : List (List Ent) → Int × List Ent
 | [] => (0,[])
 | x :: r => if (mergeF r).1 = 0 then (overErr x (mergeF r).2,if overErr x (mergeF r).2 = 0 then overL x (mergeF r).2 else []) else ((mergeF r).1,[])
def mergeL (ls : List (List Ent)) : Int × List Ent:=if 5 < ls.length then (5,[]) else mergeF ls
theorem mergeF_ok {x : List Ent} {r : List (List Ent)} (h : (mergeF r).1 = 0) : mergeF (x :: r) = (overErr x (mergeF r).2,if overErr x (mergeF r).2 = 0 then overL x (mergeF r).2 else []):=by rw [mergeF,if_pos h]
theorem mergeF_err {x : List Ent} {r : List (List Ent)} (h : ¬ (mergeF r).1 = 0) : mergeF (x :: r) = ((mergeF r).1,[]):=by rw [mergeF,if_neg h]
theorem mergeF_zero {x : List Ent} {r : List (List Ent)} (h : (mergeF (x :: r)).1 = 0) : (mergeF r).1 = 0 ∧ overErr x (mergeF r).2 = 0 ∧ (mergeF (x :: r)).2 = overL x (mergeF r).2:=by
 by_cases h1 : (mergeF r).1 = 0
 ·rw [mergeF_ok h1] at h
  refine ⟨h1,h,?_⟩
  rw [mergeF_ok h1]
  show (if _ then _ else _) = _
  rw [if_pos h]
 ·rw [mergeF_err h1] at h
  exact absurd h h1
theorem mergeF_none : ∀ {ls : List (List Ent)},¬ (mergeF ls).1 = 0 → (mergeF ls).2 = []
 | [],h => absurd rfl h
 | x :: r,h => by
  by_cases h1 : (mergeF r).1 = 0
  ·rw [mergeF_ok h1] at h ⊢
   show (if _ then _ else _) = _
   rw [if_neg h]
  ·rw [mergeF_err h1]
theorem mergeF_right : ∀ {ls : List (List Ent)},(mergeF ls).1 = 0 → Right false (mergeF ls).2
 | [],_ => right_nil _
 | x :: r,h => by
  obtain ⟨h1,h2,h3⟩:=mergeF_zero h
  rw [h3]
  exact over_right h2
end Go.Proofs.YthfeoiffoeagkaaGreatDoor.PM
