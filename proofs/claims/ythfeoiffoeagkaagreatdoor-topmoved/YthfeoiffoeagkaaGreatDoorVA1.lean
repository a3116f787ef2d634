/-
  Plain mathematics of trees as lists of entries: right trees, what is put, removed and moved; nothing of a program stands in it.
-/
import Derived.Test.YthfeoiffoeagkaaGreatDoorVA0
import Derived.Shelf.SlSortCmp.QuietGrown
import Derived.Shelf.SlicesQ.Load
import Derived.Deep.LoopGhost
namespace Go.Proofs.YthfeoiffoeagkaaGreatDoor.PM
set_option linter.unusedVariables false
structure Ent where
 path : ByteArray
 kind : Int
 text : ByteArray
 opq : Bool
deriving DecidableEq
instance : Inhabited Ent:=⟨⟨ByteArray.empty,0,ByteArray.empty,false⟩⟩
def Ent.p (e : Ent) : List UInt8:=e.path.data.toList
theorem ba_ext {a b : ByteArray} (h : a.data.toList = b.data.toList) : a = b:=by
 cases a;cases b;simp at h;simp [h]
def ltE (a b : Ent) : Prop:=cmp a.p b.p < 0
def Sorted (t : List Ent) : Prop:=t.Pairwise ltE
theorem cmp_self (a : List UInt8) : cmp a a = 0:=(cmp_zero a a).2 rfl
theorem ltE_ne {a b : Ent} (h : ltE a b) : a.p ≠ b.p:=by
 intro e;unfold ltE at h;rw [e,cmp_self] at h;omega
theorem ltE_trans {a b c : Ent} (h : ltE a b) (g : ltE b c) : ltE a c:=cmp_trans _ _ _ h g
theorem ltE_asymm {a b : Ent} (h : ltE a b) (g : ltE b a) : False:=by
 have:=ltE_trans h g;exact ltE_ne this rfl
theorem sorted_ext : ∀ {a b : List Ent},Sorted a → Sorted b → (∀ x,x ∈ a ↔ x ∈ b) → a = b
 | [],[],_,_,_ => rfl
 | [],y :: b,_,_,h => absurd ((h y).2 (by simp)) (by simp)
 | x :: a,[],_,_,h => absurd ((h x).1 (by simp)) (by simp)
 | x :: a,y :: b,ha,hb,h => by
  have ha':=List.pairwise_cons.1 ha
  have hb':=List.pairwise_cons.1 hb
  have e : x = y:=by
   rcases List.mem_cons.1 ((h x).1 (by simp)) with e | e
   ·exact e
   ·rcases List.mem_cons.1 ((h y).2 (by simp)) with g | g
    ·exact g.symm
    ·exact (ltE_asymm (hb'.1 x e) (ha'.1 y g)).elim
  subst e
  rw [sorted_ext ha'.2 hb'.2 fun z => ?_]
  constructor
  ·intro hz
   rcases List.mem_cons.1 ((h z).1 (by simp [hz])) with e | e
   ·exact absurd (congrArg Ent.p e).symm (ltE_ne (ha'.1 z hz))
   ·exact e
  ·intro hz
   rcases List.mem_cons.1 ((h z).2 (by simp [hz])) with e | e
   ·exact absurd (congrArg Ent.p e).symm (ltE_ne (hb'.1 z hz))
   ·exact e
theorem sorted_inj {t : List Ent} (h : Sorted t) {x y : Ent} (hx : x ∈ t) (hy : y ∈ t) (e : x.p = y.p) : x = y:=by
 induction t with
 | nil => simp at hx
 | cons z t ih =>
  have h':=List.pairwise_cons.1 h
  rcases List.mem_cons.1 hx with gx | gx <;> rcases List.mem_cons.1 hy with gy | gy
  ·rw [gx,gy]
  ·subst gx;exact absurd e (ltE_ne (h'.1 y gy))
  ·subst gy;exact absurd e.symm (ltE_ne (h'.1 x gx))
  ·exact ih h'.2 gx gy
def dirE : Ent:=⟨ByteArray.empty,2,ByteArray.empty,false⟩
def getL (t : List Ent) (p : List UInt8) : Option Ent:=if p = [] then some dirE else t.find? fun e => e.p = p
theorem getL_nil (t : List Ent) : getL t [] = some dirE:=by simp [getL]
theorem getL_some {t : List Ent} {p : List UInt8} {e : Ent} (h : p ≠ []) (hg : getL t p = some e) : e ∈ t ∧ e.p = p:=by
 rw [getL,if_neg h] at hg
 exact ⟨List.mem_of_find?_eq_some hg,by simpa using List.find?_some hg⟩
theorem getL_none {t : List Ent} {p : List UInt8} (hg : getL t p = none) : p ≠ [] ∧ ∀ e ∈ t,e.p ≠ p:=by
 by_cases h : p = []
 ·rw [h,getL_nil] at hg;cases hg
 ·rw [getL,if_neg h] at hg
  exact ⟨h,fun e he => by simpa using List.find?_eq_none.1 hg e he⟩
theorem getL_of {t : List Ent} (hs : Sorted t) {e : Ent} (he : e ∈ t) (h : e.p ≠ []) : getL t e.p = some e:=by
 cases hg : getL t e.p with
 | none => exact absurd rfl ((getL_none hg).2 e he)
 | some f => rw [sorted_inj hs he (getL_some h hg).1 (getL_some h hg).2.symm]
theorem getL_none_of {t : List Ent} {p : List UInt8} (h : p ≠ []) (hn : ∀ e ∈ t,e.p ≠ p) : getL t p = none:=by
 cases hg : getL t p with
 | none => rfl
 | some f => exact absurd (getL_some h hg).2 (hn f (getL_some h hg).1)
def wrongE (e : Ent) (layer : Bool) : Int :=
 if !(e.kind = 1 || e.kind = 3) && !(e.kind = 2) && !(layer && e.kind = 4) then 1
 else if !clean e.p then 7
 else if 100 < e.text.size then 4
 else if e.text.size ≠ 0 && !(e.kind = 1 || e.kind = 3) || (e.text.size = 0 && e.kind = 3) || (e.opq && !(layer && e.kind = 2)) then 8
 else 0
theorem wrongE_clean {e : Ent} {layer : Bool} (h : wrongE e layer = 0) : clean e.p = true:=by
 unfold wrongE at h
 split at h
 ·omega
 ·split at h
  ·omega
  ·rename_i _ h2;simpa using h2
theorem wrongE_path {e f : Ent} {layer : Bool} (h : wrongE e layer = 0) (hk : f.kind = e.kind) (ht : f.text = e.text) (ho : f.opq = e.opq) (hc : clean f.p = true) : wrongE f layer = 0:=by
 have he:=wrongE_clean h
 unfold wrongE at h ⊢
 rw [hk,ht,ho,hc];rw [he] at h;exact h
theorem clean_ne {l : List UInt8} (h : clean l = true) : l ≠ []:=by
 rintro rfl
 simp [clean,parts,pa,named] at h
def dirOf (l : List UInt8) : List UInt8:=(cutL l).1
structure Right (layer : Bool) (t : List Ent) : Prop where
 len : t.length ≤ 80
 each : ∀ e ∈ t,wrongE e layer = 0
 sorted : Sorted t
 dir : ∀ e ∈ t,dirOf e.p = [] ∨ ∃ d ∈ t,d.p = dirOf e.p ∧ d.kind = 2
theorem Right.clean {b : Bool} {t : List Ent} (h : Right b t) {e : Ent} (he : e ∈ t) : clean e.p = true:=wrongE_clean (h.each e he)
theorem Right.ne {b : Bool} {t : List Ent} (h : Right b t) {e : Ent} (he : e ∈ t) : e.p ≠ []:=clean_ne (h.clean he)
theorem under_dir {l p : List UInt8} (hp : p ≠ []) (hu : under l p = true) : dirOf l = p ∨ under (dirOf l) p = true:=by
 obtain ⟨r,rfl⟩:=(under_iff l p hp).1 hu
 rcases cases_last r with hf | ⟨a,b,rfl,hb⟩
 ·left;rw [dirOf,cutL_slash p r hf]
 ·right
  have : dirOf (p ++ 47 :: (a ++ 47 :: b)) = p ++ 47 :: a:=by
   rw [dirOf,show p ++ 47 :: (a ++ 47 :: b) = (p ++ 47 :: a) ++ 47 :: b by simp,cutL_slash _ b hb]
  rw [this];exact (under_iff _ _ hp).2 ⟨a,rfl⟩
theorem dirOf_le (l : List UInt8) : (dirOf l).length ≤ l.length:=by
 rcases cases_last l with hf | ⟨a,b,rfl,hb⟩
 ·rw [dirOf,cutL_free l hf];simp
 ·rw [dirOf,cutL_slash a b hb];simp
theorem dirOf_short {l : List UInt8} (h : l ≠ []) : (dirOf l).length < l.length:=by
 rcases cases_last l with hf | ⟨a,b,rfl,hb⟩
 ·rw [dirOf,cutL_free l hf];cases l with | nil => exact absurd rfl h | cons => simp
 ·rw [dirOf,cutL_slash a b hb];simp
theorem Right.below {b : Bool} {t : List Ent} (h : Right b t) {p : List UInt8} (hp : p ≠ []) : ∀ (n : Nat) {e : Ent},e.p.length ≤ n → e ∈ t → under e.p p = true → ∃ d ∈ t,d.p = p ∧ d.kind = 2:=by
 intro n
 induction n with
 | zero => intro e hn he _;exact absurd (List.length_eq_zero_iff.1 (by omega)) (h.ne he)
 | succ n ih =>
  intro e hn he hu
  have hd : ∃ d ∈ t,d.p = dirOf e.p ∧ d.kind = 2:=by
   rcases h.dir e he with hd | hd
   ·rcases under_dir hp hu with g | g
    ·exact absurd (g.symm.trans hd) hp
    ·obtain ⟨r,e'⟩:=(under_iff _ _ hp).1 g
     rw [hd] at e';simp at e'
   ·exact hd
  obtain ⟨d,hdt,hdp,hdk⟩:=hd
  rcases under_dir hp hu with g | g
  ·exact ⟨d,hdt,hdp.trans g,hdk⟩
  ·exact ih (by rw [hdp];have:=dirOf_short (h.ne he);omega) hdt (by rw [hdp];exact g)
theorem dir_under {l : List UInt8} (h : l ≠ []) (hd : dirOf l ≠ []) : under l (dirOf l) = true:=by
 rcases cases_last l with hf | ⟨a,b,rfl,hb⟩
 ·rw [dirOf,cutL_free l hf] at hd;exact absurd rfl hd
 ·rw [dirOf,cutL_slash a b hb] at hd ⊢;exact (under_iff _ _ hd).2 ⟨b,rfl⟩
theorem dir_lt {l : List UInt8} (h : l ≠ []) (hd : dirOf l ≠ []) : cmp (dirOf l) l < 0:=by
 obtain ⟨r,e⟩:=(under_iff _ _ hd).1 (dir_under h hd)
 have:=cmp_under (dirOf l) r
 rwa [← e] at this
/-! what is wrong with a list,first -/
def noDirL (t : List Ent) (p : List UInt8) : Int:=match getL t p with | none => 6 | some e => if e.kind = 2 then 0 else 10
def notAhead (ahead : List Ent) (p : List UInt8) : Bool:=match ahead.getLast? with | none => false | some e => decide (0 ≤ cmp e.p p)
def placeL (ahead : List Ent) (p : List UInt8) : Int :=
 if notAhead ahead p then 2
 else if noDirL ahead (dirOf p) = 0 then 0 else 10
def faultE (layer : Bool) (ahead : List Ent) (e : Ent) : Int:=if wrongE e layer = 0 then placeL ahead e.p else wrongE e layer
def faultFrom (layer : Bool) (ahead : List Ent) : List Ent → Int × Nat
 | [] => (0,0)
 | e :: r => if faultE layer ahead e = 0 then faultFrom layer (ahead ++ [e]) r else (faultE layer ahead e,ahead.length)
def faultL (layer : Bool) (t : List Ent) : Int × Nat:=if 80 < t.length then (5,0) else faultFrom layer [] t
theorem sorted_snoc {a : List Ent} {e : Ent} : Sorted (a ++ [e]) ↔ Sorted a ∧ ∀ x ∈ a,ltE x e:=by
 unfold Sorted
 rw [List.pairwise_append];simp
theorem sorted_snoc_last {a : List Ent} {e : Ent} (h : Sorted a) (hl : ∀ x,a.getLast? = some x → ltE x e) : Sorted (a ++ [e]):=by
 refine sorted_snoc.2 ⟨h,fun x hx => ?_⟩
 rcases List.eq_nil_or_concat a with rfl | ⟨b,y,rfl⟩
 ·simp at hx
 ·have hy:=hl y (by simp)
  rw [List.concat_eq_append] at hx h
  rcases List.mem_append.1 hx with hx | hx
  ·exact ltE_trans ((sorted_snoc.1 h).2 x hx) hy
  ·simp at hx;subst hx;exact hy
theorem noDirL_zero {t : List Ent} {p : List UInt8} : noDirL t p = 0 ↔ p = [] ∨ ∃ d ∈ t,d.p = p ∧ d.kind = 2 ∧ getL t p = some d:=by
 unfold noDirL
 constructor
 ·intro h
  by_cases hp : p = []
  ·exact .inl hp
  ·cases hg : getL t p with
   | none => rw [hg] at h;simp at h
   | some e =>
    rw [hg] at h
    refine .inr ⟨e,(getL_some hp hg).1,(getL_some hp hg).2,?_,rfl⟩
    by_cases hk : e.kind = 2
    ·exact hk
    ·simp [hk] at h
 ·rintro (rfl | ⟨d,_,_,hk,hg⟩)
  ·rw [getL_nil];rfl
  ·rw [hg];simp [hk]
structure Good (layer : Bool) (t : List Ent) : Prop where
 each : ∀ e ∈ t,wrongE e layer = 0
 sorted : Sorted t
 dir : ∀ e ∈ t,dirOf e.p = [] ∨ ∃ d ∈ t,d.p = dirOf e.p ∧ d.kind = 2
theorem Good.snoc {b : Bool} {a : List Ent} {e : Ent} (h : Good b a) (hf : faultE b a e = 0) : Good b (a ++ [e]):=by
 unfold faultE at hf
 split at hf
 ·rename_i hw
  unfold placeL at hf
  split at hf
  ·omega
  ·rename_i hl
   split at hf
   ·rename_i hd
    refine ⟨fun x hx => ?_,sorted_snoc_last h.sorted fun x hx => ?_,fun x hx => ?_⟩
    ·rcases List.mem_append.1 hx with hx | hx
     ·exact h.each x hx
     ·simp at hx;subst hx;exact hw
    ·unfold notAhead at hl;rw [hx] at hl;simp at hl;exact hl
    ·rcases List.mem_append.1 hx with hx | hx
     ·rcases h.dir x hx with g | ⟨d,h1,h2⟩
      ·exact .inl g
      ·exact .inr ⟨d,by simp [h1],h2⟩
     ·simp at hx;subst hx
      rcases noDirL_zero.1 hd with g | ⟨d,h1,h2,h3,_⟩
      ·exact .inl g
      ·exact .inr ⟨d,by simp [h1],h2,h3⟩
   ·omega
 ·omega
theorem good_nil (b : Bool) : Good b []:=⟨by simp,List.Pairwise.nil,by simp⟩
theorem fault_none {b : Bool} {a : List Ent} {e : Ent} {r : List Ent} (h : Good b (a ++ e :: r)) : faultE b a e = 0:=by
 have hs:=List.pairwise_append.1 h.sorted
 have hw:=h.each e (by simp)
 have hne:=clean_ne (wrongE_clean hw)
 unfold faultE placeL
 rw [if_pos hw]
 have h1 : notAhead a e.p = false:=by
  unfold notAhead
  cases hg : a.getLast? with
  | none => rfl
  | some x =>
   have hx:=List.mem_of_getLast? hg
   have:=hs.2.2 x hx e (by simp)
   unfold ltE at this
   simp;omega
 rw [h1]
 simp only [Bool.false_eq_true,if_false]
 rw [if_pos]
 refine noDirL_zero.2 ?_
 by_cases hd : dirOf e.p = []
 ·exact .inl hd
 rcases h.dir e (by simp) with g | ⟨d,hdt,hdp,hdk⟩
 ·exact absurd g hd
 ·have hlt : ltE d e:=by unfold ltE;rw [hdp];exact dir_lt hne hd
  have hda : d ∈ a:=by
   rcases List.mem_append.1 hdt with g | g
   ·exact g
   ·rcases List.mem_cons.1 g with rfl | g
    ·exact absurd rfl (ltE_ne hlt)
    ·exact (ltE_asymm hlt ((List.pairwise_cons.1 hs.2.1).1 d g)).elim
  exact .inr ⟨d,hda,hdp,hdk,by rw [← hdp];exact getL_of hs.1 hda (by rw [hdp];exact hd)⟩
theorem faultFrom_zero {b : Bool} : ∀ (r a : List Ent),Good b a → ((faultFrom b a r).1 = 0 ↔ Good b (a ++ r))
 | [],a,h => by simp [faultFrom,h]
 | e :: r,a,h => by
  rw [faultFrom]
  split
  ·rename_i hf
   rw [faultFrom_zero r (a ++ [e]) (h.snoc hf)];simp
  ·rename_i hf
   constructor
   ·intro g;exact absurd g hf
   ·intro g;exact absurd (fault_none g) hf
theorem faultFrom_at {b : Bool} : ∀ (r a : List Ent),(faultFrom b a r).1 = 0 → faultFrom b a r = (0,0)
 | [],_,_ => rfl
 | e :: r,a,h => by
  rw [faultFrom] at h ⊢
  split
  ·rename_i hf;rw [if_pos hf] at h;exact faultFrom_at r _ h
  ·rename_i hf;rw [if_neg hf] at h;exact absurd h hf
theorem faultL_zero {b : Bool} {t : List Ent} : (faultL b t).1 = 0 ↔ Right b t:=by
 unfold faultL
 split
 ·rename_i h
  constructor
  ·intro g;simp at g
  ·intro g;have:=g.len;omega
 ·rename_i h
  rw [faultFrom_zero t [] (good_nil b),List.nil_append]
  constructor
  ·intro g;exact ⟨by omega,g.each,g.sorted,g.dir⟩
  ·intro g;exact ⟨g.each,g.sorted,g.dir⟩
theorem faultL_right {b : Bool} {t : List Ent} (h : Right b t) : faultL b t = (0,0):=by
 have h0:=faultL_zero.2 h
 unfold faultL at h0 ⊢
 rw [if_neg (by have:=h.len;omega)] at h0 ⊢
 exact faultFrom_at _ _ h0
end Go.Proofs.YthfeoiffoeagkaaGreatDoor.PM
namespace Go.Proofs.YthfeoiffoeagkaaGreatDoor.PM
set_option linter.unusedVariables false
theorem cmp_flip {a b : List UInt8} : 0 < cmp a b ↔ cmp b a < 0:=by rw [cmp_anti a b];omega
theorem cmp_ge {a b : List UInt8} (h : ¬ cmp a b < 0) (hn : a ≠ b) : cmp b a < 0:=by
 have h0 : cmp a b ≠ 0:=fun e => hn ((cmp_zero a b).1 e)
 rw [cmp_anti b a];omega
/-! put -/
def putL (t : List Ent) (e : Ent) : List Ent:=t.filter (fun x => decide (cmp x.p e.p < 0)) ++ e :: t.filter (fun x => decide (0 < cmp x.p e.p))
theorem mem_putL {t : List Ent} {e x : Ent} : x ∈ putL t e ↔ x = e ∨ x ∈ t ∧ x.p ≠ e.p:=by
 unfold putL
 simp only [List.mem_append,List.mem_cons,List.mem_filter,decide_eq_true_eq]
 constructor
 ·rintro (⟨h,g⟩ | rfl | ⟨h,g⟩)
  ·exact .inr ⟨h,fun e' => by rw [e',cmp_self] at g;omega⟩
  ·exact .inl rfl
  ·exact .inr ⟨h,fun e' => by rw [e',cmp_self] at g;omega⟩
 ·rintro (rfl | ⟨h,g⟩)
  ·exact .inr (.inl rfl)
  ·by_cases hl : cmp x.p e.p < 0
   ·exact .inl ⟨h,hl⟩
   ·exact .inr (.inr ⟨h,cmp_flip.2 (cmp_ge hl g)⟩)
theorem sorted_putL {t : List Ent} (h : Sorted t) (e : Ent) : Sorted (putL t e):=by
 unfold putL Sorted
 rw [List.pairwise_append]
 refine ⟨List.Pairwise.filter _ h,List.pairwise_cons.2 ⟨fun x hx => ?_,List.Pairwise.filter _ h⟩,fun x hx y hy => ?_⟩
 ·have:=(List.mem_filter.1 hx).2;simp at this;exact cmp_flip.1 this
 ·have g1:=(List.mem_filter.1 hx).2;simp at g1
  rcases List.mem_cons.1 hy with rfl | hy
  ·exact g1
  ·have g2:=(List.mem_filter.1 hy).2;simp at g2
   exact cmp_trans _ _ _ g1 (cmp_flip.1 g2)
structure PlaceAt (t : List Ent) (p : List UInt8) (i : Nat) : Prop where
 le : i ≤ t.length
 lo : ∀ (h : 0 < i) (h' : i - 1 < t.length),cmp (t[i - 1]'h').p p < 0
 hi : ∀ (h : i < t.length),0 ≤ cmp (t[i]'h).p p
theorem PlaceAt.below {t : List Ent} {p : List UInt8} {i : Nat} (h : PlaceAt t p i) (hs : Sorted t) {j : Nat} (hj : j < t.length) (hji : j < i) : cmp (t[j]'hj).p p < 0:=by
 have hi1 : i - 1 < t.length:=by have:=h.le;omega
 have h1:=h.lo (by omega) hi1
 by_cases e : j = i - 1
 ·subst e;exact h1
 ·have:=List.pairwise_iff_getElem.1 hs j (i - 1) hj hi1 (by omega)
  exact cmp_trans _ _ _ this h1
theorem PlaceAt.above {t : List Ent} {p : List UInt8} {i : Nat} (h : PlaceAt t p i) (hs : Sorted t) {j : Nat} (hj : j < t.length) (hji : i < j) : 0 < cmp (t[j]'hj).p p:=by
 have hi1 : i < t.length:=by omega
 have h1:=h.hi hi1
 have h2 : ltE t[i] t[j]:=List.pairwise_iff_getElem.1 hs i j hi1 hj hji
 apply cmp_flip.2
 by_cases e : cmp (t[i]'hi1).p p = 0
 ·rw [← (cmp_zero _ _).1 e];exact h2
 ·exact cmp_trans _ _ _ (cmp_flip.1 (by omega)) h2
def isAt (t : List Ent) (p : List UInt8) (i : Nat) : Bool:=if h : i < t.length then decide ((t[i]'h).p = p) else false
theorem isAt_iff {t : List Ent} {p : List UInt8} {i : Nat} : isAt t p i = true ↔ ∃ h : i < t.length,(t[i]'h).p = p:=by
 unfold isAt;split
 ·rename_i h;simp [h]
 ·rename_i h;simp;intro g;exact absurd g h
theorem PlaceAt.there {t : List Ent} {p : List UInt8} {i : Nat} (h : PlaceAt t p i) (hs : Sorted t) : isAt t p i = true ↔ ∃ e ∈ t,e.p = p:=by
 rw [isAt_iff]
 constructor
 ·rintro ⟨g,e⟩;exact ⟨t[i],List.getElem_mem g,e⟩
 ·rintro ⟨e,he,hp⟩
  obtain ⟨j,hj,rfl⟩:=List.getElem_of_mem he
  by_cases e1 : j = i
  ·subst e1;exact ⟨hj,hp⟩
  ·exfalso
   by_cases e2 : j < i
   ·have:=h.below hs hj e2;rw [hp,cmp_self] at this;omega
   ·have:=h.above hs hj (by omega);rw [hp,cmp_self] at this;omega
theorem PlaceAt.take {t : List Ent} {p : List UInt8} {i : Nat} (h : PlaceAt t p i) (hs : Sorted t) {x : Ent} : x ∈ t.take i ↔ x ∈ t ∧ cmp x.p p < 0:=by
 constructor
 ·intro hx
  obtain ⟨j,hj,rfl⟩:=List.getElem_of_mem hx
  rw [List.length_take] at hj
  rw [List.getElem_take]
  exact ⟨List.getElem_mem _,h.below hs _ (by omega)⟩
 ·rintro ⟨hx,hl⟩
  obtain ⟨j,hj,rfl⟩:=List.getElem_of_mem hx
  have hji : j < i:=by
   by_cases e : j < i
   ·exact e
   ·exfalso
    by_cases e1 : j = i
    ·subst e1;have:=h.hi hj;omega
    ·have:=h.above hs hj (by omega);omega
  exact List.mem_take_iff_getElem.2 ⟨j,by omega,rfl⟩
theorem PlaceAt.insert {t : List Ent} {e : Ent} {i : Nat} (h : PlaceAt t e.p i) (hs : Sorted t) (hn : isAt t e.p i = false) : t.take i ++ e :: t.drop i = putL t e:=by
 have hno : ∀ x ∈ t,x.p ≠ e.p:=fun x hx hp => by have:=(h.there hs).2 ⟨x,hx,hp⟩;rw [hn] at this;cases this
 have hd : ∀ x ∈ t.drop i,0 < cmp x.p e.p:=by
  intro x hx
  have hxt:=List.mem_of_mem_drop hx
  obtain ⟨j,hj,rfl⟩:=List.getElem_of_mem hx
  rw [List.length_drop] at hj
  rw [List.getElem_drop] at hxt ⊢
  by_cases e0 : j = 0
  ·subst e0
   have h1:=h.hi (by omega)
   have h2:=hno _ hxt
   simp only [Nat.add_zero] at h1 h2 ⊢
   have : cmp (t[i]'(by omega)).p e.p ≠ 0:=fun g => h2 ((cmp_zero _ _).1 g)
   omega
  ·exact h.above hs _ (by omega)
 refine sorted_ext ?_ (sorted_putL hs e) fun x => ?_
 ·have hs' : Sorted (t.take i ++ t.drop i):=by rw [List.take_append_drop];exact hs
  have hs'':=List.pairwise_append.1 hs'
  unfold Sorted
  rw [List.pairwise_append]
  refine ⟨hs''.1,List.pairwise_cons.2 ⟨fun x hx => cmp_flip.1 (hd x hx),hs''.2.1⟩,fun x hx y hy => ?_⟩
  have g:=((h.take hs).1 hx).2
  rcases List.mem_cons.1 hy with rfl | hy
  ·exact g
  ·exact cmp_trans _ _ _ g (cmp_flip.1 (hd y hy))
 ·rw [mem_putL]
  constructor
  ·intro hx
   rcases List.mem_append.1 hx with g | g
   ·have:=List.mem_of_mem_take g;exact .inr ⟨this,hno x this⟩
   ·rcases List.mem_cons.1 g with rfl | g
    ·exact .inl rfl
    ·have:=List.mem_of_mem_drop g;exact .inr ⟨this,hno x this⟩
  ·rintro (rfl | ⟨hx,_⟩)
   ·simp
   ·rw [← List.take_append_drop i t] at hx
    rcases List.mem_append.1 hx with g | g
    ·simp [g]
    ·simp [g]
theorem PlaceAt.set {t : List Ent} {e : Ent} {i : Nat} (h : PlaceAt t e.p i) (hs : Sorted t) (hn : isAt t e.p i = true) : t.set i e = putL t e:=by
 obtain ⟨hi,hp⟩:=isAt_iff.1 hn
 refine sorted_ext ?_ (sorted_putL hs e) fun x => ?_
 ·unfold Sorted
  rw [List.pairwise_iff_getElem]
  intro a b ha hb hab
  rw [List.length_set] at ha hb
  have h0:=List.pairwise_iff_getElem.1 hs a b ha hb hab
  unfold ltE at h0 ⊢
  rw [List.getElem_set,List.getElem_set]
  split <;> split
  ·omega
  ·rename_i g _;subst g;rw [← hp];exact h0
  ·rename_i _ g;subst g;rw [← hp];exact h0
  ·exact h0
 ·rw [mem_putL]
  constructor
  ·intro hx
   obtain ⟨j,hj,rfl⟩:=List.getElem_of_mem hx
   rw [List.length_set] at hj
   rw [List.getElem_set]
   split
   ·exact .inl rfl
   ·rename_i g
    refine .inr ⟨List.getElem_mem _,fun e' => g ?_⟩
    have hh : t[j] = t[i]:=sorted_inj hs (List.getElem_mem _) (List.getElem_mem _) (e'.trans hp.symm)
    by_cases c1 : i < j
    ·have:=List.pairwise_iff_getElem.1 hs i j hi hj c1;rw [hh] at this;exact absurd rfl (ltE_ne this)
    ·by_cases c2 : j < i
     ·have:=List.pairwise_iff_getElem.1 hs j i hj hi c2;rw [hh] at this;exact absurd rfl (ltE_ne this)
     ·omega
  ·rintro (rfl | ⟨hx,hne⟩)
   ·exact List.mem_iff_getElem.2 ⟨i,by rw [List.length_set];exact hi,by simp⟩
   ·obtain ⟨j,hj,rfl⟩:=List.getElem_of_mem hx
    refine List.mem_iff_getElem.2 ⟨j,by rw [List.length_set];exact hj,?_⟩
    rw [List.getElem_set_ne]
    rintro rfl
    exact hne hp
theorem putL_length {t : List Ent} {e : Ent} (hs : Sorted t) : (putL t e).length = if ∃ x ∈ t,x.p = e.p then t.length else t.length + 1:=by
 have hl : (t.filter fun x => decide (cmp x.p e.p < 0)).length + (t.filter fun x => decide (0 < cmp x.p e.p)).length + (t.filter fun x => decide (x.p = e.p)).length = t.length:=by
  clear hs
  induction t with
  | nil => rfl
  | cons x t ih =>
   by_cases h0 : x.p = e.p
   ·have h1 : ¬ cmp x.p e.p < 0:=by rw [h0,cmp_self];omega
    have h2 : ¬ 0 < cmp x.p e.p:=by rw [h0,cmp_self];omega
    simp [h0,cmp_self] at ih ⊢;omega
   ·have h3 : cmp x.p e.p ≠ 0:=fun g => h0 ((cmp_zero _ _).1 g)
    by_cases h1 : cmp x.p e.p < 0
    ·have h2 : ¬ 0 < cmp x.p e.p:=by omega
     simp [h0,h1,h2] at ih ⊢;omega
    ·have h2 : 0 < cmp x.p e.p:=by omega
     simp [h0,h1,h2] at ih ⊢;omega
 have hc : (t.filter fun x => decide (x.p = e.p)).length = if ∃ x ∈ t,x.p = e.p then 1 else 0:=by
  split
  ·rename_i h
   obtain ⟨x,hx,hp⟩:=h
   have : (t.filter fun x => decide (x.p = e.p)) = [x]:=by
    refine sorted_ext (List.Pairwise.filter _ hs) (List.pairwise_singleton _ _) fun y => ?_
    simp only [List.mem_filter,decide_eq_true_eq,List.mem_singleton]
    constructor
    ·rintro ⟨hy,hq⟩;exact sorted_inj hs hy hx (hq.trans hp.symm)
    ·rintro rfl;exact ⟨hx,hp⟩
   rw [this];rfl
  ·rename_i h
   rw [List.length_eq_zero_iff,List.filter_eq_nil_iff]
   intro x hx;simp;exact fun g => h ⟨x,hx,g⟩
 unfold putL
 simp only [List.length_append,List.length_cons]
 rw [hc] at hl
 split <;> simp_all <;> omega
theorem Right.put {t : List Ent} {e : Ent} (h : Right false t) (hw : wrongE e false = 0) (hd : noDirL t (dirOf e.p) = 0)
  (hk : ∀ x ∈ t,x.p = e.p → (x.kind = 2 ↔ e.kind = 2)) (hm : (∀ x ∈ t,x.p ≠ e.p) → t.length < 80) : Right false (putL t e):=by
 refine ⟨?_,fun x hx => ?_,sorted_putL h.sorted e,fun x hx => ?_⟩
 ·rw [putL_length h.sorted]
  split
  ·exact h.len
  ·rename_i g;have:=hm fun x hx hp => g ⟨x,hx,hp⟩;omega
 ·rcases mem_putL.1 hx with rfl | ⟨hx,_⟩
  ·exact hw
  ·exact h.each x hx
 ·have key : dirOf x.p = [] ∨ ∃ d ∈ t,d.p = dirOf x.p ∧ d.kind = 2:=by
   rcases mem_putL.1 hx with rfl | ⟨hx,_⟩
   ·rcases noDirL_zero.1 hd with g | ⟨d,h1,h2,h3,_⟩
    ·exact .inl g
    ·exact .inr ⟨d,h1,h2,h3⟩
   ·exact h.dir x hx
  rcases key with g | ⟨d,h1,h2,h3⟩
  ·exact .inl g
  ·by_cases g : d.p = e.p
   ·exact .inr ⟨e,mem_putL.2 (.inl rfl),g.symm.trans h2,(hk d h1 g).1 h3⟩
   ·exact .inr ⟨d,mem_putL.2 (.inr ⟨h1,g⟩),h2,h3⟩
/-! remove -/
def remL (t : List Ent) (p : List UInt8) : List Ent:=t.filter fun x => !decide (x.p = p)
theorem mem_remL {t : List Ent} {p : List UInt8} {x : Ent} : x ∈ remL t p ↔ x ∈ t ∧ x.p ≠ p:=by simp [remL]
theorem sorted_remL {t : List Ent} (h : Sorted t) (p : List UInt8) : Sorted (remL t p):=List.Pairwise.filter _ h
theorem Right.rem {b : Bool} {t : List Ent} (h : Right b t) {p : List UInt8} (hp : p ≠ []) (hf : ∀ x ∈ t,under x.p p = false) : Right b (remL t p):=by
 refine ⟨Nat.le_trans (List.length_filter_le _ _) h.len,fun x hx => h.each x (mem_remL.1 hx).1,sorted_remL h.sorted p,fun x hx => ?_⟩
 rcases h.dir x (mem_remL.1 hx).1 with g | ⟨d,h1,h2,h3⟩
 ·exact .inl g
 ·refine .inr ⟨d,mem_remL.2 ⟨h1,fun e => ?_⟩,h2,h3⟩
  have:=hf x (mem_remL.1 hx).1
  have hd : dirOf x.p = p:=h2.symm.trans e
  have hu:=dir_under (h.ne (mem_remL.1 hx).1) (by rw [hd];exact hp)
  rw [hd,this] at hu;cases hu
end Go.Proofs.YthfeoiffoeagkaaGreatDoor.PM
namespace Go.Proofs.YthfeoiffoeagkaaGreatDoor
open Go.RowKit PM Go.Sort
set_option linter.unusedVariables false
def encE (e : Ent) : List Value:=[.string e.path,.int .i64 e.kind,.string e.text,.bool e.opq]
def Grown (w w' : World) : Prop:=∃ n os,w' = grow (w.drewN n) os
theorem Grown.refl (w : World) : Grown w w:=⟨0,#[],by simp [grow,World.drewN]⟩
theorem Grown.trans {a b c : World} (h : Grown a b) (g : Grown b c) : Grown a c:=by
 obtain ⟨n,os,rfl⟩:=h
 obtain ⟨m,ps,rfl⟩:=g
 exact ⟨n + m,os ++ ps,by simp [grow,World.drewN,Nat.add_assoc]⟩
theorem Grown.alloc {a b : World} (h : Grown a b) (o : Obj) : Grown a (b.alloc o):=h.trans ⟨0,#[o],by rw [alloc_eq_grow];rfl⟩
theorem Grown.drewN {a b : World} (h : Grown a b) (n : Nat) : Grown a (b.drewN n):=h.trans ⟨n,#[],by simp [grow,World.drewN]⟩
theorem Grown.below {a b : World} (h : Grown a b) : Below a.heap.size a b:=by
 obtain ⟨n,os,rfl⟩:=h
 refine ⟨rfl,rfl,rfl,by simp [grow,World.drewN],fun k hk => ?_⟩
 show (a.heap ++ os)[k]? = _
 rw [Array.getElem?_append_left hk]
theorem Grown.cell {a b : World} (h : Grown a b) {p : Addr} (hp : p.block < a.heap.size) : b.cell? p = a.cell? p:=h.below.cell hp
theorem Grown.size {a b : World} (h : Grown a b) : a.heap.size ≤ b.heap.size:=h.below.size
def Lies (w : World) (p : Option Addr) (l : List Ent) : Prop :=
 l = [] ∨ ∃ b off,p = some ⟨b,off,none⟩ ∧ b < w.heap.size ∧ ∀ j e,l[j]? = some e → ∀ i v,(encE e)[i]? = some v → w.cell? ⟨b,off + j * 4 + i,none⟩ = some v
theorem Lies.below {w w' : World} {p : Option Addr} {l : List Ent} (h : Lies w p l) {B : Nat} (hB : Below B w w') (hs : w.heap.size ≤ B) : Lies w' p l:=by
 rcases h with h | ⟨b,off,h1,h2,h3⟩
 ·exact .inl h
 ·exact .inr ⟨b,off,h1,Nat.lt_of_lt_of_le h2 hB.size,fun j e hj i v hv => (hB.cell (p:=⟨b,off + j * 4 + i,none⟩) (Nat.lt_of_lt_of_le h2 hs)).trans (h3 j e hj i v hv)⟩
theorem Lies.kept {w w' : World} {p : Option Addr} {l : List Ent} (h : Lies w p l) (hB : Below w.heap.size w w') : Lies w' p l:=h.below hB (Nat.le_refl _)
theorem Lies.grown {w w' : World} {p : Option Addr} {l : List Ent} (h : Lies w p l) (hB : Grown w w') : Lies w' p l:=h.kept hB.below
theorem Lies.nil (w : World) (p : Option Addr) : Lies w p []:=.inl rfl
theorem Lies.take {w : World} {p : Option Addr} {l : List Ent} (h : Lies w p l) (k : Nat) : Lies w p (l.take k):=by
 rcases h with h | ⟨b,off,h1,h2,h3⟩
 ·exact .inl (by rw [h];simp)
 ·refine .inr ⟨b,off,h1,h2,fun j e hj => h3 j e ?_⟩
  rw [List.getElem?_take] at hj
  split at hj
  ·exact hj
  ·cases hj
theorem Lies.cells {w : World} {b off : Nat} {l : List Ent} (h3 : ∀ j e,l[j]? = some e → ∀ i v,(encE e)[i]? = some v → w.cell? ⟨b,off + j * 4 + i,none⟩ = some v) (hb : b < w.heap.size) {W : World} (hW : Below w.heap.size w W) {j : Nat} {e : Ent} (he : l[j]? = some e) :
  W.cell? ⟨b,off + j * 4,none⟩ = some (.string e.path) ∧ W.cell? ⟨b,off + j * 4 + 1,none⟩ = some (.int .i64 e.kind) ∧ W.cell? ⟨b,off + j * 4 + 2,none⟩ = some (.string e.text) ∧ W.cell? ⟨b,off + j * 4 + 3,none⟩ = some (.bool e.opq):=by
 have h:=fun i v hv => (hW.cell (p:=⟨b,off + j * 4 + i,none⟩) hb).trans (h3 j e he i v hv)
 exact ⟨h 0 _ rfl,h 1 _ rfl,h 2 _ rfl,h 3 _ rfl⟩
def Fits (l : List Ent) : Prop:=∀ e ∈ l,e.path.size ≤ maxLen ∧ e.text.size ≤ maxLen
theorem Fits.at {l : List Ent} (h : Fits l) {j : Nat} {e : Ent} (he : l[j]? = some e) : e.path.size ≤ maxLen ∧ e.text.size ≤ maxLen:=h e (List.mem_of_getElem? he)
theorem cmpE_any (e : Ent) (q : ByteArray) (w : World) (he : e.path.size ≤ maxLen) (hq : q.size ≤ maxLen) :
  Calls Tryz.prog 82 #[.agg #[.string e.path, .int .i64 e.kind, .string e.text, .bool e.opq],.string q] w fun r w' => r = .returned (.int .i64 (cmp e.p q.data.toList)) ∧ Grown w w':=by
 go_enter Tryz.func82,Tryz.ntmps82
 go_wp2_with (go_at_call 83;refine (compare_any _ _ _ he hq).mono ?_;rintro r w' ⟨rfl,n,rfl⟩)
 go_ret
 exact ⟨rfl,((Grown.refl w).alloc _).drewN _⟩
def FindPost (t : List Ent) (q : List UInt8) (w : World) (e : Ending) (w' : World) : Prop :=
 ∃ i : Nat,e = .returned (.tuple #[.int .i64 i,.bool (isAt t q i)]) ∧ PlaceAt t q i ∧ Grown w w'
set_option maxHeartbeats 4000000 in
theorem search_any (t : List Ent) (q : ByteArray) (p : Option Addr) (cap : Nat) (w : World) (hL : Lies w p t) (hF : Fits t) (hn : t.length < 4611686018427387904) (hq : q.size ≤ maxLen) :
  Calls Tryz.prog 81 #[.slice p t.length cap,.string q,.func (.func 82) #[] #[]] w (FindPost t q.data.toList w):=by
 have HF : Aside (Fits t):=hF
 have HL : Aside (Lies w p t):=hL
 clear hL hF
 obtain ⟨n,hnl⟩ : ∃ n,n = t.length:=⟨_,rfl⟩
 have HN : Aside (n = t.length):=hnl
 rw [← hnl] at hn ⊢
 clear hnl
 go_enter Tryz.func81,Tryz.ntmps81
 go_wp2
 go_loopg [9,10] n (fun kx s9 s10 wr => ∃ lo hi : Nat,s9 = .int .i64 lo ∧ s10 = .int .i64 hi ∧ lo ≤ hi ∧ hi ≤ n ∧ hi - lo ≤ kx ∧ Aside (Grown w wr) ∧
  Aside ((∀ (h : 0 < lo) (h' : lo - 1 < t.length),cmp (t[lo - 1]'h').p q.data.toList < 0) ∧ (∀ (h : hi < t.length),0 ≤ cmp (t[hi]'h).p q.data.toList)))
 case atStart => exact ⟨0,n,rfl,rfl,Nat.zero_le _,Nat.le_refl _,by omega,Grown.refl w,(⟨fun h => absurd h (Nat.not_lt_zero _),fun h => by have:=HN.out;omega⟩ : (∀ (h : 0 < 0) (h' : 0 - 1 < t.length),cmp (t[0 - 1]'h').p q.data.toList < 0) ∧ (∀ (h : n < t.length),0 ≤ cmp (t[n]'h).p q.data.toList))⟩
 case round =>
  obtain ⟨lo,hi,rfl,rfl,hlh,hin,hg,S1,I⟩:=hrel
  by_cases hlt : lo < hi
  ·obtain ⟨y,hy⟩ : ∃ y,t[(lo + hi) / 2]? = some y:=⟨_,List.getElem?_eq_getElem (by have:=HN.out;omega)⟩
   have Y : Aside (t[(lo + hi) / 2]? = some y):=hy
   rcases HL.out with h0 | ⟨b,off,rfl,hb,hc⟩
   ·rw [h0] at hy;simp at hy
   obtain ⟨c0,c1,c2,c3⟩:=Lies.cells hc hb S1.out.below hy
   have hyp:=(HF.out.at hy).1
   clear hc hy
   have hcl:=fun W => cmpE_any y q W hyp hq
   have HI1 : Aside (cmp y.p q.data.toList < 0 → ∀ (h : 0 < (lo + hi) / 2 + 1) (h' : (lo + hi) / 2 + 1 - 1 < t.length),cmp (t[(lo + hi) / 2 + 1 - 1]'h').p q.data.toList < 0):=fun h1 _ h' => by
    have:=(List.getElem?_eq_some_iff.1 Y.out).2;simp only [Nat.add_sub_cancel] at h' ⊢;rw [this];exact h1
   have HI2 : Aside (¬ cmp y.p q.data.toList < 0 → ∀ (h : (lo + hi) / 2 < t.length),0 ≤ cmp (t[(lo + hi) / 2]'h).p q.data.toList):=fun h1 h => by
    have:=(List.getElem?_eq_some_iff.1 Y.out).2;rw [this];omega
   generalize cmp y.p q.data.toList = c at hcl HI1 HI2
   by_cases hyx : c < 0
   ·go_wp2_with (go_at_call 82;refine (hcl _).mono ?_;rintro e w' ⟨rfl,hgr⟩)
    go_roundg (hi - ((lo + hi) / 2 + 1))
    case measure => omega
    case rel =>
     exact ⟨(lo + hi) / 2 + 1,hi,by rw [show ((lo : Int) + (hi : Int)) / 2 + 1 = (((lo + hi) / 2 + 1 : Nat) : Int) by omega],rfl,by omega,hin,Nat.le_refl _,S1.out.trans hgr,(⟨HI1.out hyx,I.out.2⟩ : _ ∧ _)⟩
   ·go_wp2_with (go_at_call 82;refine (hcl _).mono ?_;rintro e w' ⟨rfl,hgr⟩)
    go_roundg ((lo + hi) / 2 - lo)
    case measure => omega
    case rel =>
     exact ⟨lo,(lo + hi) / 2,rfl,by rw [show ((lo : Int) + (hi : Int)) / 2 = (((lo + hi) / 2 : Nat) : Int) by omega],by omega,by omega,Nat.le_refl _,S1.out.trans hgr,(⟨I.out.1,HI2.out hyx⟩ : _ ∧ _)⟩
  ·obtain rfl : hi = lo:=by omega
   have PL : Aside (PlaceAt t q.data.toList hi):=⟨by have:=HN.out;omega,I.out.1,I.out.2⟩
   by_cases hlen : hi < n
   ·obtain ⟨y,hy⟩ : ∃ y,t[hi]? = some y:=⟨_,List.getElem?_eq_getElem (by have:=HN.out;omega)⟩
    have Y : Aside (t[hi]? = some y):=hy
    rcases HL.out with h0 | ⟨b,off,rfl,hb,hc⟩
    ·rw [h0] at hy;simp at hy
    obtain ⟨c0,c1,c2,c3⟩:=Lies.cells hc hb S1.out.below hy
    have hyp:=(HF.out.at hy).1
    clear hc hy
    have hcl:=fun W => cmpE_any y q W hyp hq
    have HA : Aside (isAt t q.data.toList hi = decide (cmp y.p q.data.toList = 0)):=by
     obtain ⟨h1,h2⟩:=List.getElem?_eq_some_iff.1 Y.out
     show _ = _
     rw [isAt,dif_pos h1,h2,Bool.eq_iff_iff];simp [cmp_zero]
    generalize cmp y.p q.data.toList = c at hcl HA
    have hlz : (hi : Int) < (n : Int):=by omega
    by_cases hyx : c = 0
    ·go_wp2_with (go_at_call 82;refine (hcl _).mono ?_;rintro e w' ⟨rfl,hgr⟩)
     go_ret2
     exact ⟨hi,by rw [HA.out];simp [hyx],PL.out,S1.out.trans hgr⟩
    ·go_wp2_with (go_at_call 82;refine (hcl _).mono ?_;rintro e w' ⟨rfl,hgr⟩)
     go_ret2
     exact ⟨hi,by rw [HA.out];simp [hyx],PL.out,S1.out.trans hgr⟩
   ·have hlz : ¬ (hi : Int) < (n : Int):=by omega
    have HA : Aside (isAt t q.data.toList hi = false):=by show _ = _;rw [isAt,dif_neg];have:=HN.out;omega
    go_wp2
    go_ret2
    exact ⟨hi,by rw [HA.out];first | rfl | (simp;omega) | (simp [hlz];done) | simp,PL.out,S1.out⟩
theorem find_any (t : List Ent) (q : ByteArray) (p : Option Addr) (cap : Nat) (w : World) (hL : Lies w p t) (hF : Fits t) (hn : t.length < 4611686018427387904) (hq : q.size ≤ maxLen) :
  Calls Tryz.prog 51 #[.slice p t.length cap,.string q] w (FindPost t q.data.toList w):=by
 have hs:=fun W (hg : Grown w W) => search_any t q p cap W (hL.grown hg) hF hn hq
 go_enter Tryz.func51,Tryz.ntmps51
 go_wp2_with (go_at_call 81;refine (hs _ (Grown.refl _)).mono ?_;rintro e w' ⟨i,rfl,hp,hg⟩)
 go_ret2
 exact ⟨i,rfl,hp,hg⟩
end Go.Proofs.YthfeoiffoeagkaaGreatDoor
