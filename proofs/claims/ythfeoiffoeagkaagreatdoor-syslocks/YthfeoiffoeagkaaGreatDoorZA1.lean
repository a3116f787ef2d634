/-
  Plain mathematics of trees, on: what is put, removed, moved, and moved back.
-/
import Derived.Test.YthfeoiffoeagkaaGreatDoorZA0
import Derived.Shelf.SlSortCmp.QuietGrown
import Derived.Shelf.SlicesQ.Load
import Derived.Deep.LoopGhost
namespace Go.Proofs.YthfeoiffoeagkaaGreatDoor.PM
set_option linter.unusedVariables false
theorem kr {a b:List UInt8}:0<cmp a b↔cmp b a<0:=by rw [lK a b];omega
theorem yI {a b:List UInt8} (h:¬ cmp a b<0) (hn:a≠b):cmp b a<0:=by
 have h0:cmp a b≠0:=fun e=>hn ((iJ a b).1 e)
 rw [lK b a];omega
/-! put -/
def putL (t:List Ent) (e:Ent):List Ent:=t.filter (fun x=>decide (cmp x.p e.p<0))++e::t.filter (fun x=>decide (0<cmp x.p e.p))
theorem dZ {t:List Ent} {e x:Ent}:x∈putL t e↔x=e∨x∈t∧x.p≠e.p:=by
 unfold putL
 simp only [List.mem_append,List.mem_cons,List.mem_filter,decide_eq_true_eq]
 constructor
 ·rintro (⟨h,g⟩ | rfl | ⟨h,g⟩)
  ·exact .inr ⟨h,fun e'=>by rw [e',jf] at g;omega⟩
  ·exact .inl rfl
  ·exact .inr ⟨h,fun e'=>by rw [e',jf] at g;omega⟩
 ·rintro (rfl | ⟨h,g⟩)
  ·exact .inr (.inl rfl)
  ·by_cases hl:cmp x.p e.p<0
   ·exact .inl ⟨h,hl⟩
   ·exact .inr (.inr ⟨h,kr.2 (yI hl g)⟩)
theorem eF {t:List Ent} (h:Sorted t) (e:Ent):Sorted (putL t e):=by
 unfold putL Sorted
 rw [List.pairwise_append]
 refine ⟨List.Pairwise.filter _ h,List.pairwise_cons.2 ⟨fun x hx=>?_,List.Pairwise.filter _ h⟩,fun x hx y hy=>?_⟩
 ·have:=(List.mem_filter.1 hx).2;simp at this;exact kr.1 this
 ·have g1:=(List.mem_filter.1 hx).2;simp at g1
  rcases List.mem_cons.1 hy with rfl | hy
  ·exact g1
  ·have g2:=(List.mem_filter.1 hy).2;simp at g2
   exact iW _ _ _ g1 (kr.1 g2)
structure aU (t:List Ent) (p:List UInt8) (i:Nat):Prop where
 le:i≤t.length
 lo:∀ (h:0<i) (h':i-1<t.length),cmp (t[i-1]'h').p p<0
 hi:∀ (h:i<t.length),0≤cmp (t[i]'h).p p
theorem aU.below {t:List Ent} {p:List UInt8} {i:Nat} (h:aU t p i) (hs:Sorted t) {j:Nat} (hj:j<t.length) (hji:j<i):cmp (t[j]'hj).p p<0:=by
 have hi1:i-1<t.length:=by have:=h.le;omega
 have h1:=h.lo (by omega) hi1
 by_cases e:j=i-1
 ·subst e;exact h1
 ·have:=List.pairwise_iff_getElem.1 hs j (i-1) hj hi1 (by omega)
  exact iW _ _ _ this h1
theorem aU.above {t:List Ent} {p:List UInt8} {i:Nat} (h:aU t p i) (hs:Sorted t) {j:Nat} (hj:j<t.length) (hji:i<j):0<cmp (t[j]'hj).p p:=by
 have hi1:i<t.length:=by omega
 have h1:=h.hi hi1
 have h2:ltE t[i] t[j]:=List.pairwise_iff_getElem.1 hs i j hi1 hj hji
 apply kr.2
 by_cases e:cmp (t[i]'hi1).p p=0
 ·rw [← (iJ _ _).1 e];exact h2
 ·exact iW _ _ _ (kr.1 (by omega)) h2
def isAt (t:List Ent) (p:List UInt8) (i:Nat):Bool:=if h:i<t.length then decide ((t[i]'h).p=p) else false
theorem kD {t:List Ent} {p:List UInt8} {i:Nat}:isAt t p i=true↔∃ h:i<t.length,(t[i]'h).p=p:=by
 unfold isAt;split
 ·rename_i h;simp [h]
 ·rename_i h;simp;intro g;exact absurd g h
theorem aU.there {t:List Ent} {p:List UInt8} {i:Nat} (h:aU t p i) (hs:Sorted t):isAt t p i=true↔∃ e∈t,e.p=p:=by
 rw [kD]
 constructor
 ·rintro ⟨g,e⟩;exact ⟨t[i],List.getElem_mem g,e⟩
 ·rintro ⟨e,he,hp⟩
  obtain ⟨j,hj,rfl⟩:=List.getElem_of_mem he
  by_cases e1:j=i
  ·subst e1;exact ⟨hj,hp⟩
  ·exfalso
   by_cases e2:j<i
   ·have:=h.below hs hj e2;rw [hp,jf] at this;omega
   ·have:=h.above hs hj (by omega);rw [hp,jf] at this;omega
theorem aU.take {t:List Ent} {p:List UInt8} {i:Nat} (h:aU t p i) (hs:Sorted t) {x:Ent}:x∈t.take i↔x∈t∧cmp x.p p<0:=by
 constructor
 ·intro hx
  obtain ⟨j,hj,rfl⟩:=List.getElem_of_mem hx
  rw [List.length_take] at hj
  rw [List.getElem_take]
  exact ⟨List.getElem_mem _,h.below hs _ (by omega)⟩
 ·rintro ⟨hx,hl⟩
  obtain ⟨j,hj,rfl⟩:=List.getElem_of_mem hx
  have hji:j<i:=by
   by_cases e:j<i
   ·exact e
   ·exfalso
    by_cases e1:j=i
    ·subst e1;have:=h.hi hj;omega
    ·have:=h.above hs hj (by omega);omega
  exact List.mem_take_iff_getElem.2 ⟨j,by omega,rfl⟩
theorem aU.insert {t:List Ent} {e:Ent} {i:Nat} (h:aU t e.p i) (hs:Sorted t) (hn:isAt t e.p i=false):t.take i++e::t.drop i=putL t e:=by
 have hno:∀ x∈t,x.p≠e.p:=fun x hx hp=>by have:=(h.there hs).2 ⟨x,hx,hp⟩;rw [hn] at this;cases this
 have hd:∀ x∈t.drop i,0<cmp x.p e.p:=by
  intro x hx
  have hxt:=List.mem_of_mem_drop hx
  obtain ⟨j,hj,rfl⟩:=List.getElem_of_mem hx
  rw [List.length_drop] at hj
  rw [List.getElem_drop] at hxt ⊢
  by_cases e0:j=0
  ·subst e0
   have h1:=h.hi (by omega)
   have h2:=hno _ hxt
   simp only [Nat.add_zero] at h1 h2 ⊢
   have:cmp (t[i]'(by omega)).p e.p≠0:=fun g=>h2 ((iJ _ _).1 g)
   omega
  ·exact h.above hs _ (by omega)
 refine jW ?_ (eF hs e) fun x=>?_
 ·have hs':Sorted (t.take i++t.drop i):=by rw [List.take_append_drop];exact hs
  have hs'':=List.pairwise_append.1 hs'
  unfold Sorted
  rw [List.pairwise_append]
  refine ⟨hs''.1,List.pairwise_cons.2 ⟨fun x hx=>kr.1 (hd x hx),hs''.2.1⟩,fun x hx y hy=>?_⟩
  have g:=((h.take hs).1 hx).2
  rcases List.mem_cons.1 hy with rfl | hy
  ·exact g
  ·exact iW _ _ _ g (kr.1 (hd y hy))
 ·rw [dZ]
  constructor
  ·intro hx
   rcases List.mem_append.1 hx with g | g
   ·have:=List.mem_of_mem_take g;exact .inr ⟨this,hno x this⟩
   ·rcases List.mem_cons.1 g with rfl | g
    ·exact .inl rfl
    ·have:=List.mem_of_mem_drop g;exact .inr ⟨this,hno x this⟩
  ·rintro (rfl | ⟨hx,_⟩)
   ·simp
   ·rw [← List.take_append_drop i t] at hx
    rcases List.mem_append.1 hx with g | g
    ·simp [g]
    ·simp [g]
theorem aU.set {t:List Ent} {e:Ent} {i:Nat} (h:aU t e.p i) (hs:Sorted t) (hn:isAt t e.p i=true):t.set i e=putL t e:=by
 obtain ⟨hi,hp⟩:=kD.1 hn
 refine jW ?_ (eF hs e) fun x=>?_
 ·unfold Sorted
  rw [List.pairwise_iff_getElem]
  intro a b ha hb hab
  rw [List.length_set] at ha hb
  have h0:=List.pairwise_iff_getElem.1 hs a b ha hb hab
  unfold ltE at h0 ⊢
  rw [List.getElem_set,List.getElem_set]
  split <;> split
  ·omega
  ·rename_i g _;subst g;rw [← hp];exact h0
  ·rename_i _ g;subst g;rw [← hp];exact h0
  ·exact h0
 ·rw [dZ]
  constructor
  ·intro hx
   obtain ⟨j,hj,rfl⟩:=List.getElem_of_mem hx
   rw [List.length_set] at hj
   rw [List.getElem_set]
   split
   ·exact .inl rfl
   ·rename_i g
    refine .inr ⟨List.getElem_mem _,fun e'=>g ?_⟩
    have hh:t[j]=t[i]:=lD hs (List.getElem_mem _) (List.getElem_mem _) (e'.trans hp.symm)
    by_cases c1:i<j
    ·have:=List.pairwise_iff_getElem.1 hs i j hi hj c1;rw [hh] at this;exact absurd rfl (iT this)
    ·by_cases c2:j<i
     ·have:=List.pairwise_iff_getElem.1 hs j i hj hi c2;rw [hh] at this;exact absurd rfl (iT this)
     ·omega
  ·rintro (rfl | ⟨hx,hne⟩)
   ·exact List.mem_iff_getElem.2 ⟨i,by rw [List.length_set];exact hi,by simp⟩
   ·obtain ⟨j,hj,rfl⟩:=List.getElem_of_mem hx
    refine List.mem_iff_getElem.2 ⟨j,by rw [List.length_set];exact hj,?_⟩
    rw [List.getElem_set_ne]
    rintro rfl
    exact hne hp
theorem oL {t:List Ent} {e:Ent} (hs:Sorted t):(putL t e).length=if ∃ x∈t,x.p=e.p then t.length else t.length+1:=by
 have hl:(t.filter fun x=>decide (cmp x.p e.p<0)).length+(t.filter fun x=>decide (0<cmp x.p e.p)).length+(t.filter fun x=>decide (x.p=e.p)).length=t.length:=by
  clear hs
  induction t with
  | nil=>rfl
  | cons x t ih =>
   by_cases h0:x.p=e.p
   ·have h1:¬ cmp x.p e.p<0:=by rw [h0,jf];omega
    have h2:¬ 0<cmp x.p e.p:=by rw [h0,jf];omega
    simp [h0,jf] at ih ⊢;omega
   ·have h3:cmp x.p e.p≠0:=fun g=>h0 ((iJ _ _).1 g)
    by_cases h1:cmp x.p e.p<0
    ·have h2:¬ 0<cmp x.p e.p:=by omega
     simp [h0,h1,h2] at ih ⊢;omega
    ·have h2:0<cmp x.p e.p:=by omega
     simp [h0,h1,h2] at ih ⊢;omega
 have hc:(t.filter fun x=>decide (x.p=e.p)).length=if ∃ x∈t,x.p=e.p then 1 else 0:=by
  split
  ·rename_i h
   obtain ⟨x,hx,hp⟩:=h
   have:(t.filter fun x=>decide (x.p=e.p))=[x]:=by
    refine jW (List.Pairwise.filter _ hs) (List.pairwise_singleton _ _) fun y=>?_
    simp only [List.mem_filter,decide_eq_true_eq,List.mem_singleton]
    constructor
    ·rintro ⟨hy,hq⟩;exact lD hs hy hx (hq.trans hp.symm)
    ·rintro rfl;exact ⟨hx,hp⟩
   rw [this];rfl
  ·rename_i h
   rw [List.length_eq_zero_iff,List.filter_eq_nil_iff]
   intro x hx;simp;exact fun g=>h ⟨x,hx,g⟩
 unfold putL
 simp only [List.length_append,List.length_cons]
 rw [hc] at hl
 split <;> simp_all <;> omega
theorem Right.put {t:List Ent} {e:Ent} (h:Right false t) (hw:aG e false=0) (hd:aW t (aA e.p)=0)
  (hk:∀ x∈t,x.p=e.p→(x.kind=2↔e.kind=2)) (hm:(∀ x∈t,x.p≠e.p)→t.length<80):Right false (putL t e):=by
 refine ⟨?_,fun x hx=>?_,eF h.sorted e,fun x hx=>?_⟩
 ·rw [oL h.sorted]
  split
  ·exact h.len
  ·rename_i g;have:=hm fun x hx hp=>g ⟨x,hx,hp⟩;omega
 ·rcases dZ.1 hx with rfl | ⟨hx,_⟩
  ·exact hw
  ·exact h.each x hx
 ·have key:aA x.p=[]∨∃ d∈t,d.p=aA x.p∧d.kind=2:=by
   rcases dZ.1 hx with rfl | ⟨hx,_⟩
   ·rcases dJ.1 hd with g | ⟨d,h1,h2,h3,_⟩
    ·exact .inl g
    ·exact .inr ⟨d,h1,h2,h3⟩
   ·exact h.dir x hx
  rcases key with g | ⟨d,h1,h2,h3⟩
  ·exact .inl g
  ·by_cases g:d.p=e.p
   ·exact .inr ⟨e,dZ.2 (.inl rfl),g.symm.trans h2,(hk d h1 g).1 h3⟩
   ·exact .inr ⟨d,dZ.2 (.inr ⟨h1,g⟩),h2,h3⟩
/-! remove -/
def remL (t:List Ent) (p:List UInt8):List Ent:=t.filter fun x => !decide (x.p=p)
theorem eX {t:List Ent} {p:List UInt8} {x:Ent}:x∈remL t p↔x∈t∧x.p≠p:=by simp [remL]
theorem oO {t:List Ent} (h:Sorted t) (p:List UInt8):Sorted (remL t p):=List.Pairwise.filter _ h
theorem Right.rem {b:Bool} {t:List Ent} (h:Right b t) {p:List UInt8} (hp:p≠[]) (hf:∀ x∈t,under x.p p=false):Right b (remL t p):=by
 refine ⟨Nat.le_trans (List.length_filter_le _ _) h.len,fun x hx=>h.each x (eX.1 hx).1,oO h.sorted p,fun x hx=>?_⟩
 rcases h.dir x (eX.1 hx).1 with g | ⟨d,h1,h2,h3⟩
 ·exact .inl g
 ·refine .inr ⟨d,eX.2 ⟨h1,fun e=>?_⟩,h2,h3⟩
  have:=hf x (eX.1 hx).1
  have hd:aA x.p=p:=h2.symm.trans e
  have hu:=fJ (h.ne (eX.1 hx).1) (by rw [hd];exact hp)
  rw [hd,this] at hu;cases hu
end Go.Proofs.YthfeoiffoeagkaaGreatDoor.PM
namespace Go.Proofs.YthfeoiffoeagkaaGreatDoor
open Go.RowKit PM Go.Sort
set_option linter.unusedVariables false
def encE (e:Ent):List Value:=[.string e.path,.int .i64 e.kind,.string e.text,.bool e.opq]
def Grown (w w':World):Prop:=∃ n os,w'=grow (w.drewN n) os
theorem Grown.refl (w:World):Grown w w:=⟨0,#[],by simp [grow,World.drewN]⟩
theorem Grown.trans {a b c:World} (h:Grown a b) (g:Grown b c):Grown a c:=by
 obtain ⟨n,os,rfl⟩:=h
 obtain ⟨m,ps,rfl⟩:=g
 exact ⟨n+m,os++ps,by simp [grow,World.drewN,Nat.add_assoc]⟩
theorem Grown.alloc {a b:World} (h:Grown a b) (o:Obj):Grown a (b.alloc o):=h.trans ⟨0,#[o],by rw [alloc_eq_grow];rfl⟩
theorem Grown.drewN {a b:World} (h:Grown a b) (n:Nat):Grown a (b.drewN n):=h.trans ⟨n,#[],by simp [grow,World.drewN]⟩
theorem Grown.below {a b:World} (h:Grown a b):Below a.heap.size a b:=by
 obtain ⟨n,os,rfl⟩:=h
 refine ⟨rfl,rfl,rfl,by simp [grow,World.drewN],fun k hk=>?_⟩
 show (a.heap++os)[k]?=_
 rw [Array.getElem?_append_left hk]
theorem Grown.cell {a b:World} (h:Grown a b) {p:Addr} (hp:p.block<a.heap.size):b.cell? p=a.cell? p:=h.below.cell hp
theorem Grown.size {a b:World} (h:Grown a b):a.heap.size≤b.heap.size:=h.below.size
def Lies (w:World) (p:Option Addr) (l:List Ent):Prop :=
 l=[]∨∃ b off,p=some ⟨b,off,none⟩∧b<w.heap.size∧∀ j e,l[j]?=some e→∀ i v,(encE e)[i]?=some v→w.cell? ⟨b,off+j*4+i,none⟩=some v
theorem Lies.below {w w':World} {p:Option Addr} {l:List Ent} (h:Lies w p l) {B:Nat} (hB:Below B w w') (hs:w.heap.size≤B):Lies w' p l:=by
 rcases h with h | ⟨b,off,h1,h2,h3⟩
 ·exact .inl h
 ·exact .inr ⟨b,off,h1,Nat.lt_of_lt_of_le h2 hB.size,fun j e hj i v hv=>(hB.cell (p:=⟨b,off+j*4+i,none⟩) (Nat.lt_of_lt_of_le h2 hs)).trans (h3 j e hj i v hv)⟩
theorem Lies.kept {w w':World} {p:Option Addr} {l:List Ent} (h:Lies w p l) (hB:Below w.heap.size w w'):Lies w' p l:=h.below hB (Nat.le_refl _)
theorem Lies.grown {w w':World} {p:Option Addr} {l:List Ent} (h:Lies w p l) (hB:Grown w w'):Lies w' p l:=h.kept hB.below
theorem Lies.nil (w:World) (p:Option Addr):Lies w p []:=.inl rfl
theorem Lies.take {w:World} {p:Option Addr} {l:List Ent} (h:Lies w p l) (k:Nat):Lies w p (l.take k):=by
 rcases h with h | ⟨b,off,h1,h2,h3⟩
 ·exact .inl (by rw [h];simp)
 ·refine .inr ⟨b,off,h1,h2,fun j e hj=>h3 j e ?_⟩
  rw [List.getElem?_take] at hj
  split at hj
  ·exact hj
  ·cases hj
theorem Lies.cells {w:World} {b off:Nat} {l:List Ent} (h3:∀ j e,l[j]?=some e→∀ i v,(encE e)[i]?=some v→w.cell? ⟨b,off+j*4+i,none⟩=some v) (hb:b<w.heap.size) {W:World} (hW:Below w.heap.size w W) {j:Nat} {e:Ent} (he:l[j]?=some e) :
  W.cell? ⟨b,off+j*4,none⟩=some (.string e.path)∧W.cell? ⟨b,off+j*4+1,none⟩=some (.int .i64 e.kind)∧W.cell? ⟨b,off+j*4+2,none⟩=some (.string e.text)∧W.cell? ⟨b,off+j*4+3,none⟩=some (.bool e.opq):=by
 have h:=fun i v hv=>(hW.cell (p:=⟨b,off+j*4+i,none⟩) hb).trans (h3 j e he i v hv)
 exact ⟨h 0 _ rfl,h 1 _ rfl,h 2 _ rfl,h 3 _ rfl⟩
def Fits (l:List Ent):Prop:=∀ e∈l,e.path.size≤maxLen∧e.text.size≤maxLen
theorem Fits.at {l:List Ent} (h:Fits l) {j:Nat} {e:Ent} (he:l[j]?=some e):e.path.size≤maxLen∧e.text.size≤maxLen:=h e (List.mem_of_getElem? he)
theorem yH (e:Ent) (q:ByteArray) (w:World) (he:e.path.size≤maxLen) (hq:q.size≤maxLen) :
  Calls Tryz.prog 82 #[.agg #[.string e.path, .int .i64 e.kind, .string e.text, .bool e.opq],.string q] w fun r w'=>r=.returned (.int .i64 (cmp e.p q.data.toList))∧Grown w w':=by
 go_enter Tryz.func82,Tryz.ntmps82
 go_wp2_with (go_at_call 83;refine (oJ _ _ _ he hq).mono ?_;rintro r w' ⟨rfl,n,rfl⟩)
 go_ret
 exact ⟨rfl,((Grown.refl w).alloc _).drewN _⟩
def uF (t:List Ent) (q:List UInt8) (w:World) (e:Ending) (w':World):Prop :=
 ∃ i:Nat,e=.returned (.tuple #[.int .i64 i,.bool (isAt t q i)])∧aU t q i∧Grown w w'
set_option maxHeartbeats 4000000 in
theorem Dn (t:List Ent) (q:ByteArray) (p:Option Addr) (cap:Nat) (w:World) (hL:Lies w p t) (hF:Fits t) (hn:t.length<4611686018427387904) (hq:q.size≤maxLen) :
  Calls Tryz.prog 81 #[.slice p t.length cap,.string q,.func (.func 82) #[] #[]] w (uF t q.data.toList w):=by
 have HF:Aside (Fits t):=hF
 have HL:Aside (Lies w p t):=hL
 clear hL hF
 obtain ⟨n,hnl⟩:∃ n,n=t.length:=⟨_,rfl⟩
 have HN:Aside (n=t.length):=hnl
 rw [← hnl] at hn ⊢
 clear hnl
 go_enter Tryz.func81,Tryz.ntmps81
 go_wp2
 go_loopg [9,10] n (fun kx s9 s10 wr=>∃ lo hi:Nat,s9=.int .i64 lo∧s10=.int .i64 hi∧lo≤hi∧hi≤n∧hi-lo≤kx∧Aside (Grown w wr) ∧
  Aside ((∀ (h:0<lo) (h':lo-1<t.length),cmp (t[lo-1]'h').p q.data.toList<0)∧(∀ (h:hi<t.length),0≤cmp (t[hi]'h).p q.data.toList)))
 case atStart=>exact ⟨0,n,rfl,rfl,Nat.zero_le _,Nat.le_refl _,by omega,Grown.refl w,(⟨fun h=>absurd h (Nat.not_lt_zero _),fun h=>by have:=HN.out;omega⟩:(∀ (h:0<0) (h':0-1<t.length),cmp (t[0-1]'h').p q.data.toList<0)∧(∀ (h:n<t.length),0≤cmp (t[n]'h).p q.data.toList))⟩
 case round =>
  obtain ⟨lo,hi,rfl,rfl,hlh,hin,hg,S1,I⟩:=hrel
  by_cases hlt:lo<hi
  ·obtain ⟨y,hy⟩:∃ y,t[(lo+hi) / 2]?=some y:=⟨_,List.getElem?_eq_getElem (by have:=HN.out;omega)⟩
   have Y:Aside (t[(lo+hi) / 2]?=some y):=hy
   rcases HL.out with h0 | ⟨b,off,rfl,hb,hc⟩
   ·rw [h0] at hy;simp at hy
   obtain ⟨c0,c1,c2,c3⟩:=Lies.cells hc hb S1.out.below hy
   have hyp:=(HF.out.at hy).1
   clear hc hy
   have hcl:=fun W=>yH y q W hyp hq
   have HI1:Aside (cmp y.p q.data.toList<0→∀ (h:0<(lo+hi) / 2+1) (h':(lo+hi) / 2+1-1<t.length),cmp (t[(lo+hi) / 2+1-1]'h').p q.data.toList<0):=fun h1 _ h'=>by
    have:=(List.getElem?_eq_some_iff.1 Y.out).2;simp only [Nat.add_sub_cancel] at h' ⊢;rw [this];exact h1
   have HI2:Aside (¬ cmp y.p q.data.toList<0→∀ (h:(lo+hi) / 2<t.length),0≤cmp (t[(lo+hi) / 2]'h).p q.data.toList):=fun h1 h=>by
    have:=(List.getElem?_eq_some_iff.1 Y.out).2;rw [this];omega
   generalize cmp y.p q.data.toList=c at hcl HI1 HI2
   by_cases hyx:c<0
   ·go_wp2_with (go_at_call 82;refine (hcl _).mono ?_;rintro e w' ⟨rfl,hgr⟩)
    go_roundg (hi-((lo+hi) / 2+1))
    case measure=>omega
    case rel =>
     exact ⟨(lo+hi) / 2+1,hi,by rw [show ((lo:Int)+(hi:Int)) / 2+1=(((lo+hi) / 2+1:Nat):Int) by omega],rfl,by omega,hin,Nat.le_refl _,S1.out.trans hgr,(⟨HI1.out hyx,I.out.2⟩:_∧_)⟩
   ·go_wp2_with (go_at_call 82;refine (hcl _).mono ?_;rintro e w' ⟨rfl,hgr⟩)
    go_roundg ((lo+hi) / 2-lo)
    case measure=>omega
    case rel =>
     exact ⟨lo,(lo+hi) / 2,rfl,by rw [show ((lo:Int)+(hi:Int)) / 2=(((lo+hi) / 2:Nat):Int) by omega],by omega,by omega,Nat.le_refl _,S1.out.trans hgr,(⟨I.out.1,HI2.out hyx⟩:_∧_)⟩
  ·obtain rfl:hi=lo:=by omega
   have PL:Aside (aU t q.data.toList hi):=⟨by have:=HN.out;omega,I.out.1,I.out.2⟩
   by_cases hlen:hi<n
   ·obtain ⟨y,hy⟩:∃ y,t[hi]?=some y:=⟨_,List.getElem?_eq_getElem (by have:=HN.out;omega)⟩
    have Y:Aside (t[hi]?=some y):=hy
    rcases HL.out with h0 | ⟨b,off,rfl,hb,hc⟩
    ·rw [h0] at hy;simp at hy
    obtain ⟨c0,c1,c2,c3⟩:=Lies.cells hc hb S1.out.below hy
    have hyp:=(HF.out.at hy).1
    clear hc hy
    have hcl:=fun W=>yH y q W hyp hq
    have HA:Aside (isAt t q.data.toList hi=decide (cmp y.p q.data.toList=0)):=by
     obtain ⟨h1,h2⟩:=List.getElem?_eq_some_iff.1 Y.out
     show _=_
     rw [isAt,dif_pos h1,h2,Bool.eq_iff_iff];simp [iJ]
    generalize cmp y.p q.data.toList=c at hcl HA
    have hlz:(hi:Int)<(n:Int):=by omega
    by_cases hyx:c=0
    ·go_wp2_with (go_at_call 82;refine (hcl _).mono ?_;rintro e w' ⟨rfl,hgr⟩)
     go_ret2
     exact ⟨hi,by rw [HA.out];simp [hyx],PL.out,S1.out.trans hgr⟩
    ·go_wp2_with (go_at_call 82;refine (hcl _).mono ?_;rintro e w' ⟨rfl,hgr⟩)
     go_ret2
     exact ⟨hi,by rw [HA.out];simp [hyx],PL.out,S1.out.trans hgr⟩
   ·have hlz:¬ (hi:Int)<(n:Int):=by omega
    have HA:Aside (isAt t q.data.toList hi=false):=by show _=_;rw [isAt,dif_neg];have:=HN.out;omega
    go_wp2
    go_ret2
    exact ⟨hi,by rw [HA.out];first | rfl | (simp;omega) | (simp [hlz];done) | simp,PL.out,S1.out⟩
theorem uK (t:List Ent) (q:ByteArray) (p:Option Addr) (cap:Nat) (w:World) (hL:Lies w p t) (hF:Fits t) (hn:t.length<4611686018427387904) (hq:q.size≤maxLen) :
  Calls Tryz.prog 51 #[.slice p t.length cap,.string q] w (uF t q.data.toList w):=by
 have hs:=fun W (hg:Grown w W)=>Dn t q p cap W (hL.grown hg) hF hn hq
 go_enter Tryz.func51,Tryz.ntmps51
 go_wp2_with (go_at_call 81;refine (hs _ (Grown.refl _)).mono ?_;rintro e w' ⟨i,rfl,hp,hg⟩)
 go_ret2
 exact ⟨i,rfl,hp,hg⟩
end Go.Proofs.YthfeoiffoeagkaaGreatDoor
namespace Go.Proofs.YthfeoiffoeagkaaGreatDoor.PM
set_option linter.unusedVariables false
def lu (b ms:List Ent):List Ent:=ms.foldl putL b
theorem qA:∀ (ms b:List Ent),Sorted b→ms.Pairwise (fun a b=>a.p≠b.p)→Sorted (lu b ms)∧∀ x,x∈lu b ms↔x∈ms∨x∈b∧∀ m∈ms,x.p≠m.p
 | [],b,hs,_=>⟨hs,fun x=>by simp [lu]⟩
 | m::ms,b,hs,hd=>by
  have hd':=List.pairwise_cons.1 hd
  obtain ⟨h1,h2⟩:=qA ms (putL b m) (eF hs m) hd'.2
  refine ⟨h1,fun x=>?_⟩
  show x∈lu (putL b m) ms↔_
  rw [h2,dZ]
  constructor
  ·rintro (hx | ⟨rfl | ⟨hb,hne⟩,hm⟩)
   ·exact .inl (List.mem_cons_of_mem _ hx)
   ·exact .inl (by simp)
   ·refine .inr ⟨hb,fun y hy=>?_⟩
    rcases List.mem_cons.1 hy with rfl | hy
    ·exact hne
    ·exact hm y hy
  ·rintro (hx | ⟨hb,hm⟩)
   ·rcases List.mem_cons.1 hx with rfl | hx
    ·exact .inr ⟨.inl rfl,fun y hy=>hd'.1 y hy⟩
    ·exact .inl hx
   ·exact .inr ⟨.inr ⟨hb,hm m (by simp)⟩,fun y hy=>hm y (List.mem_cons_of_mem _ hy)⟩
theorem zq:∀ (ms b:List Ent),Sorted b→ms.Pairwise (fun a b=>a.p≠b.p)→(∀ x∈b,∀ m∈ms,x.p≠m.p)→(lu b ms).length=ms.length+b.length
 | [],b,hs,_,_=>by simp [lu]
 | m::ms,b,hs,hd,hb=>by
  have hd':=List.pairwise_cons.1 hd
  have h1:(putL b m).length=b.length+1:=by
   rw [oL hs,if_neg]
   rintro ⟨x,hx,hp⟩
   exact hb x hx m (by simp) hp
  have:=zq ms (putL b m) (eF hs m) hd'.2 (fun x hx y hy=>by
   rcases dZ.1 hx with rfl | ⟨hx,_⟩
   ·exact hd'.1 y hy
   ·exact hb x hx y (List.mem_cons_of_mem _ hy))
  show (lu (putL b m) ms).length=_
  rw [this,h1,List.length_cons];omega
theorem oF {l:List Ent} (h:Sorted l):l.Pairwise fun a b=>a.p≠b.p:=h.imp iT
theorem wL {l:List Ent} (hd:l.Pairwise fun a b=>a.p≠b.p) (hs:l.Pairwise fun a b=>¬ cmp b.p a.p<0):Sorted l:=by
 have:=hd.and hs
 refine this.imp ?_
 rintro a b ⟨h1,h2⟩
 exact yI h2 (Ne.symm h1)
theorem Aq {l pre:List Ent} (hp:l.Perm pre) (hd:pre.Pairwise fun a b=>a.p≠b.p) (hs:l.Pairwise fun a b=>¬ cmp b.p a.p<0):Sorted l :=
 wL ((hp.pairwise_iff (fun {a b} h=>Ne.symm h)).2 hd) hs
theorem jQ {a b c:List UInt8} (hb:b≠[]) (hc:c≠[]) (h1:under a b=true) (h2:under b c=true):under a c=true:=by
 obtain ⟨r,rfl⟩:=(aS _ _ hb).1 h1
 obtain ⟨s,rfl⟩:=(aS _ _ hc).1 h2
 exact (aS _ _ hc).2 ⟨s++47::r,by simp⟩
/-! layers -/
def fF (e:Ent):Ent:={ e with opq:=false }
def ownL (l:List Ent):List Ent:=(l.filter fun e => !(e.kind == 4)).map fF
def bD (q:List UInt8) (e:Ent):Bool:=decide (e.p=q) && !(e.kind == 2) || under q e.p && (!(e.kind == 2) || e.opq)
def bI (l:List Ent) (q:List UInt8):Bool:=l.any (bD q)
def kJ (l:List Ent) (e:Ent):Bool:=(getL l e.p).isNone && !bI l e.p
def bP (l t:List Ent):List Ent:=t.filter (kJ l)
def fE (l t:List Ent):List Ent:=lu (bP l t) (ownL l)
def lg (l t:List Ent):Nat:=(ownL l++bP l t).length
def fq (l t:List Ent):Int:=if (aD true l).1=0 then (if (aD false t).1=0 then (if 80<lg l t then 5 else 0) else (aD false t).1) else (aD true l).1
theorem kZ {l t:List Ent}:fq l t=0↔Right true l∧Right false t∧lg l t≤80:=by
 unfold fq
 by_cases h1:(aD true l).1=0
 ·rw [if_pos h1]
  by_cases h2:(aD false t).1=0
  ·rw [if_pos h2]
   by_cases h3:80<lg l t
   ·rw [if_pos h3]
    exact ⟨fun h=>absurd h (by decide),fun h=>by omega⟩
   ·rw [if_neg h3]
    exact ⟨fun _=>⟨bM.1 h1,bM.1 h2,by omega⟩,fun _=>rfl⟩
  ·rw [if_neg h2]
   exact ⟨fun h=>absurd h h2,fun h=>absurd (bM.2 h.2.1) h2⟩
 ·rw [if_neg h1]
  exact ⟨fun h=>absurd h h1,fun h=>absurd (bM.2 h.1) h1⟩
theorem gu {l:List Ent} {x:Ent}:x∈ownL l↔∃ y∈l,¬ y.kind=4∧fF y=x:=by
 unfold ownL
 rw [List.mem_map]
 constructor
 ·rintro ⟨y,hy,rfl⟩
  rw [List.mem_filter] at hy
  exact ⟨y,hy.1,by simpa using hy.2,rfl⟩
 ·rintro ⟨y,hy,hk,rfl⟩
  exact ⟨y,List.mem_filter.2 ⟨hy,by simpa using hk⟩,rfl⟩
theorem fA {l t:List Ent} {x:Ent}:x∈bP l t↔x∈t∧getL l x.p=none∧bI l x.p=false:=by
 unfold bP kJ
 rw [List.mem_filter]
 simp
theorem lq {l:List Ent} (h:Sorted l):(ownL l).Pairwise fun a b=>a.p≠b.p:=by
 unfold ownL
 rw [List.pairwise_map]
 exact (List.Pairwise.filter _ h).imp fun h=>iT h
theorem uV {l t:List Ent}:∀ x∈bP l t,∀ m∈ownL l,x.p≠m.p:=by
 intro x hx m hm he
 obtain ⟨y,hy,_,rfl⟩:=gu.1 hm
 exact (dQ (fA.1 hx).2.1).2 y hy he.symm
theorem mG {l t:List Ent} (h:Sorted t):Sorted (bP l t):=List.Pairwise.filter _ h
theorem jC {l t:List Ent} (hl:Sorted l) (ht:Sorted t):Sorted (fE l t):=(qA _ _ (mG ht) (lq hl)).1
theorem eU {l t:List Ent} (hl:Sorted l) (ht:Sorted t) {x:Ent}:x∈fE l t↔x∈ownL l∨x∈bP l t:=by
 unfold fE
 rw [(qA _ _ (mG ht) (lq hl)).2]
 exact ⟨fun h=>h.imp id (·.1),fun h=>h.imp id fun h=>⟨h,uV x h⟩⟩
theorem uQ {l t:List Ent} (hl:Sorted l) (ht:Sorted t):(fE l t).length=lg l t:=by
 unfold fE lg
 rw [zq _ _ (mG ht) (lq hl) uV,List.length_append]
theorem zn {l t:List Ent} (hl:Sorted l) (ht:Sorted t):(ownL l++bP l t).Pairwise fun a b=>a.p≠b.p:=by
 rw [List.pairwise_append]
 exact ⟨lq hl,oF (mG ht),fun a ha b hb=>Ne.symm (uV b hb a ha)⟩
theorem BA {l t r:List Ent} (hl:Sorted l) (ht:Sorted t) (hp:r.Perm (ownL l++bP l t)) (hs:r.Pairwise fun a b=>¬ cmp b.p a.p<0):r=fE l t:=by
 refine jW (Aq hp (zn hl ht) hs) (jC hl ht) fun x=>?_
 rw [eU hl ht,hp.mem_iff,List.mem_append]
theorem ql {e:Ent} (h:aG e false=0):¬ e.kind=4∧e.opq=false:=by
 unfold aG at h
 split at h
 ·omega
 rename_i h1
 split at h
 ·omega
 split at h
 ·omega
 split at h
 ·omega
 rename_i h4
 refine ⟨fun hk=>h1 (by simp [hk]),?_⟩
 cases ho:e.opq with
 | false=>rfl
 | true=>exact absurd (by simp [ho]) h4
theorem sD {e:Ent} (h:aG e false=0):aG e true=0:=by
 obtain ⟨h4,ho⟩:=ql h
 unfold aG at h ⊢
 rw [ho] at h ⊢
 simp [h4] at h ⊢
 exact h
theorem sw {e:Ent} (h:aG e true=0) (hk:¬ e.kind=4):aG (fF e) false=0:=by
 unfold aG at h ⊢
 have hp:(fF e).p=e.p:=rfl
 have h2:(fF e).kind=e.kind:=rfl
 have h3:(fF e).text=e.text:=rfl
 have h4:(fF e).opq=false:=rfl
 rw [hp,h2,h3,h4]
 simp only [hk,decide_false,Bool.and_false,Bool.false_and,Bool.not_false,Bool.and_true,Bool.or_false] at h ⊢
 split at h
 ·omega
 rename_i c1
 rw [if_neg c1]
 split at h
 ·omega
 rename_i c2
 rw [if_neg c2]
 split at h
 ·omega
 rename_i c3
 rw [if_neg c3]
 split at h
 ·omega
 rename_i c4
 rw [if_neg]
 intro c
 apply c4
 rw [c]
 rfl
theorem DY {e:Ent} (h:e.opq=false):fF e=e:=by
 obtain ⟨p,k,t,o⟩:=e
 simp at h
 subst h;rfl
theorem Right.layer {t:List Ent} (h:Right false t):Right true t:=⟨h.len,fun e he=>sD (h.each e he),h.sorted,h.dir⟩
theorem K3 {t:List Ent} (h:Right false t):ownL t=t:=by
 unfold ownL
 have h1:(t.filter fun e => !(e.kind == 4))=t:=List.filter_eq_self.2 fun e he=>by simpa using (ql (h.each e he)).1
 rw [h1]
 conv=>rhs;rw [← List.map_id t]
 exact List.map_congr_left fun e he=>DY (ql (h.each e he)).2
theorem Dc {l t:List Ent} (h:fq l t=0):Right false (fE l t):=by
 obtain ⟨hl,ht,hn⟩:=kZ.1 h
 refine ⟨by rw [uQ hl.sorted ht.sorted];exact hn,fun e he=>?_,jC hl.sorted ht.sorted,fun e he=>?_⟩
 ·rcases (eU hl.sorted ht.sorted).1 he with he | he
  ·obtain ⟨y,hy,hk,rfl⟩:=gu.1 he
   exact sw (hl.each y hy) hk
  ·exact ht.each e (fA.1 he).1
 ·have own_dir:∀ d∈l,d.kind=2→∃ x∈fE l t,x.p=d.p∧x.kind=2:=fun d hd hk =>
   ⟨fF d,(eU hl.sorted ht.sorted).2 (.inl (gu.2 ⟨d,hd,by omega,rfl⟩)),rfl,hk⟩
  rcases (eU hl.sorted ht.sorted).1 he with he | he
  ·obtain ⟨y,hy,hk,rfl⟩:=gu.1 he
   rcases hl.dir y hy with g | ⟨d,hd,hp,hk2⟩
   ·exact .inl g
   ·obtain ⟨x,h1,h2,h3⟩:=own_dir d hd hk2
    exact .inr ⟨x,h1,h2.trans hp,h3⟩
  ·obtain ⟨hm,hg,hh⟩:=fA.1 he
   rcases ht.dir e hm with g | ⟨d,hd,hp,hk2⟩
   ·exact .inl g
   ·have hdn:d.p≠[]:=ht.ne hd
    have hu:under e.p d.p=true:=by rw [hp];exact fJ (ht.ne hm) (by rw [← hp];exact hdn)
    have hno:∀ y∈l,bD e.p y=false:=fun y hy=>by
     cases hc:bD e.p y with
     | false=>rfl
     | true=>rw [show bI l e.p=true from List.any_eq_true.2 ⟨y,hy,hc⟩] at hh;cases hh
    cases hgl:getL l d.p with
    | some y =>
     obtain ⟨hy,hyp⟩:=aM hdn hgl
     have hky:y.kind=2:=by
      have:=hno y hy
      unfold bD at this
      rw [hyp,hu] at this
      by_cases hk:y.kind=2
      ·exact hk
      ·simp [hk] at this
     obtain ⟨x,h1,h2,h3⟩:=own_dir y hy hky
     exact .inr ⟨x,h1,h2.trans (hyp.trans hp),h3⟩
    | none =>
     refine .inr ⟨d,(eU hl.sorted ht.sorted).2 (.inr (fA.2 ⟨hd,hgl,?_⟩)),hp,hk2⟩
     cases hc:bI l d.p with
     | false=>rfl
     | true =>
      obtain ⟨y,hy,hhy⟩:=List.any_eq_true.1 hc
      have:=hno y hy
      have hyd:¬ y.p=d.p:=(dQ hgl).2 y hy
      unfold bD at this hhy
      simp [hyd] at hhy
      rw [jQ hdn (hl.ne hy) hu hhy.1] at this
      rcases hhy.2 with h | h <;> simp [h] at this
theorem xD (b:Bool):Right b []:=⟨by simp,by simp,List.Pairwise.nil,by simp⟩
/-! many layers -/
def au:List (List Ent)→Int × List Ent
 | []=>(0,[])
 | x::r=>if (au r).1=0 then (fq x (au r).2,if fq x (au r).2=0 then fE x (au r).2 else []) else ((au r).1,[])
def kX (ls:List (List Ent)):Int × List Ent:=if 5<ls.length then (5,[]) else au ls
theorem mP {x:List Ent} {r:List (List Ent)} (h:(au r).1=0):au (x::r)=(fq x (au r).2,if fq x (au r).2=0 then fE x (au r).2 else []):=by rw [au,if_pos h]
theorem qo {x:List Ent} {r:List (List Ent)} (h:¬ (au r).1=0):au (x::r)=((au r).1,[]):=by rw [au,if_neg h]
theorem jB {x:List Ent} {r:List (List Ent)} (h:(au (x::r)).1=0):(au r).1=0∧fq x (au r).2=0∧(au (x::r)).2=fE x (au r).2:=by
 by_cases h1:(au r).1=0
 ·rw [mP h1] at h
  refine ⟨h1,h,?_⟩
  rw [mP h1]
  show (if _ then _ else _)=_
  rw [if_pos h]
 ·rw [qo h1] at h
  exact absurd h h1
theorem tQ:∀ {ls:List (List Ent)},¬ (au ls).1=0→(au ls).2=[]
 | [],h=>absurd rfl h
 | x::r,h=>by
  by_cases h1:(au r).1=0
  ·rw [mP h1] at h ⊢
   show (if _ then _ else _)=_
   rw [if_neg h]
  ·rw [qo h1]
theorem iU:∀ {ls:List (List Ent)},(au ls).1=0→Right false (au ls).2
 | [],_=>xD _
 | x::r,h=>by
  obtain ⟨h1,h2,h3⟩:=jB h
  rw [h3]
  exact Dc h2
end Go.Proofs.YthfeoiffoeagkaaGreatDoor.PM
