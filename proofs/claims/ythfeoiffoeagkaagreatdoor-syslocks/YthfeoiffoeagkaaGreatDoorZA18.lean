/-
  How a slice of locks lies in memory; rows of the call's own; slices.IndexFunc and slices.DeleteFunc over locks; append.
-/
import Derived.Test.YthfeoiffoeagkaaGreatDoorZA14
import Derived.Test.YthfeoiffoeagkaaGreatDoorProg
import Derived.WalkLawsBesides
import Derived.WalkSpells
import Derived.Outline
import Derived.Deep.QuietTactic
import Derived.BigQuiet
import Derived.Shelf.SlSortCmp.QuietGrown
import Derived.Shelf.SlicesQ.Load
import Derived.Deep.LoopGhost
import Derived.Deep.RegionHeld3
import Derived.Lib.SliceRun
import Derived.Laws.AppendOwnNone
import Derived.Test.YthfeoiffoeagkaaGreatDoorSortLayK
namespace Go.Proofs.YthfeoiffoeagkaaGreatDoor.LK
open Go.RowKit Go.Sort KM
set_option linter.unusedVariables false
def encK (e:Lk):List Value:=[.int .i64 e.o,.int .i64 e.f,.int .i64 e.t,.bool e.a]
def Grown (w w':World):Prop:=∃ n os,w'=grow (w.drewN n) os
theorem Grown.refl (w:World):Grown w w:=⟨0,#[],by simp [grow,World.drewN]⟩
theorem Grown.trans {a b c:World} (h:Grown a b) (g:Grown b c):Grown a c:=by
 obtain ⟨n,os,rfl⟩:=h
 obtain ⟨m,ps,rfl⟩:=g
 exact ⟨n+m,os++ps,by simp [grow,World.drewN,Nat.add_assoc]⟩
theorem Grown.alloc {a b:World} (h:Grown a b) (o:Obj):Grown a (b.alloc o):=h.trans ⟨0,#[o],by rw [alloc_eq_grow];rfl⟩
theorem Grown.drewN {a b:World} (h:Grown a b) (n:Nat):Grown a (b.drewN n):=h.trans ⟨n,#[],by simp [grow,World.drewN]⟩
theorem Grown.below {a b:World} (h:Grown a b):Below a.heap.size a b:=by
 obtain ⟨n,os,rfl⟩:=h
 refine ⟨rfl,rfl,rfl,by simp [grow,World.drewN],fun k hk=>?_⟩
 show (a.heap++os)[k]?=_
 rw [Array.getElem?_append_left hk]
theorem Grown.cell {a b:World} (h:Grown a b) {p:Addr} (hp:p.block<a.heap.size):b.cell? p=a.cell? p:=h.below.cell hp
theorem Grown.size {a b:World} (h:Grown a b):a.heap.size≤b.heap.size:=h.below.size
def Lies (w:World) (p:Option Addr) (l:List Lk):Prop :=
 l=[]∨∃ b off,p=some ⟨b,off,none⟩∧b<w.heap.size∧∀ j e,l[j]?=some e→∀ i v,(encK e)[i]?=some v→w.cell? ⟨b,off+j*4+i,none⟩=some v
theorem Lies.below {w w':World} {p:Option Addr} {l:List Lk} (h:Lies w p l) {B:Nat} (hB:Below B w w') (hs:w.heap.size≤B):Lies w' p l:=by
 rcases h with h | ⟨b,off,h1,h2,h3⟩
 ·exact .inl h
 ·exact .inr ⟨b,off,h1,Nat.lt_of_lt_of_le h2 hB.size,fun j e hj i v hv=>(hB.cell (p:=⟨b,off+j*4+i,none⟩) (Nat.lt_of_lt_of_le h2 hs)).trans (h3 j e hj i v hv)⟩
theorem Lies.kept {w w':World} {p:Option Addr} {l:List Lk} (h:Lies w p l) (hB:Below w.heap.size w w'):Lies w' p l:=h.below hB (Nat.le_refl _)
theorem Lies.grown {w w':World} {p:Option Addr} {l:List Lk} (h:Lies w p l) (hB:Grown w w'):Lies w' p l:=h.kept hB.below
theorem Lies.nil (w:World) (p:Option Addr):Lies w p []:=.inl rfl
theorem Lies.take {w:World} {p:Option Addr} {l:List Lk} (h:Lies w p l) (k:Nat):Lies w p (l.take k):=by
 rcases h with h | ⟨b,off,h1,h2,h3⟩
 ·exact .inl (by rw [h];simp)
 ·refine .inr ⟨b,off,h1,h2,fun j e hj=>h3 j e ?_⟩
  rw [List.getElem?_take] at hj
  split at hj
  ·exact hj
  ·cases hj
theorem Lies.cells {w:World} {b off:Nat} {l:List Lk} (h3:∀ j e,l[j]?=some e→∀ i v,(encK e)[i]?=some v→w.cell? ⟨b,off+j*4+i,none⟩=some v) (hb:b<w.heap.size) {W:World} (hW:Below w.heap.size w W) {j:Nat} {e:Lk} (he:l[j]?=some e) :
  W.cell? ⟨b,off+j*4,none⟩=some (.int .i64 e.o)∧W.cell? ⟨b,off+j*4+1,none⟩=some (.int .i64 e.f)∧W.cell? ⟨b,off+j*4+2,none⟩=some (.int .i64 e.t)∧W.cell? ⟨b,off+j*4+3,none⟩=some (.bool e.a):=by
 have h:=fun i v hv=>(hW.cell (p:=⟨b,off+j*4+i,none⟩) hb).trans (h3 j e he i v hv)
 exact ⟨h 0 _ rfl,h 1 _ rfl,h 2 _ rfl,h 3 _ rfl⟩
theorem bA {k:IntKind} {a b:Int} (h:a=b):Ending.returned (.int k a)=.returned (.int k b):=by rw [h]
theorem aR {a b:Bool} (h:a=b):Ending.returned (.bool a)=.returned (.bool b):=by rw [h]
theorem new4 {w W:World} {a b c d:Value} {t:TypeId} {B:Nat} (hB:w.heap.size<B) (h:Below B (w.alloc (.cells #[a,b,c,d] t)) W) :
  (W.cell? ⟨w.heap.size,0,none⟩=some a∧W.cell? ⟨w.heap.size,1,none⟩=some b∧W.cell? ⟨w.heap.size,2,none⟩=some c∧W.cell? ⟨w.heap.size,3,none⟩=some d) ∧
  (W.frozen? ⟨w.heap.size,0,none⟩=false∧W.frozen? ⟨w.heap.size,1,none⟩=false∧W.frozen? ⟨w.heap.size,2,none⟩=false∧W.frozen? ⟨w.heap.size,3,none⟩=false):=by
 have hc:=fun i=>h.cell (p:=⟨w.heap.size,i,none⟩) hB
 have hf:=fun i=>h.frozen (p:=⟨w.heap.size,i,none⟩) hB
 refine ⟨⟨(hc 0).trans ?_,(hc 1).trans ?_,(hc 2).trans ?_,(hc 3).trans ?_⟩,⟨(hf 0).trans ?_,(hf 1).trans ?_,(hf 2).trans ?_,(hf 3).trans ?_⟩⟩ <;> simp
theorem new2 {w W:World} {a b:Value} {t:TypeId} {B:Nat} (hB:w.heap.size<B) (h:Below B (w.alloc (.cells #[a,b] t)) W) :
  (W.cell? ⟨w.heap.size,0,none⟩=some a∧W.cell? ⟨w.heap.size,1,none⟩=some b)∧(W.frozen? ⟨w.heap.size,0,none⟩=false∧W.frozen? ⟨w.heap.size,1,none⟩=false):=by
 have hc:=fun i=>h.cell (p:=⟨w.heap.size,i,none⟩) hB
 have hf:=fun i=>h.frozen (p:=⟨w.heap.size,i,none⟩) hB
 refine ⟨⟨(hc 0).trans ?_,(hc 1).trans ?_⟩,⟨(hf 0).trans ?_,(hf 1).trans ?_⟩⟩ <;> simp
theorem Below.onto {w w' w'':World} (h:Below w.heap.size w w') (k:Below w'.heap.size w' w''):Below w.heap.size w w'':=h.trans (k.mono h.size)
theorem up1 {w W W2:World} {o:Obj} (h:Below (w.heap.size+1) (w.alloc o) W) (g:Below W.heap.size W W2):Below (w.heap.size+1) (w.alloc o) W2:=h.trans (g.mono (by have:=h.size;simpa using this))
theorem bF {w W:World} {o:Obj} (h:Below (w.heap.size+1) (w.alloc o) W):Below w.heap.size w W:=((Below.refl _ _).alloc (Nat.le_refl _) _).trans (h.mono (by omega))
def iQ (pr:Lk→Bool) (t:List Lk) (w:World) (r:Ending) (w':World):Prop :=
 Grown w w'∧((r=.returned (.int .i64 (-1))∧∀ x∈t,pr x=false)∨∃ (k:Nat) (y:Lk),t[k]?=some y∧r=.returned (.int .i64 k)∧pr y=true∧∀ x∈t.take k,pr x=false)
theorem qG {pr:Lk→Bool} {t:List Lk} {k:Nat} {y:Lk} (hy:t[k]?=some y) (hp:pr y=false) (h:∀ x∈t.take k,pr x=false):∀ x∈t.take (k+1),pr x=false:=by
 obtain ⟨h1,h2⟩:=List.getElem?_eq_some_iff.1 hy
 intro x hx
 rw [List.take_succ_eq_append_getElem h1] at hx
 rcases List.mem_append.1 hx with hx | hx
 ·exact h x hx
 ·simp at hx;rw [hx,h2];exact hp
set_option maxHeartbeats 2000000 in
theorem mO (pr:Lk→Bool) (g:Nat) (lb:Array Value) (eg:∀ args w,(callFunc g args).run Tryz.prog w=.ok (.enter g args) w) (t:List Lk) (p:Option Addr) (cap:Nat) (w:World) (hL:Lies w p t) (hn:t.length<4611686018427387904)
  (hp:∀ W x,Grown w W→x∈t→Calls Tryz.prog g (#[.agg #[.int .i64 x.o, .int .i64 x.f, .int .i64 x.t, .bool x.a]]++lb) W fun e w'=>e=.returned (.bool (pr x))∧Grown W w') :
  Calls Tryz.prog 53 #[.slice p t.length cap,.func (.func g) #[] lb] w (iQ pr t w):=by
 have HP:Aside _:=hp
 have HL:Aside (Lies w p t):=hL
 clear hL hp
 obtain ⟨n,hnl⟩:∃ n,n=t.length:=⟨_,rfl⟩
 have HN:Aside (n=t.length):=hnl
 rw [← hnl] at hn ⊢
 clear hnl
 go_enter Tryz.func53,Tryz.ntmps53
 go_wp2
 go_loopg [5,8] n (fun gg _ s8 wr=>∃ kk:Nat,kk≤n∧n-kk≤gg∧s8=.int .i64 kk∧Aside (Grown w wr)∧Aside (∀ x∈t.take kk,pr x=false))
 case atStart=>exact ⟨0,Nat.zero_le _,by omega,rfl,Grown.refl w,by intro x hx;simp at hx⟩
 case round =>
  obtain ⟨kk,hkk,hg,rfl,BW,A⟩:=hrel
  by_cases hlt:kk<n
  ·have hltz:(kk:Int)<(n:Int):=by omega
   obtain ⟨y,hy⟩:∃ y,t[kk]?=some y:=⟨_,List.getElem?_eq_getElem (by have:=HN.out;omega)⟩
   have Y:Aside (t[kk]?=some y):=hy
   have hcall:=HP.out wr y BW.out (List.mem_of_getElem? hy)
   rcases HL.out with h0 | ⟨b,off,rfl,hb,hc⟩
   ·rw [h0] at hy;simp at hy
   obtain ⟨c0,c1,c2,c3⟩:=Lies.cells hc hb BW.out.below hy
   clear hc hy
   cases hq:pr y with
   | true =>
    rw [hq] at hcall
    go_wp2_with (go_at_fn g;refine hcall.mono ?_;rintro e w' ⟨rfl,hb'⟩)
    go_ret
    exact ⟨BW.out.trans hb',.inr ⟨kk,y,Y.out,rfl,hq,A.out⟩⟩
   | false =>
    rw [hq] at hcall
    go_wp2_with (go_at_fn g;refine hcall.mono ?_;rintro e w' ⟨rfl,hb'⟩)
    go_roundg (n-(kk+1))
    case measure=>omega
    case rel=>exact ⟨kk+1,by omega,by omega,by go_num,BW.out.trans hb',qG Y.out hq A.out⟩
  ·have hltz:¬ (kk:Int)<(n:Int):=by omega
   have:kk=n:=by omega
   subst this
   go_wp2
   go_ret
   refine ⟨BW.out,.inl ⟨rfl,fun x hx=>A.out x ?_⟩⟩
   rw [List.take_of_length_le (by rw [HN.out];exact Nat.le_refl _)];exact hx
def Own (w:World) (g cap:Nat) (l:List Lk):Prop :=
 ∃ cur:Array Value,w.heap[g]?=some (.cells cur 58 (0,0))∧cur.size=cap*4∧l.length≤cap∧cap≤maxLen∧∀ j e,l[j]?=some e→∀ i v,(encK e)[i]?=some v→cur[j*4+i]?=some v
theorem fZ (e:Lk):(encK e).length=4:=rfl
theorem kM {e:Lk} {i:Nat} {v:Value} (h:(encK e)[i]?=some v):i<4:=by
 have:=(List.getElem?_eq_some_iff.1 h).1;rwa [fZ] at this
theorem dH (ns:List Lk):(ns.flatMap encK).length=ns.length*4:=by
 induction ns with
 | nil=>rfl
 | cons x r ih=>rw [List.flatMap_cons,List.length_append,ih,fZ];simp;omega
section
variable {w w' W:World} {g cap:Nat} {l:List Lk}
theorem Own.lt (h:Own w g cap l):g<w.heap.size:=by
 obtain ⟨cur,hc,_⟩:=h
 exact (Array.getElem?_eq_some_iff.1 hc).1
theorem Own.len (h:Own w g cap l):l.length≤cap:=by obtain ⟨_,_,_,h,_⟩:=h;exact h
theorem Own.max (h:Own w g cap l):cap≤maxLen:=by obtain ⟨_,_,_,_,h,_⟩:=h;exact h
theorem Own.frozen (h:Own w g cap l) (o:Nat):w.frozen? ⟨g,o,none⟩=false:=by
 obtain ⟨cur,hc,_⟩:=h
 simp [World.frozen?,hc]
theorem Own.there (h:Own w g cap l) {o:Nat} (ho:o<cap*4):(w.cell? ⟨g,o,none⟩).isSome=true:=by
 obtain ⟨cur,hc,hs,_⟩:=h
 simp [World.cell?,hc,hs,ho]
theorem Own.cell (h:Own w g cap l) {j:Nat} {e:Lk} (he:l[j]?=.some e) {i:Nat} {v:Value} (hv:(encK e)[i]?=.some v):w.cell? ⟨g,j*4+i,none⟩=.some v:=by
 obtain ⟨cur,hc,_,_,_,h⟩:=h
 simp [World.cell?,hc,h j e he i v hv]
theorem Own.cells (h:Own w g cap l) {j:Nat} {e:Lk} (he:l[j]?=.some e) :
  (w.cell? ⟨g,j*4,none⟩=.some (.int .i64 e.o)∧w.cell? ⟨g,j*4+1,none⟩=.some (.int .i64 e.f)∧w.cell? ⟨g,j*4+2,none⟩=.some (.int .i64 e.t)∧w.cell? ⟨g,j*4+3,none⟩=.some (.bool e.a)) ∧
  (w.frozen? ⟨g,j*4,none⟩=false∧w.frozen? ⟨g,j*4+1,none⟩=false∧w.frozen? ⟨g,j*4+2,none⟩=false∧w.frozen? ⟨g,j*4+3,none⟩=false) :=
 ⟨⟨h.cell he (i:=0) rfl,h.cell he (i:=1) rfl,h.cell he (i:=2) rfl,h.cell he (i:=3) rfl⟩,h.frozen _,h.frozen _,h.frozen _,h.frozen _⟩
theorem Own.lies (h:Own w g cap l):Lies w (.some ⟨g,0,none⟩) l :=
 .inr ⟨g,0,rfl,h.lt,fun j e he i v hv=>by rw [Nat.zero_add];exact h.cell he hv⟩
theorem Own.kept (h:Own w g cap l) (hk:w'.heap[g]?=w.heap[g]?):Own w' g cap l:=by
 obtain ⟨cur,hc,h⟩:=h
 exact ⟨cur,hk.trans hc,h⟩
theorem Own.below (h:Own w g cap l) {B:Nat} (hB:Below B w w') (hg:g<B):Own w' g cap l:=h.kept (hB.block g hg)
theorem Own.grown (h:Own w g cap l) (hB:Grown w w'):Own w' g cap l:=h.below hB.below h.lt
theorem Own.take (h:Own w g cap l) (k:Nat):Own w g cap (l.take k):=by
 obtain ⟨cur,hc,hs,hl,hm,h⟩:=h
 refine ⟨cur,hc,hs,by rw [List.length_take];omega,hm,fun j e he=>h j e ?_⟩
 rw [List.getElem?_take] at he
 split at he
 ·exact he
 ·cases he
theorem heap_set {cur:Array Value} {t:TypeId} {f:Nat × Nat} (h:w.heap[g]?=.some (.cells cur t f)) (o:Nat) (v:Value):(w.setCell ⟨g,o,none⟩ v).heap[g]?=.some (.cells (cur.setIfInBounds o v) t f):=by
 simp [World.setCell,Array.getElem?_modify,h]
theorem Own.setCells {vs:List Value} {o:Nat} (h:Own w g cap l):∃ cur cur':Array Value,w.heap[g]?=.some (.cells cur 58 (0,0))∧(w.setCells g o vs).heap[g]?=.some (.cells cur' 58 (0,0))∧cur'.size=cur.size∧(∀ x,x<o∨o+vs.length≤x→cur'[x]?=cur[x]?)∧(∀ j v,vs[j]?=.some v→o+j<cur.size→cur'[o+j]?=.some v):=by
 obtain ⟨cur,hc,_⟩:=h
 refine ⟨cur,?_⟩
 have key:∀ (vs:List Value) (o:Nat) (w:World) (cur:Array Value),w.heap[g]?=.some (.cells cur 58 (0,0))→∃ cur':Array Value,(w.setCells g o vs).heap[g]?=.some (.cells cur' 58 (0,0))∧cur'.size=cur.size∧(∀ x,x<o∨o+vs.length≤x→cur'[x]?=cur[x]?)∧(∀ j v,vs[j]?=.some v→o+j<cur.size→cur'[o+j]?=.some v):=by
  intro vs
  induction vs with
  | nil=>intro o w cur hc;exact ⟨cur,hc,rfl,fun _ _=>rfl,fun j v hj=>by simp at hj⟩
  | cons v r ih =>
   intro o w cur hc
   obtain ⟨cur',h1,h2,h3,h4⟩:=ih (o+1) (w.setCell ⟨g,o,none⟩ v) _ (heap_set hc o v)
   refine ⟨cur',h1,by rw [h2];simp,fun x hx=>?_,fun j u hj hlt=>?_⟩
   ·rw [h3 x (by simp at hx;omega),Array.getElem?_setIfInBounds,if_neg (by simp at hx;omega)]
   ·cases j with
    | zero =>
     simp at hj;subst hj
     rw [Nat.add_zero,h3 o (by omega),Array.getElem?_setIfInBounds,if_pos rfl,if_pos (by omega)]
    | succ j=>rw [show o+(j+1)=o+1+j by omega];exact h4 j u (by simpa using hj) (by simp;omega)
 obtain ⟨cur',h1,h2,h3,h4⟩:=key vs o w cur hc
 exact ⟨cur',hc,h1,h2,h3,h4⟩
theorem Own.beyond {vs:List Value} {o:Nat} (h:Own w g cap l) (ho:l.length*4≤o):Own (w.setCells g o vs) g cap l:=by
 obtain ⟨cur,cur',h0,h1,h2,h3,_⟩:=h.setCells (vs:=vs) (o:=o)
 obtain ⟨c,hc,hs,hl,hm,hh⟩:=h
 obtain rfl:c=cur:=by have:=hc.symm.trans h0;simpa using this
 refine ⟨cur',h1,by rw [h2,hs],hl,hm,fun j e he i v hv=>?_⟩
 have hj:=(List.getElem?_eq_some_iff.1 he).1
 have hi:=kM hv
 rw [h3 _ (by omega)];exact hh j e he i v hv
theorem Own.over {ns:List Lk} {j:Nat} (h:Own w g cap l) (hj:j≤l.length) (hc:j+ns.length≤cap):Own (w.setCells g (j*4) (ns.flatMap encK)) g cap (l.take j++ns++l.drop (j+ns.length)):=by
 obtain ⟨cur,cur',h0,h1,h2,h3,h4⟩:=h.setCells (vs:=ns.flatMap encK) (o:=j*4)
 obtain ⟨c,hc0,hs,hl,hm,hh⟩:=h
 obtain rfl:c=cur:=by have:=hc0.symm.trans h0;simpa using this
 have hfl:=dH ns
 refine ⟨cur',h1,by rw [h2,hs],by simp;omega,hm,fun k e he i v hv=>?_⟩
 have hi:=kM hv
 by_cases c1:k<j
 ·rw [List.append_assoc,List.getElem?_append_left (by rw [List.length_take];omega),List.getElem?_take,if_pos c1] at he
  rw [h3 _ (by omega)];exact hh k e he i v hv
 ·by_cases c2:k<j+ns.length
  ·rw [List.append_assoc,List.getElem?_append_right (by rw [List.length_take];omega),List.length_take,Nat.min_eq_left hj,List.getElem?_append_left (by omega)] at he
   rw [show k*4+i=j*4+((k-j)*4+i) by omega]
   refine h4 _ v ?_ (by rw [hs];omega)
   have key:∀ (ns:List Lk) (q:Nat),ns[q]?=.some e→(ns.flatMap encK)[q*4+i]?=.some v:=by
    intro ns
    induction ns with
    | nil=>intro q hq;simp at hq
    | cons x r ih =>
     intro q hq
     rw [List.flatMap_cons]
     cases q with
     | zero=>simp at hq;subst hq;rw [List.getElem?_append_left (by rw [fZ];omega)];simpa using hv
     | succ q =>
      rw [List.getElem?_append_right (by rw [fZ];omega),fZ,show (q+1)*4+i-4=q*4+i by omega]
      exact ih q (by simpa using hq)
   exact key ns _ he
  ·rw [List.getElem?_append_right (by rw [List.length_append,List.length_take];omega),List.length_append,List.length_take,Nat.min_eq_left hj,List.getElem?_drop,show j+ns.length+(k-(j+ns.length))=k by omega] at he
   rw [h3 _ (by rw [hfl];omega)];exact hh k e he i v hv
theorem zD (l:List Lk) (j:Nat) (e:Lk) (hj:j<l.length):l.take j++[e]++l.drop (j+1)=l.set j e:=by
 apply List.ext_getElem?
 intro k
 rw [List.getElem?_set]
 by_cases c1:k<j
 ·rw [List.append_assoc,List.getElem?_append_left (by rw [List.length_take];omega),List.getElem?_take,if_pos c1,if_neg (by omega)]
 ·by_cases c2:k=j
  ·subst c2
   rw [List.append_assoc,List.getElem?_append_right (by rw [List.length_take];omega),List.length_take,Nat.min_eq_left (by omega)]
   simp [hj]
  ·rw [List.getElem?_append_right (by simp;omega),if_neg (by omega)]
   simp only [List.length_append,List.length_take,Nat.min_eq_left (Nat.le_of_lt hj),List.length_singleton,List.getElem?_drop]
   congr 1;omega
theorem Own.set (h:Own w g cap l) {j:Nat} (hj:j<l.length) (e:Lk):Own ((((w.setCell ⟨g,j*4,none⟩ (.int .i64 e.o)).setCell ⟨g,j*4+1,none⟩ (.int .i64 e.f)).setCell ⟨g,j*4+2,none⟩ (.int .i64 e.t)).setCell ⟨g,j*4+3,none⟩ (.bool e.a)) g cap (l.set j e):=by
 have:=h.over (ns:=[e]) (j:=j) (by omega) (by have:=h.len;simp;omega)
 rw [List.length_singleton,zD l j e hj] at this
 exact this
/-! what else has turned -/
theorem fG (w:World) (r:Option Nat):w.grownBy w r:=⟨rfl,rfl,rfl,Nat.le_refl _,fun _ _ _=>rfl⟩
theorem bf (h:w.grownBy W (.some g)) (hB:Below W.heap.size W w'):w.grownBy w' (.some g) :=
 ⟨hB.os.trans h.os,hB.tape.trans h.tape,hB.output.trans h.output,Nat.le_trans h.size hB.size,fun k hk hn=>(hB.block k (Nat.lt_of_lt_of_le hk h.size)).trans (h.block k hk hn)⟩
theorem eu (h:w.grownBy W (.some g)) (hB:Grown W w'):w.grownBy w' (.some g):=bf h hB.below
theorem jK (h:w.grownBy W (.some g)) (o:Obj):w.grownBy (W.alloc o) (.some g):=eu h ((Grown.refl W).alloc o)
theorem aY (h:w.grownBy W (.some g)) (o:Nat) (v:Value):w.grownBy (W.setCell ⟨g,o,none⟩ v) (.some g) :=
 ⟨h.os,h.tape,h.output,by simp [World.setCell];exact h.size,fun k hk hn=>(Below.heap_setCell _ _ _ _ (by intro e;exact hn (by rw [e]))).trans (h.block k hk hn)⟩
theorem fK:∀ (vs:List Value) (o:Nat) (W:World),w.grownBy W (.some g)→w.grownBy (W.setCells g o vs) (.some g)
 | [],_,_,h=>h
 | v::r,o,W,h=>fK r (o+1) _ (aY h o v)
theorem gN (h:w.grownBy W (.some g)) {a:Addr} (ha:a.block<w.heap.size) (hn:a.block≠g):W.cell? a=w.cell? a:=World.cell?_of_block (w:=w) (h.block _ ha (by simpa using hn))
theorem om {W2:World} (h:w.grownBy W (.some g)) (k:W.grownBy W2 (.some g)):w.grownBy W2 (.some g) :=
 ⟨k.os.trans h.os,k.tape.trans h.tape,k.output.trans h.output,Nat.le_trans h.size k.size,fun i hi hn=>(k.block i (Nat.lt_of_lt_of_le hi h.size) hn).trans (h.block i hi hn)⟩
end
theorem qU {w:World} {g cap:Nat} {l:List Lk} (h:Own w g cap l) {i n c:Nat} (hn:0<n) (hi:i+n≤cap) :
  ∃ zs,∀ ty,(Builtin.clear_ #[60] ty #[.slice (some ⟨g,i*4,none⟩) n c]).run Tryz.prog w=.ok (.tuple #[]) (w.setCells g (i*4) zs):=by
 refine ⟨(Builtin.zeroCells #[.int .i64 0,.int .i64 0,.int .i64 0,.bool false] n).toList,fun ty=>?_⟩
 have hlen:(Builtin.zeroCells #[.int .i64 0,.int .i64 0,.int .i64 0,.bool false] n).toList.length=n*4:=by simp [Builtin.zeroCells]
 have hst:=run_storeCells_cells (P:=Tryz.prog) g (i*4) (Builtin.zeroCells #[.int .i64 0,.int .i64 0,.int .i64 0,.bool false] n).toList 0 w
  (fun j hj=>by rw [hlen] at hj;exact h.there (by omega)) (fun j _=>h.frozen _) (fun v hv=>by
    simp only [Builtin.zeroCells,Array.toList_map,List.mem_map] at hv
    obtain ⟨k,_,rfl⟩:=hv
    have:k % 4<4:=Nat.mod_lt _ (by decide)
    show (#[Value.int .i64 0,.int .i64 0,.int .i64 0,.bool false][k % 4]!).oneCell'=true
    generalize k % 4=r at this
    match r,this with
    | 0,_=>rfl
    | 1,_=>rfl
    | 2,_=>rfl
    | 3,_=>rfl)
 obtain ⟨m,rfl⟩:∃ m,n=m+1:=⟨n-1,by omega⟩
 have hst':(storeCells ⟨g,i*4,none⟩ (Builtin.zeroCells #[.int .i64 0,.int .i64 0,.int .i64 0,.bool false] (m+1)).toList).run Tryz.prog w=.ok () (w.setCells g (i*4) (Builtin.zeroCells #[.int .i64 0,.int .i64 0,.int .i64 0,.bool false] (m+1)).toList):=hst
 simp [Builtin.clear_,run_underlying Tryz.underlying60,Value.cells,hst']
structure dV (pr:Lk→Bool) (l:List Lk) (w:World) (g cap i j:Nat) (dk:List Lk) (W:World):Prop where
 own:Own W g cap dk
 len:dk.length=l.length
 head:dk.take i=(l.take j).filter fun x => !pr x
 tail:dk.drop j=l.drop j
 gby:w.grownBy W (some g)
theorem dV.at {pr:Lk→Bool} {l:List Lk} {w:World} {g cap i j:Nat} {dk:List Lk} {W:World} (h:dV pr l w g cap i j dk W) {y:Lk} (hy:l[j]?=some y):dk[j]?=some y:=by
 have:=congrArg (·[0]?) h.tail
 simpa [List.getElem?_drop,hy] using this
theorem dh {l:List Lk} {j:Nat} {y:Lk} (hy:l[j]?=some y):l.take (j+1)=l.take j++[y]:=by
 obtain ⟨h1,h2⟩:=List.getElem?_eq_some_iff.1 hy
 rw [List.take_succ_eq_append_getElem h1,h2]
theorem dV.skip {pr:Lk→Bool} {l:List Lk} {w:World} {g cap i j:Nat} {dk:List Lk} {W W2:World} (h:dV pr l w g cap i j dk W) {y:Lk} (hy:l[j]?=some y) (hp:pr y=true) (hG:Grown W W2):dV pr l w g cap i (j+1) dk W2 :=
 ⟨h.own.grown hG,h.len,by rw [dh hy,List.filter_append,h.head];simp [hp],by have:=congrArg (·.drop 1) h.tail;simpa [List.drop_drop] using this,eu h.gby hG⟩
theorem dV.keep {pr:Lk→Bool} {l:List Lk} {w:World} {g cap i j:Nat} {dk:List Lk} {W W2:World} (h:dV pr l w g cap i j dk W) {y:Lk} (hy:l[j]?=some y) (hp:pr y=false) (hG:Grown W W2) (hij:i<j) :
  dV pr l w g cap (i+1) (j+1) (dk.set i y) ((((W2.setCell ⟨g,i*4,none⟩ (.int .i64 y.o)).setCell ⟨g,i*4+1,none⟩ (.int .i64 y.f)).setCell ⟨g,i*4+2,none⟩ (.int .i64 y.t)).setCell ⟨g,i*4+3,none⟩ (.bool y.a)):=by
 have hj:=(List.getElem?_eq_some_iff.1 hy).1
 have hi:i<dk.length:=by rw [h.len];omega
 refine ⟨(h.own.grown hG).set hi y,by rw [List.length_set,h.len],?_,?_,aY (aY (aY (aY (eu h.gby hG) _ _) _ _) _ _) _ _⟩
 ·rw [dh hy,List.filter_append,← h.head,dh (y:=y) (by rw [List.getElem?_set,if_pos rfl,if_pos hi])]
  rw [List.take_set_of_le (Nat.le_refl _)]
  simp [hp]
 ·have:=congrArg (·.drop 1) h.tail
  rw [List.drop_set_of_lt (by omega)]
  simpa [List.drop_drop] using this
theorem iQ.parts {pr:Lk→Bool} {t:List Lk} {w w':World} {r:Ending} {n:Nat} (hn:n=t.length) (h:iQ pr t w r w') :
  Grown w w'∧((r=.returned (.int .i64 (-1))∧∀ x∈t,pr x=false)∨∃ (k:Nat) (y:Lk),k<n∧t[k]?=some y∧r=.returned (.int .i64 k)∧pr y=true∧∀ x∈t.take k,pr x=false):=by
 obtain ⟨h1,h2 | ⟨k,y,h3,h4⟩⟩:=h
 ·exact ⟨h1,.inl h2⟩
 ·exact ⟨h1,.inr ⟨k,y,by rw [hn];exact (List.getElem?_eq_some_iff.1 h3).1,h3,h4⟩⟩
set_option maxHeartbeats 4000000 in
theorem mZ (pr:Lk→Bool) (gf:Nat) (lb:Array Value) (eg:∀ args w,(callFunc gf args).run Tryz.prog w=.ok (.enter gf args) w) (l:List Lk) (g cap:Nat) (w:World) (hO:Own w g cap l) (hn:l.length<4611686018427387904)
  (hp:∀ W x,w.grownBy W (some g)→x∈l→Calls Tryz.prog gf (#[.agg #[.int .i64 x.o, .int .i64 x.f, .int .i64 x.t, .bool x.a]]++lb) W fun e w'=>e=.returned (.bool (pr x))∧Grown W w') :
  Calls Tryz.prog 225 #[.slice (some ⟨g,0,none⟩) l.length cap,.func (.func gf) #[] lb] w fun e w' =>
   e=.returned (.slice (some ⟨g,0,none⟩) (l.filter fun x => !pr x).length cap)∧Own w' g cap (l.filter fun x => !pr x)∧w.grownBy w' (some g):=by
 have hI:=mO pr gf lb eg l (some ⟨g,0,none⟩) cap w hO.lies hn (fun W x hG hx=>hp W x (eu (fG w _) hG) hx)
 have HO:Aside (Own w g cap l):=hO
 have HP:Aside _:=hp
 have hcap:l.length≤cap:=hO.len
 have hc63:=hO.max
 unfold maxLen at hc63
 clear hp hO
 obtain ⟨n,hnl⟩:∃ n,n=l.length:=⟨_,rfl⟩
 have HN:Aside (n=l.length):=hnl
 rw [← hnl] at hn hcap hI ⊢
 clear hnl
 go_enter Tryz.func225,Tryz.ntmps225
 go_wp2_with (go_at_call 53;refine hI.mono ?_;clear hI;intro e w1 hIP;rcases iQ.parts HN.out hIP with ⟨hG,⟨rfl,ha⟩ | ⟨k0,y0,hk0,hy0,rfl,hpy0,ha⟩⟩ <;> clear hIP)
 ·go_ret
  have hf:(l.filter fun x => !pr x)=l:=List.filter_eq_self.2 fun x hx=>by simp [ha x hx]
  rw [hf]
  exact ⟨by rw [← HN.out];rfl,HO.out.grown hG,eu (fG w _) hG⟩
 ·have HI0:Aside (dV pr l w g cap k0 (k0+1) l w1):=⟨HO.out.grown hG,rfl,by rw [dh hy0,List.filter_append,List.filter_eq_self.2 (fun x hx=>by simp [ha x hx])];simp [hpy0],rfl,eu (fG w _) hG⟩
  clear hy0 ha hG
  have hne1:((k0:Int) == -1)=false:=beq_eq_false_iff_ne.2 (by omega)
  go_wp2
  go_loopg [5,6,7] n (fun gg s5 s6 _ wr=>∃ (i j:Nat) (dk:List Lk),s5=.int .i64 i∧s6=.int .i64 j∧i<j∧j≤n∧n-j≤gg∧Aside (dV pr l w g cap i j dk wr))
  case atStart=>exact ⟨k0,k0+1,l,rfl,by go_num,by omega,by omega,by omega,HI0.out⟩
  case round =>
   obtain ⟨i,j,dk,rfl,rfl,hij,hjn,hgg,INV⟩:=hrel
   have hglt:=INV.out.own.lt
   have hne:g≠wr.heap.size:=by omega
   by_cases hlt:j<n
   ·have hltz:(j:Int)<(n:Int):=by omega
    obtain ⟨y,hy⟩:∃ y,l[j]?=some y:=⟨_,List.getElem?_eq_getElem (by have:=HN.out;omega)⟩
    have HY:Aside (l[j]?=some y):=hy
    obtain ⟨⟨c0,c1,c2,c3⟩,_⟩:=INV.out.own.cells (INV.out.at hy)
    have hcall:=HP.out _ y (jK INV.out.gby (.cells #[.int .i64 y.o, .int .i64 y.f, .int .i64 y.t, .bool y.a] 58)) (List.mem_of_getElem? hy)
    obtain ⟨z,hz⟩:∃ z,dk[i]?=some z:=⟨_,List.getElem?_eq_getElem (by rw [INV.out.len];have:=HN.out;omega)⟩
    have HZ:Aside (dk[i]?=some z):=hz
    clear hy hz
    cases hq:pr y with
    | true =>
     rw [hq] at hcall
     go_wp2_with (go_at_fn gf;refine hcall.mono ?_;clear hcall;rintro e w2 ⟨rfl,hG2⟩)
     go_roundg (n-(j+1))
     case measure=>omega
     case rel=>exact ⟨i,j+1,dk,rfl,by go_num,by omega,by omega,Nat.le_refl _,INV.out.skip HY.out hq (((Grown.refl wr).alloc _).trans hG2)⟩
    | false =>
     rw [hq] at hcall
     go_wp2_with (go_at_fn gf;refine hcall.mono ?_;clear hcall;rintro e w2 ⟨rfl,hG2⟩;obtain ⟨⟨b0,b1,b2,b3⟩,_⟩:=new4 (by simp) hG2.below;obtain ⟨⟨a0,a1,a2,a3⟩,⟨f0,f1,f2,f3⟩⟩:=(INV.out.own.grown (((Grown.refl wr).alloc _).trans hG2)).cells HZ.out)
     go_roundg (n-(j+1))
     case measure=>omega
     case rel=>exact ⟨i+1,j+1,dk.set i y,by go_num,by go_num,by omega,by omega,Nat.le_refl _,INV.out.keep HY.out hq (((Grown.refl wr).alloc _).trans hG2) hij⟩
   ·obtain rfl:j=n:=by omega
    have hltz:¬ (j:Int)<(j:Int):=by omega
    obtain ⟨zs,hzs⟩:=qU INV.out.own (i:=i) (n:=j-i) (c:=cap-i) (by omega) (by omega)
    have hic:¬ cap=i:=by omega
    go_wp2
    go_ret
    have hf:(l.filter fun x => !pr x)=dk.take i:=by rw [INV.out.head,HN.out,List.take_length]
    have hl:(dk.take i).length=i:=by rw [List.length_take,INV.out.len];have:=HN.out;omega
    rw [hf,hl]
    exact ⟨rfl,(INV.out.own.take i).beyond (by rw [hl];exact Nat.le_refl _),fK _ _ _ INV.out.gby⟩
theorem Cu:∃ i0,Tryz.prog.info? 58=some i0∧i0.zero=some (.agg #[.int .i64 0,.int .i64 0,.int .i64 0,.bool false])∧i0.size=4∧i0.bytes=32:=by
 have h:(Tryz.prog.info? 58).map (fun i=>(i.zero,i.size,i.bytes))=some (some (.agg #[.int .i64 0,.int .i64 0,.int .i64 0,.bool false]),4,32):=by kernel_rfl
 cases hi:Tryz.prog.info? 58 with
 | none=>rw [hi] at h;cases h
 | some i0 =>
  rw [hi] at h
  simp only [Option.map_some,Option.some.injEq,Prod.mk.injEq] at h
  exact ⟨i0,rfl,h.1,h.2.1,h.2.2⟩
theorem flat_get {t:List Lk} {k:Nat} {u:Value} (h:(t.flatMap encK)[k]?=some u):∃ j e i,t[j]?=some e∧(encK e)[i]?=some u∧k=j*4+i:=by
 induction t generalizing k with
 | nil=>simp at h
 | cons x r ih =>
  rw [List.flatMap_cons] at h
  by_cases hk:k<4
  ·rw [List.getElem?_append_left (by rw [fZ];exact hk)] at h
   exact ⟨0,x,k,rfl,h,by omega⟩
  ·rw [List.getElem?_append_right (by rw [fZ];omega),fZ] at h
   obtain ⟨j,e,i,h1,h2,h3⟩:=ih h
   exact ⟨j+1,e,i,by simpa using h1,h2,by omega⟩
theorem pz {t:List Lk} {j i:Nat} {e:Lk} {v:Value} (h:t[j]?=some e) (hv:(encK e)[i]?=some v):(t.flatMap encK)[j*4+i]?=some v:=by
 have hi:=kM hv
 induction t generalizing j with
 | nil=>simp at h
 | cons x r ih =>
  rw [List.flatMap_cons]
  cases j with
  | zero=>simp at h;subst h;rw [List.getElem?_append_left (by rw [fZ];omega)];simpa using hv
  | succ j =>
   rw [List.getElem?_append_right (by rw [fZ];omega),fZ,show (j+1)*4+i-4=j*4+i by omega]
   exact ih (by simpa using h)
theorem gq {t:List Lk} {u:Value} (h:u∈t.flatMap encK):u.oneCell'=true:=by
 obtain ⟨e,_,he⟩:=List.mem_flatMap.1 h
 simp [encK] at he
 rcases he with rfl | rfl | rfl | rfl <;> rfl
theorem Lies.flat {w:World} {ad:Addr} {t:List Lk} (h:Lies w (some ad) t) {W:World} (hW:Below w.heap.size w W):∀ j u,(t.flatMap encK)[j]?=some u→W.cell? (ad.add j)=some u:=by
 intro k u hu
 obtain ⟨j,e,i,h1,h2,rfl⟩:=flat_get hu
 rcases h with rfl | ⟨b,off,he,hb,hc⟩
 ·simp at h1
 ·cases he
  rw [Addr.add_lit,hW.cell (p:=⟨b,off+(j*4+i),none⟩) hb,← Nat.add_assoc]
  exact hc j e h1 i u h2
theorem Own.iC {w:World} {base n:Nat} {v:Value} {t:List Lk} (h:w.ownsRow base 58 4 v n (t.flatMap encK)) (hv:v≠.slice none 0 0) (hn:n=t.length):∃ g c,v=.slice (some ⟨g,0,none⟩) t.length c∧base≤g∧Own w g c t:=by
 obtain ⟨h1,h2 | ⟨g,cap,cur,hv',hg,hh,hnc,hm,hs,ht⟩⟩:=h
 ·exact absurd h2.1 hv
 ·subst hn
  refine ⟨g,cap,hv',hg,cur,hh,hs,hnc,hm,fun j e he i v hvv=>?_⟩
  have:=pz he hvv
  rw [← ht,List.getElem?_take] at this
  split at this
  ·rw [← Array.getElem?_toList];exact this
  ·cases this
theorem iY (w:World) (H:Nat) (hH:H=w.heap.size):(w.alloc (.cells #[] 58)).ownsRow H 58 4 (.slice (some ⟨H,0,none⟩) 0 0) 0 []:=by
 subst hH
 exact ⟨rfl,.inr ⟨w.heap.size,0,#[],rfl,Nat.le_refl _,(by show (w.heap.push _)[w.heap.size]?=_;simp),Nat.le_refl _,by decide,rfl,rfl⟩⟩
theorem iH {ops:Array Oper} {rest:List Oper} {o:Oper} {a:Act} {Q:Exit→Act→World→Prop} (W:World) (hgd:o.guard=none) (s x:Operand)
  (ho:o.op=.call { callee:=.builtin .append,args:=#[s,x],argTypes:=#[60,60] }) (H:Nat) (hs:a.eval s=.slice (some ⟨H,0,none⟩) 0 0) (hown:W.ownsRow H 58 4 (.slice (some ⟨H,0,none⟩) 0 0) 0 [])
  (p:Option Addr) (n cap:Nat) (t:List Lk) (hx:a.eval x=.slice p n cap) (hn:n=t.length) (hL:Lies W p t) (hnil:p=none→cap=0) (h80:n*32≤140737488355328) (hH:H≤W.heap.size)
  (h:∀ g c w',Own w' g c t→H≤g→Below H W w'→wpList Tryz.prog ops Q rest (a.put o.dst (.slice (some ⟨g,0,none⟩) n c)) w'):wpList Tryz.prog ops Q (o::rest) a W:=by
 obtain ⟨i0,hi,hz0,hz1,hz2⟩:=Cu
 cases p with
 | none =>
  obtain rfl:cap=0:=hnil rfl
  have ht:t=[]:=by
   rcases hL with h | ⟨b,off,he,_⟩
   ·exact h
   ·cases he
  subst ht
  obtain rfl:n=0:=hn
  refine wpList_append_own_none hgd s x 60 ho H 58 i0 4 Tryz.underlying60 hi _ 0 [] hs hown hx ?_
  obtain ⟨g,c,hv,hg,ho'⟩:=Own.iC (t:=[]) hown (by simp) rfl
  simp only [List.length_nil] at hv
  rw [hv]
  exact h g c W ho' hg (Below.refl _ _)
 | some ad =>
  refine wpList_append_own W hgd s x 60 ho H 58 i0 _ 4 32 Tryz.underlying60 hi hz0 hz1 hz2 rfl (by decide) _ 0 [] hs hown ad n cap (t.flatMap encK) hx (by rw [dH,hn]) (hL.flat (Below.refl _ _)) (fun u hu=>gq hu) (by unfold maxLen;omega) (by omega) hH ?_
  intro v' w' hrow hg hiff
  rw [List.nil_append,Nat.zero_add] at hrow
  obtain ⟨g,c,hv,hgg,ho'⟩:=Own.iC hrow (by intro e;have:=(hiff.1 e).1;cases this) hn
  rw [hv,← hn]
  exact h g c w' ho' hgg ((Below.refl H W).grown hg hH (fun k hk=>by simp [Value.ownBlock] at hk;omega))
def Rows (w:World) (base:Nat) (v:Value) (l:List Lk):Prop:=w.ownsRow base 58 4 v l.length (l.flatMap encK)
theorem Rows.nil (w:World) (base:Nat):Rows w base (.slice none 0 0) []:=World.ownsRow_nil _ _ _ _
theorem Rows.mono {w:World} {base base':Nat} {v:Value} {l:List Lk} (h:Rows w base v l) (hb:base'≤base):Rows w base' v l:=by
 refine ⟨h.1,h.2.imp id ?_⟩
 rintro ⟨g,cap,cur,e,hg,r⟩
 exact ⟨g,cap,cur,e,Nat.le_trans hb hg,r⟩
theorem Rows.below {w w':World} {base:Nat} {v:Value} {l:List Lk} (h:Rows w base v l) (hb:Below w.heap.size w w'):Rows w' base v l:=by
 refine ⟨h.1,h.2.imp id ?_⟩
 rintro ⟨g,cap,cur,e,hg,hh,r⟩
 have hlt:g<w.heap.size:=by
  rcases Nat.lt_or_ge g w.heap.size with h' | h'
  ·exact h'
  ·rw [Array.getElem?_eq_none h'] at hh;cases hh
 exact ⟨g,cap,cur,e,hg,by rw [hb.block g hlt];exact hh,r⟩
theorem Rows.form {w:World} {base:Nat} {v:Value} {l:List Lk} (h:Rows w base v l):∃ p c,v=.slice p l.length c∧Lies w p l∧l.length≤c∧(p=none→c=0):=by
 by_cases hv:v=.slice none 0 0
 ·have hl:l=[]:=by
   obtain ⟨h1,⟨_,h2⟩ | ⟨g,cap,cur,hv',_⟩⟩:=h
   ·exact List.eq_nil_of_length_eq_zero h2
   ·rw [hv'] at hv;cases hv
  subst hl
  exact ⟨none,0,hv,Lies.nil _ _,Nat.le_refl _,fun _=>rfl⟩
 ·obtain ⟨g,c,e,_,ho⟩:=Own.iC h hv rfl
  exact ⟨_,c,e,ho.lies,ho.len,fun h=>by cases h⟩
theorem jE (W:World) (y:Lk) (H:Nat) (hH:H=W.heap.size):∀ j u,(encK y)[j]?=some u→(W.alloc (.cells #[.int .i64 y.o,.int .i64 y.f,.int .i64 y.t,.bool y.a] 58)).cell? ((⟨H,0,none⟩:Addr).add j)=some u:=by
 subst hH
 intro j u h
 have hj:=kM h
 obtain rfl | rfl | rfl | rfl:j=0∨j=1∨j=2∨j=3:=by omega
 all_goals (simp [encK] at h;subst h;rw [Addr.add_lit];simp)
def uH (l:List Lk) (w:World) (e:Ending) (w':World):Prop:=(∃ v,e=.returned v∧Rows w' w.heap.size v l)∧Below w.heap.size w w'
theorem jR {ops:Array Oper} {rest:List Oper} {o:Oper} {a:Act} {Q:Exit→Act→World→Prop} (X:World) (y:Lk) (hgd:o.guard=none) (s x:Operand)
  (ho:o.op=.call { callee:=.builtin .append,args:=#[s,x],argTypes:=#[60,60] }) (base:Nat) (v:Value) (l:List Lk) (hs:a.eval s=v) (hrow:Rows X base v l) (hlen:(l.length+1)*32≤140737488355328) (hbase:base≤X.heap.size)
  (H:Nat) (hH:H=X.heap.size) (hx:a.eval x=.slice (some ⟨H,0,none⟩) 1 1)
  (h:∀ v' w',Rows w' base v' (l++[y])→Below base X w'→(∀ ad:Addr,ad.block<X.heap.size→(∀ g,v.ownBlock=some g→ad.block≠g)→w'.cell? ad=X.cell? ad)→X.heap.size≤w'.heap.size→wpList Tryz.prog ops Q rest (a.put o.dst v') w') :
  wpList Tryz.prog ops Q (o::rest) a (X.alloc (.cells #[.int .i64 y.o, .int .i64 y.f, .int .i64 y.t, .bool y.a] 58)):=by
 obtain ⟨i0,hi,hz0,hz1,hz2⟩:=Cu
 refine wpList_append_own _ hgd s x 60 ho base 58 i0 _ 4 32 Tryz.underlying60 hi hz0 hz1 hz2 rfl (by decide) _ _ _ hs (World.ownsRow.alloc hrow _) _ 1 1 (encK y) hx rfl (jE _ _ _ hH) (fun u hu=>gq (t:=[y]) (by simpa using hu)) (by unfold maxLen;omega) (by omega) (by simp;omega) ?_
 intro v' w' hown hgrow _
 have hsz:X.heap.size≤w'.heap.size:=by have:=hgrow.size;simp at this;omega
 refine h v' w' (by simpa [Rows] using hown) (((Below.refl base X).alloc hbase _).grown hgrow (by simp;omega) (fun j hj=>(World.ownsRow.lt hrow j hj).1)) (fun ad had hne=>?_) hsz
 have h1:w'.cell? ad=(X.alloc (.cells #[.int .i64 y.o, .int .i64 y.f, .int .i64 y.t, .bool y.a] 58)).cell? ad:=World.cell?_of_block (hgrow.block _ (by simp;omega) (fun e=>hne _ e.symm rfl))
 rw [h1]
 exact ((Grown.refl X).alloc _).cell had
theorem oq (w:World) (cs:Array Value) (cap:Nat) (l:List Lk) (hs:cs.size=cap*4) (hl:l.length≤cap) (hm:cap≤maxLen) (hc:∀ (k:Nat) (v:Value),(l.flatMap encK)[k]?=some v→cs[k]?=some v):Own (w.alloc (.cells cs 58)) w.heap.size cap l :=
 ⟨cs,(by show (w.heap.push _)[w.heap.size]?=_;simp),hs,hl,hm,fun j e he i v hv=>hc _ v (pz he hv)⟩
theorem upA {w W:World} {o o2:Obj} (h:Below (w.heap.size+1) (w.alloc o) W):Below (w.heap.size+1) (w.alloc o) (W.alloc o2):=h.alloc (by have:=h.size;simpa using this) _
end Go.Proofs.YthfeoiffoeagkaaGreatDoor.LK
namespace Go.Proofs.YthfeoiffoeagkaaGreatDoor.LK
open Go.RowKit Go.Sort KM
set_option linter.unusedVariables false
def orL:List Int→Int
 | []=>0
 | x::r=>if x=0 then orL r else x
theorem vT (xs:List Int) (B cap:Nat) (w:World) (hn:xs.length≤100) (hc:∀ j x,xs[j]?=some x→w.cell? ⟨B,j,none⟩=some (.int .i64 x)) :
  Calls Tryz.prog 157 #[.slice (some ⟨B,0,none⟩) xs.length cap] w fun e w'=>e=.returned (.int .i64 (orL xs))∧w'=w:=by
 have HC:Aside (∀ j x,xs[j]?=some x→w.cell? ⟨B,j,none⟩=some (.int .i64 x)):=hc
 obtain ⟨n,hnl⟩:∃ n,n=xs.length:=⟨_,rfl⟩
 have HN:Aside (n=xs.length):=hnl
 rw [← hnl] at hn ⊢
 clear hnl hc
 go_enter Tryz.func157,Tryz.ntmps157
 go_wp2
 go_loop [8] (fun i=>∃ k:Nat,k≤n∧i=.int .i64 k∧Aside (orL (xs.drop k)=orL xs)) (fun i=>n-(intOf i).toNat)
 case atStart=>exact ⟨0,Nat.zero_le _,rfl,by show _=_;rfl⟩
 case round =>
  obtain ⟨k,hk,rfl,HA⟩:=hrel
  by_cases hlt:k<n
  ·have hltz:(k:Int)<(n:Int):=by omega
   obtain ⟨y,hy⟩:∃ y,xs[k]?=some y:=⟨_,List.getElem?_eq_getElem (by have:=HN.out;omega)⟩
   have hcell:=HC.out k y hy
   have HD:Aside (orL (xs.drop k)=if y=0 then orL (xs.drop (k+1)) else y):=by
    obtain ⟨h1,h2⟩:=List.getElem?_eq_some_iff.1 hy
    show _=_
    rw [List.drop_eq_getElem_cons h1,orL,h2]
   clear hy
   by_cases h0:y=0
   ·have HE:Aside (orL (xs.drop (k+1))=orL xs):=by show _=_;rw [← HA.out,HD.out,if_pos h0]
    clear HD HA
    go_wp2
    exact ⟨⟨k+1,by omega,by go_num,HE⟩,by simp [intOf];omega⟩
   ·have HE:Aside (orL xs=y):=by show _=_;rw [← HA.out,HD.out,if_neg h0]
    clear HD HA
    go_wp2
    go_ret
    exact ⟨bA HE.out.symm,rfl⟩
  ·have hltz:¬ (k:Int)<(n:Int):=by omega
   have HE:Aside (orL xs=0):=by show _=_;rw [← HA.out,List.drop_of_length_le (by have:=HN.out;omega)];rfl
   clear HA
   go_wp2
   go_ret
   exact ⟨bA HE.out.symm,rfl⟩
theorem EY (xs:List Int) (B cap:Nat) (w:World) (hn:xs.length≤100) (hc:∀ j x,xs[j]?=some x→w.cell? ⟨B,j,none⟩=some (.int .i64 x)) :
  Calls Tryz.prog 229 #[.slice (some ⟨B,0,none⟩) xs.length cap] w fun e w'=>e=.returned (.int .i64 (orL xs))∧w'=w:=by
 have HC:Aside (∀ j x,xs[j]?=some x→w.cell? ⟨B,j,none⟩=some (.int .i64 x)):=hc
 obtain ⟨n,hnl⟩:∃ n,n=xs.length:=⟨_,rfl⟩
 have HN:Aside (n=xs.length):=hnl
 rw [← hnl] at hn ⊢
 clear hnl hc
 go_enter Tryz.func229,Tryz.ntmps229
 go_wp2
 go_loop [8] (fun i=>∃ k:Nat,k≤n∧i=.int .i64 k∧Aside (orL (xs.drop k)=orL xs)) (fun i=>n-(intOf i).toNat)
 case atStart=>exact ⟨0,Nat.zero_le _,rfl,by show _=_;rfl⟩
 case round =>
  obtain ⟨k,hk,rfl,HA⟩:=hrel
  by_cases hlt:k<n
  ·have hltz:(k:Int)<(n:Int):=by omega
   obtain ⟨y,hy⟩:∃ y,xs[k]?=some y:=⟨_,List.getElem?_eq_getElem (by have:=HN.out;omega)⟩
   have hcell:=HC.out k y hy
   have HD:Aside (orL (xs.drop k)=if y=0 then orL (xs.drop (k+1)) else y):=by
    obtain ⟨h1,h2⟩:=List.getElem?_eq_some_iff.1 hy
    show _=_
    rw [List.drop_eq_getElem_cons h1,orL,h2]
   clear hy
   by_cases h0:y=0
   ·have HE:Aside (orL (xs.drop (k+1))=orL xs):=by show _=_;rw [← HA.out,HD.out,if_pos h0]
    clear HD HA
    go_wp2
    exact ⟨⟨k+1,by omega,by go_num,HE⟩,by simp [intOf];omega⟩
   ·have HE:Aside (orL xs=y):=by show _=_;rw [← HA.out,HD.out,if_neg h0]
    clear HD HA
    go_wp2
    go_ret
    exact ⟨bA HE.out.symm,rfl⟩
  ·have hltz:¬ (k:Int)<(n:Int):=by omega
   have HE:Aside (orL xs=0):=by show _=_;rw [← HA.out,List.drop_of_length_le (by have:=HN.out;omega)];rfl
   clear HA
   go_wp2
   go_ret
   exact ⟨bA HE.out.symm,rfl⟩
theorem rE (a:Int) (w:World):Calls Tryz.prog 258 #[.int .i64 a] w fun r w'=>r=.returned (.bool false)∧w'=w:=by
 go_enter Tryz.func258,Tryz.ntmps258
 go_wp2
 go_ret
 exact ⟨by simp,rfl⟩
theorem F6 (a b:Int) (w:World):Calls Tryz.prog 230 #[.int .i64 a,.int .i64 b] w fun r w'=>r=.returned (.int .i64 (cmpI a b))∧w'=w:=by
 by_cases h1:a<b
 ·have H:Aside (cmpI a b = -1):=by show _=_;rw [cmpI,if_pos h1]
  go_enter Tryz.func230,Tryz.ntmps230
  go_wp2_with (go_at_call 258;refine (rE _ _).mono ?_;rintro r w' ⟨rfl,hw⟩;subst hw)
  go_ret
  exact ⟨bA H.out.symm,rfl⟩
 ·by_cases h2:b<a
  ·have H:Aside (cmpI a b=1):=by show _=_;rw [cmpI,if_neg h1,if_pos h2]
   go_enter Tryz.func230,Tryz.ntmps230
   go_wp2_with (go_at_call 258;refine (rE _ _).mono ?_;rintro r w' ⟨rfl,hw⟩;subst hw)
   go_ret
   exact ⟨bA H.out.symm,rfl⟩
  ·have H:Aside (cmpI a b=0):=by show _=_;rw [cmpI,if_neg h1,if_neg h2]
   go_enter Tryz.func230,Tryz.ntmps230
   go_wp2_with (go_at_call 258;refine (rE _ _).mono ?_;rintro r w' ⟨rfl,hw⟩;subst hw)
   go_ret
   exact ⟨bA H.out.symm,rfl⟩
theorem Ie {X:World} {B:Nat} {a b:Value} {t:TypeId} (hB:B=X.heap.size):((X.alloc (.cells #[a,b] t)).drew).cell? ⟨B,0,none⟩=some a∧((X.alloc (.cells #[a,b] t)).drew).cell? ⟨B,1,none⟩=some b:=by
 subst hB
 exact ⟨show (X.alloc (.cells #[a,b] t)).cell? _=_ by simp,show (X.alloc (.cells #[a,b] t)).cell? _=_ by simp⟩
theorem IJ (a b:Lk):orL [cmpI a.o b.o,cmpI a.f b.f]=cmpK a b:=by
 simp only [orL,cmpK]
 split
 ·split
  ·rename_i h;exact h.symm
  ·rfl
 ·rfl
theorem GD (a b:Int) (B:Nat) (W:World) (h0:W.cell? ⟨B,0,none⟩=some (.int .i64 a)) (h1:W.cell? ⟨B,1,none⟩=some (.int .i64 b)):Calls Tryz.prog 229 #[.slice (some ⟨B,0,none⟩) 2 2] W fun e w'=>e=.returned (.int .i64 (orL [a,b]))∧w'=W :=
 EY [a,b] B 2 W (by show 2≤100;decide) (fun j x hj=>by
  match j,hj with
  | 0,hj=>simp at hj;subst hj;exact h0
  | 1,hj=>simp at hj;subst hj;exact h1)
theorem GA (a b:Int) (B:Nat) (W:World) (h0:W.cell? ⟨B,0,none⟩=some (.int .i64 a)) (h1:W.cell? ⟨B,1,none⟩=some (.int .i64 b)):Calls Tryz.prog 157 #[.slice (some ⟨B,0,none⟩) 2 2] W fun e w'=>e=.returned (.int .i64 (orL [a,b]))∧w'=W :=
 vT [a,b] B 2 W (by show 2≤100;decide) (fun j x hj=>by
  match j,hj with
  | 0,hj=>simp at hj;subst hj;exact h0
  | 1,hj=>simp at hj;subst hj;exact h1)
theorem nD (a b:Lk) (w:World) :
  Calls Tryz.prog 228 #[.agg #[.int .i64 a.o, .int .i64 a.f, .int .i64 a.t, .bool a.a],.agg #[.int .i64 b.o, .int .i64 b.f, .int .i64 b.t, .bool b.a]] w fun r w'=>r=.returned (.int .i64 (cmpK a b))∧Grown w w':=by
 have HK:Aside (orL [cmpI a.o b.o,cmpI a.f b.f]=cmpK a b):=IJ a b
 go_enter Tryz.func228,Tryz.ntmps228
 go_wp2
 go_region_held3 (fun w'=>w'.cell? ⟨w.heap.size,0,none⟩=some (.int .i64 a.o)∧w'.cell? ⟨w.heap.size,1,none⟩=some (.int .i64 a.f)∧w'.cell? ⟨w.heap.size+1,0,none⟩=some (.int .i64 b.o)∧w'.cell? ⟨w.heap.size+1,1,none⟩=some (.int .i64 b.f)) (go_keep) (first
  | (go_at_call 230;refine (F6 _ _ _).mono ?_;rintro r w' ⟨rfl,hw⟩;subst hw)
  | (go_at_call 229;refine (GD _ _ _ _ (Ie (by simp)).1 (Ie (by simp)).2).mono ?_;rintro r w' ⟨rfl,hw⟩;subst hw))
 go_wp2
 go_ret
 exact ⟨bA HK.out,((((Grown.refl w).alloc _).alloc _).alloc _).drewN 1⟩
def cfS (x y:Lk):Int:=cmpK x y
theorem ltS (x y:Lk):ltOf cfS x y=decide (cmpK x y<0):=rfl
theorem swoS:SWO (ltOf cfS) where
 irrefl x:=by rw [ltS];refine decide_eq_false ?_;rw [sJ];omega
 trans x y z h1 h2:=by
  rw [ltS] at *
  have g1:=of_decide_eq_true h1
  have g2:=of_decide_eq_true h2
  refine decide_eq_true ?_
  rw [sJ] at *;omega
 ntrans x y z h1 h2:=by
  rw [ltS] at *
  have g1:=of_decide_eq_false h1
  have g2:=of_decide_eq_false h2
  refine decide_eq_false ?_
  rw [sJ] at *;omega
theorem uI (blk off size:Nat) (w:World):CmpLays Tryz.prog 228 #[] encK 4 cfS blk off size w :=
 fun _ _ _ _ x y=>nD x y _
theorem nG {α:Type} [Inhabited α] (enc:α→List Value) (k:Nat) (w:World) (blk off n:Nat) (d:Array α) (os:Array Obj):w.grownBy (sortWorldK enc k w blk off n d os) (some blk):=by
 refine ⟨rfl,rfl,rfl,?_,fun j hj hn=>?_⟩
 ·show w.heap.size≤((w.heap.modify blk _)++os).size
  simp
 ·show ((w.heap.modify blk _)++os)[j]?=_
  rw [Array.getElem?_append_left (by simpa using hj),Array.getElem?_modify,if_neg (by intro e;exact hn (by rw [e]))]
theorem qm {x y:Lk}:ltOf cfS y x=false↔¬ cmpK y x<0:=by rw [ltS];exact decide_eq_false_iff_not
theorem qE (l:List Lk) (g cap:Nat) (w:World) (hO:Own w g cap l) (hn:l.length≤2000) :
  Calls Tryz.prog 227 #[.slice (some ⟨g,0,none⟩) l.length cap,.func (.func 228) #[] #[]] w fun e w' =>
   e=.returned (.tuple #[])∧∃ l':List Lk,l'.Perm l∧l'.Pairwise (fun a b=>¬ cmpK b a<0)∧Lies w' (some ⟨g,0,none⟩) l'∧w.grownBy w' (some g):=by
 have eg:∀ args w,(callFunc 228 args).run Tryz.prog w=.ok (.enter 228 args) w:=enters_of Tryz.func228 (by kernel_rfl) rfl
 have hd:l.toArray.size=l.length:=by simp
 have hget:∀ j:Nat,j<l.length→l[j]?=some (l.toArray[j]!):=fun j hj=>by
  rw [getElem!_pos _ j (by rw [hd];exact hj)]
  simp [hj]
 have hH:HoldsK encK 4 w g 0 l.toArray:=by
  intro j hj
  rw [size_flatK,hd] at hj
  rw [get_flatK _ _ _ _ (by rw [hd];exact hj),Nat.zero_add]
  refine ⟨?_,hO.frozen _⟩
  have hm:j % 4<4:=Nat.mod_lt _ (by decide)
  have he:=hget (j / 4) (by omega)
  have hv:(encK (l.toArray[j / 4]!))[j % 4]?=some ((encK l.toArray[j / 4]!)[j % 4]!):=by
   rw [List.getElem!_eq_getElem?_getD,List.getElem?_eq_getElem (by rw [fZ];exact hm)]
   rfl
  have:=hO.cell he hv
  rwa [show j / 4*4+j % 4=j by omega] at this
 have hlim:Lib.bitLen l.length<4611686018427387904:=Nat.lt_of_le_of_lt (Lib.bitLen_le l.length 62 (by omega) (by omega)) (by omega)
 have hp0:=AnyQ.pdqsortCmpFunc_all Tryz.sortK 4 Tryz.isAgg58 Tryz.sizeOf58 encK cfS 228 #[] swoS g 0 cap l.toArray w eg (uI g 0 _ w) ⟨fun _=>rfl,fun x v hv=>gq (t:=[x]) (by simpa [encK] using hv),hH,hO.lt⟩ (l.toArray.size+1) 0 l.toArray.size (Lib.bitLen l.length) l.toArray w (by omega) rfl (SWK.start hH) (Nat.zero_le _) (Nat.le_refl _) (by rw [hd];omega) hlim (Or.inl rfl)
 have hsorts:=pdq_sorts (ltOf cfS) swoS l.toArray 0 l.toArray.size (Lib.bitLen l.length) true true (Nat.zero_le _) (Nat.le_refl _) (Or.inl rfl)
 generalize pdq (ltOf cfS) l.toArray 0 l.toArray.size (Lib.bitLen l.length) true true=d' at hp0 hsorts
 change Calls Tryz.prog 257 _ _ _ at hp0
 have hl:Calls Tryz.prog 205 #[.int .u64 (l.length:Int)] w fun e w'=>e=.returned (.int .i64 (Lib.bitLen l.length:Nat))∧w'=w:=by
  have h:=Any.bits_Len (SlLaysF0.n15.bits Tryz.bitsK) (l.length:Int) w (by omega) (by omega)
  rwa [Int.toNat_natCast] at h
 have wr:IntKind.u64.wrap (l.length:Int)=l.length:=by simp [IntKind.wrap,IntKind.bits,IntKind.signed];omega
 obtain ⟨hp,hs⟩:=hsorts
 rw [hd] at hp0 hp hs
 have HO:Aside (Own w g cap l):=hO
 have HP:Aside (PermIn 0 l.length l.toArray d'∧SortedIn (ltOf cfS) 0 l.length d'):=⟨hp,hs⟩
 have HH:Aside (HoldsK encK 4 w g 0 l.toArray):=hH
 have HD:Aside (l.toArray.size=l.length):=hd
 have HG:Aside (∀ j:Nat,j<l.length→l[j]?=some (l.toArray[j]!)):=hget
 clear hO hp hs hH hget hd eg
 generalize hbl:Lib.bitLen l.length=bl at *
 clear hbl
 generalize hnl:l.length=n0 at hp0 hl wr hn hlim ⊢
 have HN:Aside (l.length=n0):=hnl
 clear hnl
 go_enter Tryz.func227,Tryz.ntmps227
 go_wp2_with (first | (go_at_call 205;refine hl.mono ?_;rintro e wx ⟨rfl,hwx⟩;subst wx) | (go_at_call 257;refine hp0.mono ?_;rintro e w' ⟨rfl,n,os,rfl⟩))
 go_end0
 obtain ⟨hp,hs⟩:=HP.out
 have hd:=HD.out
 have hO:=HO.out
 have hH:=HH.out
 refine ⟨rfl,d'.toList,?_,?_,?_,nG _ _ _ _ _ _ _ _⟩
 ·obtain ⟨h1,_,h3⟩:=hp
  rw [hd] at h1
  have e1:d'.extract 0 l.length=d':=by rw [← h1,Array.extract_size]
  have e2:l.toArray.extract 0 l.length=l.toArray:=by rw [← hd,Array.extract_size]
  rw [e1,e2] at h3
  exact h3
 ·rw [List.pairwise_iff_getElem]
  intro i j hi hj hij
  have h1:=hp.1
  rw [hd] at h1
  simp at hi hj
  have:=hs i j (Nat.zero_le _) hij (by omega)
  rw [getElem!_pos d' j hj,getElem!_pos d' i hi] at this
  simpa using qm.1 this
 ·have h1:=hp.1
  have hH':=holdsK_sortWorldK encK 4 w g 0 n l.toArray d' os hO.lt hH h1
  have hsz:=(nG encK 4 w g 0 n d' os).size
  refine .inr ⟨g,0,rfl,Nat.lt_of_lt_of_le hO.lt hsz,fun j e he i v hv=>?_⟩
  rw [Array.getElem?_toList] at he
  obtain ⟨hj,rfl⟩:=Array.getElem?_eq_some_iff.1 he
  have hi:=kM hv
  have:=(HoldsK.cell hH' hj hi).1
  rw [getElem!_pos d' j hj] at this
  rw [this]
  rw [List.getElem!_eq_getElem?_getD,hv]
  rfl
end Go.Proofs.YthfeoiffoeagkaaGreatDoor.LK
