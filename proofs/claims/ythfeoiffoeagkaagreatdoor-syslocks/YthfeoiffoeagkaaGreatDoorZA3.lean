/-
  What tree.Get, tree.noDir, tree.noDirFor and tree.missing answer of any entries; where they rise: what the document says.
-/
import Derived.Test.YthfeoiffoeagkaaGreatDoorZA1
import Derived.Test.YthfeoiffoeagkaaGreatDoorZA2
import Derived.Deep.RegionHeld3
import Derived.Lib.SliceRun
import Derived.Laws.AppendOwnNone
namespace Go.Proofs.YthfeoiffoeagkaaGreatDoor
open Go.RowKit PM Go.Sort
set_option linter.unusedVariables false
theorem Cx (t:List Ent) (q:List UInt8) (i:Nat):(isAt t q i=true∧∃ y,t[i]?=some y∧y.p=q)∨isAt t q i=false:=by
 cases h:isAt t q i with
 | false=>exact .inr rfl
 | true =>
  obtain ⟨h1,h2⟩:=kD.1 h
  exact .inl ⟨rfl,_,List.getElem?_eq_getElem h1,h2⟩
theorem new4 {w W:World} {a b c d:Value} {t:TypeId} {B:Nat} (hB:w.heap.size<B) (h:Below B (w.alloc (.cells #[a,b,c,d] t)) W) :
  (W.cell? ⟨w.heap.size,0,none⟩=some a∧W.cell? ⟨w.heap.size,1,none⟩=some b∧W.cell? ⟨w.heap.size,2,none⟩=some c∧W.cell? ⟨w.heap.size,3,none⟩=some d) ∧
  (W.frozen? ⟨w.heap.size,0,none⟩=false∧W.frozen? ⟨w.heap.size,1,none⟩=false∧W.frozen? ⟨w.heap.size,2,none⟩=false∧W.frozen? ⟨w.heap.size,3,none⟩=false):=by
 have hc:=fun i=>h.cell (p:=⟨w.heap.size,i,none⟩) hB
 have hf:=fun i=>h.frozen (p:=⟨w.heap.size,i,none⟩) hB
 refine ⟨⟨(hc 0).trans ?_,(hc 1).trans ?_,(hc 2).trans ?_,(hc 3).trans ?_⟩,⟨(hf 0).trans ?_,(hf 1).trans ?_,(hf 2).trans ?_,(hf 3).trans ?_⟩⟩ <;> simp
theorem new2 {w W:World} {a b:Value} {t:TypeId} {B:Nat} (hB:w.heap.size<B) (h:Below B (w.alloc (.cells #[a,b] t)) W) :
  (W.cell? ⟨w.heap.size,0,none⟩=some a∧W.cell? ⟨w.heap.size,1,none⟩=some b)∧(W.frozen? ⟨w.heap.size,0,none⟩=false∧W.frozen? ⟨w.heap.size,1,none⟩=false):=by
 have hc:=fun i=>h.cell (p:=⟨w.heap.size,i,none⟩) hB
 have hf:=fun i=>h.frozen (p:=⟨w.heap.size,i,none⟩) hB
 refine ⟨⟨(hc 0).trans ?_,(hc 1).trans ?_⟩,⟨(hf 0).trans ?_,(hf 1).trans ?_⟩⟩ <;> simp
theorem tK (p:ByteArray) (k:Int) (t:ByteArray) (o:Bool) (w:World):Calls Tryz.prog 113 #[.agg #[.string p,.int .i64 k,.string t,.bool o]] w fun r w'=>r=.returned (.bool (k == 2))∧Grown w w':=by
 go_enter Tryz.func113,Tryz.ntmps113
 go_wp2
 go_ret
 exact ⟨rfl,(Grown.refl w).alloc _⟩
theorem rD (e:Ent) (w:World):Calls Tryz.prog 113 #[.agg #[.string e.path, .int .i64 e.kind, .string e.text, .bool e.opq]] w fun r w'=>r=.returned (.bool (e.kind == 2))∧Grown w w':=by
 go_enter Tryz.func113,Tryz.ntmps113
 go_wp2
 go_ret
 exact ⟨rfl,(Grown.refl w).alloc _⟩
def zeroE:Ent:=⟨⟨#[]⟩,0,⟨#[]⟩,false⟩
def Ij (t:List Ent) (q:List UInt8) (w:World) (r:Ending) (w':World):Prop :=
 ∃ (x:Ent) (b:Bool),r=.returned (.tuple #[.agg #[.string x.path, .int .i64 x.kind, .string x.text, .bool x.opq],.bool b])∧(Sorted t→getL t q=if b then some x else none)∧(b=false→x=zeroE)∧(b=true→x=dirE∨x∈t)∧Below w.heap.size w w'
theorem Cm {t:List Ent} {q:List UInt8} {i:Nat} {y:Ent} (hq:q≠[]) (hp:aU t q i) (hy:t[i]?=some y) (hyq:y.p=q):Sorted t→getL t q=if true then some y else none:=fun hs=>by
 have:=dU hs (List.mem_of_getElem? hy) (by rw [hyq];exact hq)
 rw [hyq] at this;simpa using this
theorem tF {t:List Ent} {q:List UInt8} {i:Nat} {y:Ent} (hq:q≠[]) (hp:aU t q i) (hb:isAt t q i=false):Sorted t→getL t q=if false then some y else none:=fun hs=>by
 have:getL t q=none:=bn hq fun e he hep=>by
  have:=(hp.there hs).2 ⟨e,he,hep⟩
  rw [hb] at this;cases this
 simpa using this
theorem tC {w W:World} {b off:Nat} {t:List Ent} {n:Nat} (hn:n=t.length) (hc:∀ j e,t[j]?=some e→∀ i v,(encE e)[i]?=some v→w.cell? ⟨b,off+j*4+i,none⟩=some v) (hb:b<w.heap.size) (hW:Below w.heap.size w W) (q:List UInt8) (i:Nat) :
  (isAt t q i=true∧∃ y,Aside (t[i]?=some y∧y.p=q)∧i<n∧W.cell? ⟨b,off+i*4,none⟩=some (.string y.path)∧W.cell? ⟨b,off+i*4+1,none⟩=some (.int .i64 y.kind)∧W.cell? ⟨b,off+i*4+2,none⟩=some (.string y.text)∧W.cell? ⟨b,off+i*4+3,none⟩=some (.bool y.opq))∨isAt t q i=false:=by
 rcases Cx t q i with ⟨h,y,hy,hyp⟩ | h
 ·exact .inl ⟨h,y,⟨hy,hyp⟩,by rw [hn];exact (List.getElem?_eq_some_iff.1 hy).1,Lies.cells hc hb hW hy⟩
 ·exact .inr h
theorem qw {w W:World} {o:Obj} (hB:Below (w.heap.size+1) (w.alloc o) W) (a b c d:Value) :
  Below w.heap.size w ((((W.setCell ⟨w.heap.size,0,none⟩ a).setCell ⟨w.heap.size,1,none⟩ b).setCell ⟨w.heap.size,2,none⟩ c).setCell ⟨w.heap.size,3,none⟩ d) :=
 (((((Below.refl w.heap.size w).alloc (Nat.le_refl _) _).trans (hB.mono (by simp))).setCell (Nat.le_refl _) _).setCell (Nat.le_refl _) _ |>.setCell (Nat.le_refl _) _ |>.setCell (Nat.le_refl _) _)
set_option maxHeartbeats 1000000 in
theorem lV (t:List Ent) (q:ByteArray) (p:Option Addr) (cap:Nat) (w:World) (hL:Lies w p t) (hF:Fits t) (hn:t.length<4611686018427387904) (hq:q.size≤maxLen) :
  Calls Tryz.prog 27 #[.slice p t.length cap,.string q] w (Ij t q.data.toList w):=by
 by_cases h0:q.data.toList=[]
 ·have h1:=kC h0
  have HG:Aside (getL t q.data.toList=some dirE):=by show _=_;rw [h0,bU]
  clear h0
  go_enter Tryz.func27,Tryz.ntmps27
  go_wp2
  refine bodyPost_ret (v:=.tuple #[.agg #[.string dirE.path, .int .i64 dirE.kind, .string dirE.text, .bool dirE.opq],.bool true]) (by simp [results,Tryz.results27,go_sem,dirE];rfl) rfl ?_
  exact ⟨dirE,true,rfl,fun _=>HG.out,(fun h=>by cases h),fun _=>.inl rfl,(Below.refl _ _).alloc (Nat.le_refl _) _⟩
 ·have h1:=iX h0
  have H0:Aside (q.data.toList≠[]):=h0
  clear h0
  have hs:=fun W (hg:Grown w W)=>uK t q p cap W (hL.grown hg) hF hn hq
  rcases hL with h | ⟨b,off,rfl,hb,hc⟩
  ·have HT:Aside (t=[]):=h
   obtain ⟨n,hnl⟩:∃ n,n=t.length:=⟨_,rfl⟩
   rw [← hnl] at hs ⊢
   clear h
   go_enter Tryz.func27,Tryz.ntmps27
   clear hnl
   go_wp2_with (go_at_call 51;refine (hs _ ((Grown.refl _).alloc _)).mono ?_;rintro e w' ⟨i,rfl,hpl,hg⟩;have hib:isAt t q.data.toList i=false:=(by rw [HT.out];rfl);have HB:Aside (Grown _ w'):=hg;obtain ⟨⟨c0,c1,c2,c3⟩,⟨f0,f1,f2,f3⟩⟩:=new4 (by simp) hg.below;have HP:Aside (aU _ _ _):=hpl;clear hpl hg)
   refine bodyPost_ret (v:=.tuple #[.agg #[.string zeroE.path, .int .i64 zeroE.kind, .string zeroE.text, .bool zeroE.opq],.bool false]) (by simp [results,Tryz.results27,go_sem,zeroE,c0,c1,c2,c3]) rfl ?_
   exact ⟨zeroE,false,rfl,tF H0.out HP.out hib,fun _=>rfl,(fun h=>by cases h),qw (HB.out.below.mono (by simp)) _ _ _ _⟩
  ·have HC:Aside (∀ j e,t[j]?=some e→∀ i v,(encE e)[i]?=some v→w.cell? ⟨b,off+j*4+i,none⟩=some v):=hc
   obtain ⟨n,hnl⟩:∃ n,n=t.length:=⟨_,rfl⟩
   have HN:Aside (n=t.length):=hnl
   rw [← hnl] at hs hn ⊢
   clear hc hnl
   have hne:b≠w.heap.size:=by omega
   go_enter Tryz.func27,Tryz.ntmps27
   go_wp2_with (go_at_call 51;refine (hs _ ((Grown.refl _).alloc _)).mono ?_;rintro e w' ⟨i,rfl,hpl,hg⟩;have HB:Aside (Grown _ w'):=hg;obtain ⟨⟨c0,c1,c2,c3⟩,⟨f0,f1,f2,f3⟩⟩:=new4 (by simp) hg.below;have HP:Aside (aU _ _ _):=hpl;clear hpl hg;rcases tC HN.out HC.out hb (((Grown.refl w).alloc _).trans HB.out).below q.data.toList i with ⟨hib,y,HY,hin,d0,d1,d2,d3⟩ | hib)
   ·refine bodyPost_ret (v:=.tuple #[.agg #[.string y.path, .int .i64 y.kind, .string y.text, .bool y.opq],.bool true]) (by simp [results,Tryz.results27,go_sem,c0,c1,c2,c3]) rfl ?_
    exact ⟨y,true,rfl,Cm H0.out HP.out HY.out.1 HY.out.2,(fun h=>by cases h),fun _=>.inr (List.mem_of_getElem? HY.out.1),qw (HB.out.below.mono (by simp)) _ _ _ _⟩
   ·refine bodyPost_ret (v:=.tuple #[.agg #[.string zeroE.path, .int .i64 zeroE.kind, .string zeroE.text, .bool zeroE.opq],.bool false]) (by simp [results,Tryz.results27,go_sem,zeroE,c0,c1,c2,c3]) rfl ?_
    exact ⟨zeroE,false,rfl,tF H0.out HP.out hib,fun _=>rfl,(fun h=>by cases h),qw (HB.out.below.mono (by simp)) _ _ _ _⟩
def sF (f:Int→Prop) (w:World) (r:Ending) (w':World):Prop:=∃ n:Int,r=.returned (.int .i64 n)∧f n∧Below w.heap.size w w'
theorem xu (t:List Ent) (q:ByteArray) (p:Option Addr) (cap:Nat) (w:World) (hL:Lies w p t) (hF:Fits t) (hn:t.length<4611686018427387904) (hq:q.size≤maxLen) :
  Calls Tryz.prog 163 #[.slice p t.length cap,.string q] w (sF (fun n=>Sorted t→n=aW t q.data.toList) w):=by
 have hs:=lV t q p cap w hL hF hn hq
 go_enter Tryz.func163,Tryz.ntmps163
 go_wp2_with (first
  | (go_at_call 27;refine hs.mono ?_;clear hs;rintro e w1 ⟨x,b,rfl,hg,hz,hx,hB⟩;have HG:Aside (Sorted t→getL t q.data.toList=if b then some x else none):=hg;clear hg hz hx;cases b)
  | (go_at_call 113;refine (rD x _).mono ?_;rintro e w2 ⟨rfl,hG⟩))
 ·go_ret
  exact ⟨6,rfl,(fun h=>by rw [aW,HG.out h];rfl),hB.alloc hB.size _⟩
 ·have hk:(x.kind == 2)=false:=by simpa using (by assumption:(!(x.kind == 2))=true)
  go_ret
  exact ⟨10,rfl,(fun h=>by rw [aW,HG.out h];simp at hk ⊢;simp [hk]),hB.alloc hB.size _ |>.trans (hG.below.mono (by have:=hB.size;simp;omega))⟩
 ·have hk:(x.kind == 2)=true:=by simpa using (by assumption:(!(x.kind == 2))=false)
  go_ret
  exact ⟨0,rfl,(fun h=>by rw [aW,HG.out h];simp at hk ⊢;simp [hk]),hB.alloc hB.size _ |>.trans (hG.below.mono (by have:=hB.size;simp;omega))⟩
theorem nK (t:List Ent) (q:ByteArray) (p:Option Addr) (cap:Nat) (w:World) (hL:Lies w p t) (hF:Fits t) (hn:t.length<4611686018427387904) (hq:q.size≤maxLen) (hq62:q.size<4611686018427387904) :
  Calls Tryz.prog 114 #[.slice p t.length cap,.string q] w (sF (fun n=>Sorted t→n=aW t (aA q.data.toList)) w):=by
 have hcut:=Kj q w hq62
 have hs:=fun W (d:ByteArray) (hd:d.size≤maxLen) (hg:Below w.heap.size w W)=>xu t d p cap W (hL.kept hg) hF hn hd
 go_enter Tryz.func114,Tryz.ntmps114
 go_wp2_with (first
  | (go_at_call 162;refine hcut.mono ?_;clear hcut;rintro e w1 ⟨⟨d,nm,rfl,hd,hnn⟩,m,rfl⟩)
  | (go_at_call 163;refine (hs _ d ?_ ?_).mono ?_))
 ·have:=nE q.data.toList
  have h1:d.size≤q.size:=by rw [← szl d,← szl q,hd];exact this
  exact Nat.le_trans h1 hq
 ·exact below_drewN (Below.refl _ _) _
 ·rintro e w' ⟨r,rfl,h,hB⟩
  go_wp2
  go_ret
  exact ⟨r,rfl,(fun g=>by rw [h g,hd];rfl),Below.onto (below_drewN (Below.refl _ _) _) hB⟩
def kY (t:List Ent) (q:List UInt8):Int:=if ∃ e∈t,e.p=q then 0 else 6
theorem tT (t:List Ent) (q:ByteArray) (p:Option Addr) (cap:Nat) (w:World) (hL:Lies w p t) (hF:Fits t) (hn:t.length<4611686018427387904) (hq:q.size≤maxLen) :
  Calls Tryz.prog 217 #[.slice p t.length cap,.string q] w (sF (fun n=>Sorted t→n=kY t q.data.toList) w):=by
 have hs:=uK t q p cap w hL hF hn hq
 go_enter Tryz.func217,Tryz.ntmps217
 go_wp2_with (go_at_call 51;refine hs.mono ?_;clear hs;rintro e w1 ⟨i,rfl,hp,hB⟩;have HP:Aside (aU _ _ _):=hp;clear hp;cases hib:isAt t q.data.toList i)
 ·go_ret
  exact ⟨6,rfl,(fun h=>by rw [kY,if_neg];intro g;have:=(HP.out.there h).2 g;rw [hib] at this;cases this),hB.below⟩
 ·go_ret
  exact ⟨0,rfl,(fun h=>by rw [kY,if_pos];exact (HP.out.there h).1 hib),hB.below⟩
def iQ (pr:Ent→Bool) (t:List Ent) (w:World) (r:Ending) (w':World):Prop :=
 Grown w w'∧((r=.returned (.int .i64 (-1))∧∀ x∈t,pr x=false)∨∃ (k:Nat) (y:Ent),t[k]?=some y∧r=.returned (.int .i64 k)∧pr y=true∧∀ x∈t.take k,pr x=false)
theorem qG {pr:Ent→Bool} {t:List Ent} {k:Nat} {y:Ent} (hy:t[k]?=some y) (hp:pr y=false) (h:∀ x∈t.take k,pr x=false):∀ x∈t.take (k+1),pr x=false:=by
 obtain ⟨h1,h2⟩:=List.getElem?_eq_some_iff.1 hy
 intro x hx
 rw [List.take_succ_eq_append_getElem h1] at hx
 rcases List.mem_append.1 hx with hx | hx
 ·exact h x hx
 ·simp at hx;rw [hx,h2];exact hp
set_option maxHeartbeats 2000000 in
theorem mO (pr:Ent→Bool) (g:Nat) (lb:Array Value) (eg:∀ args w,(callFunc g args).run Tryz.prog w=.ok (.enter g args) w) (t:List Ent) (p:Option Addr) (cap:Nat) (w:World) (hL:Lies w p t) (hn:t.length<4611686018427387904)
  (hp:∀ W x,Grown w W→x∈t→Calls Tryz.prog g (#[.agg #[.string x.path, .int .i64 x.kind, .string x.text, .bool x.opq]]++lb) W fun e w'=>e=.returned (.bool (pr x))∧Grown W w') :
  Calls Tryz.prog 256 #[.slice p t.length cap,.func (.func g) #[] lb] w (iQ pr t w):=by
 have HP:Aside _:=hp
 have HL:Aside (Lies w p t):=hL
 clear hL hp
 obtain ⟨n,hnl⟩:∃ n,n=t.length:=⟨_,rfl⟩
 have HN:Aside (n=t.length):=hnl
 rw [← hnl] at hn ⊢
 clear hnl
 go_enter Tryz.func256,Tryz.ntmps256
 go_wp2
 go_loopg [5,8] n (fun gg _ s8 wr=>∃ kk:Nat,kk≤n∧n-kk≤gg∧s8=.int .i64 kk∧Aside (Grown w wr)∧Aside (∀ x∈t.take kk,pr x=false))
 case atStart=>exact ⟨0,Nat.zero_le _,by omega,rfl,Grown.refl w,by intro x hx;simp at hx⟩
 case round =>
  obtain ⟨kk,hkk,hg,rfl,BW,A⟩:=hrel
  by_cases hlt:kk<n
  ·have hltz:(kk:Int)<(n:Int):=by omega
   obtain ⟨y,hy⟩:∃ y,t[kk]?=some y:=⟨_,List.getElem?_eq_getElem (by have:=HN.out;omega)⟩
   have Y:Aside (t[kk]?=some y):=hy
   have hcall:=HP.out wr y BW.out (List.mem_of_getElem? hy)
   rcases HL.out with h0 | ⟨b,off,rfl,hb,hc⟩
   ·rw [h0] at hy;simp at hy
   obtain ⟨c0,c1,c2,c3⟩:=Lies.cells hc hb BW.out.below hy
   clear hc hy
   cases hq:pr y with
   | true =>
    rw [hq] at hcall
    go_wp2_with (go_at_fn g;refine hcall.mono ?_;rintro e w' ⟨rfl,hb'⟩)
    go_ret
    exact ⟨BW.out.trans hb',.inr ⟨kk,y,Y.out,rfl,hq,A.out⟩⟩
   | false =>
    rw [hq] at hcall
    go_wp2_with (go_at_fn g;refine hcall.mono ?_;rintro e w' ⟨rfl,hb'⟩)
    go_roundg (n-(kk+1))
    case measure=>omega
    case rel=>exact ⟨kk+1,by omega,by omega,by go_num,BW.out.trans hb',qG Y.out hq A.out⟩
  ·have hltz:¬ (kk:Int)<(n:Int):=by omega
   have:kk=n:=by omega
   subst this
   go_wp2
   go_ret
   refine ⟨BW.out,.inl ⟨rfl,fun x hx=>A.out x ?_⟩⟩
   rw [List.take_of_length_le (by rw [HN.out];exact Nat.le_refl _)];exact hx
theorem qV (pr:Ent→Bool) (g:Nat) (lb:Array Value) (eg:∀ args w,(callFunc g args).run Tryz.prog w=.ok (.enter g args) w) (t:List Ent) (p:Option Addr) (cap:Nat) (w:World) (hL:Lies w p t) (hn:t.length<4611686018427387904)
  (hp:∀ W x,Grown w W→x∈t→Calls Tryz.prog g (#[.agg #[.string x.path, .int .i64 x.kind, .string x.text, .bool x.opq]]++lb) W fun e w'=>e=.returned (.bool (pr x))∧Grown W w') :
  Calls Tryz.prog 236 #[.slice p t.length cap,.func (.func g) #[] lb] w fun e w'=>e=.returned (.bool (t.any pr))∧Grown w w':=by
 have hs:=mO pr g lb eg t p cap w hL hn hp
 clear hp
 go_enter Tryz.func236,Tryz.ntmps236
 go_wp2_with (go_at_call 256;refine hs.mono ?_;clear hs;rintro e w' ⟨hG,⟨rfl,ha⟩ | ⟨k,y,hy,rfl,hpy,ha⟩⟩)
 ·go_ret
  refine ⟨aR ?_,hG⟩
  have:t.any pr=false:=List.any_eq_false.2 fun x hx=>by simp [ha x hx]
  rw [this]
 ·go_ret
  refine ⟨aR ?_,hG⟩
  have:t.any pr=true:=List.any_eq_true.2 ⟨y,List.mem_of_getElem? hy,hpy⟩
  rw [this]
theorem Eu (e:Ent) (q:ByteArray) (B:Nat) (w:World) (he:e.path.size≤maxLen) (hq:q.size≤maxLen) (hB:B<w.heap.size) (hc:w.cell? ⟨B,0,none⟩=some (.string q)) :
  Calls Tryz.prog 254 #[.agg #[.string e.path, .int .i64 e.kind, .string e.text, .bool e.opq],.pointer (some ⟨B,0,none⟩)] w fun r w'=>r=.returned (.bool (under e.p q.data.toList))∧Grown w w':=by
 have hne:B≠w.heap.size:=by omega
 go_enter Tryz.func254,Tryz.ntmps254
 go_wp2_with (go_at_call 186;refine (kR _ _ _ he hq).mono ?_;rintro r w' ⟨rfl,rfl⟩)
 go_ret
 exact ⟨rfl,(Grown.refl w).alloc _⟩
def jS (t:List Ent) (q:List UInt8):Int:=if t.any (fun e=>under e.p q) then 11 else 0
theorem yQ (t:List Ent) (q:ByteArray) (p:Option Addr) (cap:Nat) (w:World) (hL:Lies w p t) (hF:Fits t) (hn:t.length<4611686018427387904) (hq:q.size≤maxLen) :
  Calls Tryz.prog 218 #[.slice p t.length cap,.string q] w fun r w'=>r=.returned (.int .i64 (jS t q.data.toList))∧Below w.heap.size w w':=by
 have eg:∀ args w,(callFunc 254 args).run Tryz.prog w=.ok (.enter 254 args) w:=enters_of Tryz.func254 (by kernel_rfl) rfl
 have hs:=qV (fun e=>under e.p q.data.toList) 254 #[.pointer (some ⟨w.heap.size,0,none⟩)] eg t p cap (w.alloc (.cells #[.string q] 9)) (hL.grown ((Grown.refl w).alloc _)) hn
  (fun W x hG hx=>Eu x q w.heap.size W (hF x hx).1 hq (by have:=hG.size;simp at this;omega) ((hG.cell (p:=⟨w.heap.size,0,none⟩) (by simp)).trans (by simp)))
 clear eg
 have HA:Aside (jS t q.data.toList=if t.any (fun e=>under e.p q.data.toList) then 11 else 0):=rfl
 generalize t.any (fun e=>under e.p q.data.toList)=bb at hs HA
 cases bb
 ·go_enter Tryz.func218,Tryz.ntmps218
  go_wp2_with (go_at_call 236;refine hs.mono ?_;clear hs;rintro e w' ⟨rfl,hG⟩)
  go_ret
  exact ⟨bA (by rw [HA.out];rfl),((Grown.refl w).alloc _ |>.trans hG).below⟩
 ·go_enter Tryz.func218,Tryz.ntmps218
  go_wp2_with (go_at_call 236;refine hs.mono ?_;clear hs;rintro e w' ⟨rfl,hG⟩)
  go_ret
  exact ⟨bA (by rw [HA.out];rfl),((Grown.refl w).alloc _ |>.trans hG).below⟩
def orL:List Int→Int
 | []=>0
 | x::r=>if x=0 then orL r else x
theorem vT (xs:List Int) (B cap:Nat) (w:World) (hn:xs.length≤100) (hc:∀ j x,xs[j]?=some x→w.cell? ⟨B,j,none⟩=some (.int .i64 x)) :
  Calls Tryz.prog 157 #[.slice (some ⟨B,0,none⟩) xs.length cap] w fun e w'=>e=.returned (.int .i64 (orL xs))∧w'=w:=by
 have HC:Aside (∀ j x,xs[j]?=some x→w.cell? ⟨B,j,none⟩=some (.int .i64 x)):=hc
 obtain ⟨n,hnl⟩:∃ n,n=xs.length:=⟨_,rfl⟩
 have HN:Aside (n=xs.length):=hnl
 rw [← hnl] at hn ⊢
 clear hnl hc
 go_enter Tryz.func157,Tryz.ntmps157
 go_wp2
 go_loop [8] (fun i=>∃ k:Nat,k≤n∧i=.int .i64 k∧Aside (orL (xs.drop k)=orL xs)) (fun i=>n-(intOf i).toNat)
 case atStart=>exact ⟨0,Nat.zero_le _,rfl,by show _=_;rfl⟩
 case round =>
  obtain ⟨k,hk,rfl,HA⟩:=hrel
  by_cases hlt:k<n
  ·have hltz:(k:Int)<(n:Int):=by omega
   obtain ⟨y,hy⟩:∃ y,xs[k]?=some y:=⟨_,List.getElem?_eq_getElem (by have:=HN.out;omega)⟩
   have hcell:=HC.out k y hy
   have HD:Aside (orL (xs.drop k)=if y=0 then orL (xs.drop (k+1)) else y):=by
    obtain ⟨h1,h2⟩:=List.getElem?_eq_some_iff.1 hy
    show _=_
    rw [List.drop_eq_getElem_cons h1,orL,h2]
   clear hy
   by_cases h0:y=0
   ·have HE:Aside (orL (xs.drop (k+1))=orL xs):=by show _=_;rw [← HA.out,HD.out,if_pos h0]
    clear HD HA
    go_wp2
    exact ⟨⟨k+1,by omega,by go_num,HE⟩,by simp [intOf];omega⟩
   ·have HE:Aside (orL xs=y):=by show _=_;rw [← HA.out,HD.out,if_neg h0]
    clear HD HA
    go_wp2
    go_ret
    exact ⟨bA HE.out.symm,rfl⟩
  ·have hltz:¬ (k:Int)<(n:Int):=by omega
   have HE:Aside (orL xs=0):=by show _=_;rw [← HA.out,List.drop_of_length_le (by have:=HN.out;omega)];rfl
   clear HA
   go_wp2
   go_ret
   exact ⟨bA HE.out.symm,rfl⟩
theorem up1 {w W W2:World} {o:Obj} (h:Below (w.heap.size+1) (w.alloc o) W) (g:Below W.heap.size W W2):Below (w.heap.size+1) (w.alloc o) W2:=h.trans (g.mono (by have:=h.size;simpa using this))
theorem bF {w W:World} {o:Obj} (h:Below (w.heap.size+1) (w.alloc o) W):Below w.heap.size w W:=((Below.refl _ _).alloc (Nat.le_refl _) _).trans (h.mono (by omega))
def Ways (e:Ent) (layer:Bool):Prop :=
 (aG e layer=1∧(((e.kind == 1)=false∧(e.kind == 2)=false∧(e.kind == 3)=false∧(e.kind == 4)=false∧(layer=true∨layer=false))∨e.kind=4∧layer=false)) ∨
 ((e.kind=1∨e.kind=2∨e.kind=3∨e.kind=4∧layer=true) ∧
   ((aG e layer=7∧clean e.p=false) ∨
    (aG e layer=4∧clean e.p=true∧(100:Int)<(e.text.size:Int)) ∨
    (clean e.p=true∧¬ (100:Int)<(e.text.size:Int) ∧
      ((aG e layer=8∧e.text.toList.isEmpty=false∧(e.kind=2∨e.kind=4)) ∨
       (aG e layer=8∧e.text.toList.isEmpty=true∧e.kind=3) ∨
       ((e.text.toList.isEmpty=false∧(e.kind=1∨e.kind=3)∨e.text.toList.isEmpty=true∧(e.kind=1∨e.kind=2∨e.kind=4)) ∧
         (aG e layer=0∧e.opq=false∨aG e layer=8∧e.opq=true∧layer=false∨aG e layer=8∧e.opq=true∧layer=true∧(e.kind=1∨e.kind=3∨e.kind=4)∨aG e layer=0∧e.opq=true∧layer=true∧e.kind=2))))))
theorem yX (b:ByteArray):b.toList.isEmpty=decide (b.size=0):=by
 rw [Lib.toList_data,Bool.eq_iff_iff]
 rw [← szl b]
 cases b.data.toList <;> simp
theorem ways (e:Ent) (layer:Bool):Ways e layer:=by
 unfold Ways aG
 rw [yX]
 by_cases h1:e.kind=1
 ·cases layer <;> cases clean e.p <;> cases e.opq <;> by_cases h2:100<e.text.size <;> by_cases h3:e.text.size=0 <;> simp [h1,h2,h3] <;> omega
 by_cases h1':e.kind=2
 ·cases layer <;> cases clean e.p <;> cases e.opq <;> by_cases h2:100<e.text.size <;> by_cases h3:e.text.size=0 <;> simp [h1',h2,h3] <;> omega
 by_cases h1'':e.kind=3
 ·cases layer <;> cases clean e.p <;> cases e.opq <;> by_cases h2:100<e.text.size <;> by_cases h3:e.text.size=0 <;> simp [h1'',h2,h3] <;> omega
 by_cases h1''':e.kind=4
 ·cases layer <;> cases clean e.p <;> cases e.opq <;> by_cases h2:100<e.text.size <;> by_cases h3:e.text.size=0 <;> simp [h1''',h2,h3] <;> omega
 ·cases layer <;> simp [h1,h1',h1'',h1''']
theorem Js {b:ByteArray} (h:b.toList.isEmpty=true):b.toList=[]:=by simpa using h
theorem CW {b:ByteArray} (h:b.toList.isEmpty=false):¬ b.toList=[]:=by simpa using h
set_option maxHeartbeats 4000000 in
theorem uX (p:ByteArray) (k:Int) (t:ByteArray) (o:Bool) (layer:Bool) (m:Int) (w:World) (he:p.size≤maxLen) (ht:t.size≤maxLen) (hm:w.cell? ⟨0,0,none⟩=some (.int .i64 m)) :
  Calls Tryz.prog 78 #[.agg #[.string p,.int .i64 k,.string t,.bool o],.bool layer] w fun r w'=>r=.returned (.int .i64 (aG ⟨p,k,t,o⟩ layer))∧Below w.heap.size w w':=by
 have hcl':=fun W (hB:Below w.heap.size w W)=>nX p m W he (held hB hm)
 have hB1:Below (w.heap.size+1) (w.alloc (.cells #[.string p,.int .i64 k,.string t,.bool o] 53)) (w.alloc (.cells #[.string p,.int .i64 k,.string t,.bool o] 53)):=Below.refl _ _
 unfold maxLen at ht
 have hways:=ways ⟨p,k,t,o⟩ layer
 unfold Ways at hways
 generalize aG ⟨p,k,t,o⟩ layer=r at hways ⊢
 simp only [Ent.p] at hways
 generalize clean p.data.toList=cl at hways hcl'
 rcases hways with ⟨hr,⟨k1,k2,k3,k4,hl | hl⟩ | ⟨hk,hl⟩⟩ | ⟨hk | hk | hk | ⟨hk,hl⟩,⟨hr,hc⟩ | ⟨hr,hc,hs⟩ | ⟨hc,hs,⟨hr,h0,hkk⟩ | ⟨hr,h0,hkk⟩ | ⟨⟨h0,hkk⟩ | ⟨h0,hkk⟩,⟨hr,ho⟩ | ⟨hr,ho,hl'⟩ | ⟨hr,ho,hl',hk2⟩ | ⟨hr,ho,hl',hk2⟩⟩⟩⟩
 all_goals try (exfalso;omega)
 all_goals (try subst hk)
 all_goals (try subst hl)
 all_goals try contradiction
 all_goals (try subst hl')
 all_goals (try subst ho)
 all_goals (try subst hc)
 all_goals (try clear hkk)
 all_goals (try clear hk2)
 all_goals try have h0':=Js h0
 all_goals try have h0':=CW h0
 all_goals have HR:Aside (_=_):=hr
 all_goals clear hr
 all_goals
  go_enter Tryz.func78,Tryz.ntmps78
  go_wp2_with (first
   | (go_at_call 113;refine (tK _ _ _ _ _).mono ?_;rintro rr w2 ⟨rfl,hG⟩;replace hB1:=up1 hB1 hG.below;clear hG;obtain ⟨⟨c0,c1,c2,c3⟩,_⟩:=new4 (Nat.lt_succ_self _) hB1)
   | (go_at_call 26;refine (hcl' _ (bF hB1)).mono ?_;rintro rr w3 ⟨rfl,hN⟩;replace hB1:=up1 hB1 hN;clear hN;obtain ⟨⟨c0,c1,c2,c3⟩,_⟩:=new4 (Nat.lt_succ_self _) hB1))
  go_ret
  exact ⟨bA HR.out.symm,bF hB1⟩
theorem pO (e:Ent) (layer:Bool) (m:Int) (w:World) (he:e.path.size≤maxLen) (ht:e.text.size≤maxLen) (hm:w.cell? ⟨0,0,none⟩=some (.int .i64 m)) :
  Calls Tryz.prog 78 #[.agg #[.string e.path, .int .i64 e.kind, .string e.text, .bool e.opq],.bool layer] w fun r w'=>r=.returned (.int .i64 (aG e layer))∧Below w.heap.size w w':=uX e.path e.kind e.text e.opq layer m w he ht hm
theorem ou {t:List Ent} {q:List UInt8} {r:Int} (ha:jk t q=false) (hr:Sorted t→r=aW t (aA q)) (hs:Sorted t):jO t q=if r=0 then 0 else 10:=by
 rw [jO,ha,← hr hs];rfl
set_option maxHeartbeats 1000000 in
theorem wN (t:List Ent) (q:ByteArray) (p:Option Addr) (cap:Nat) (w:World) (hL:Lies w p t) (hF:Fits t) (hn:t.length<4611686018427387904) (hq:q.size≤maxLen) (hq62:q.size<4611686018427387904) :
  Calls Tryz.prog 79 #[.slice p t.length cap,.string q] w (sF (fun n=>Sorted t→n=jO t q.data.toList) w):=by
 have hs:=fun W (hB:Below w.heap.size w W)=>nK t q p cap W (hL.kept hB) hF hn hq hq62
 by_cases h0:t=[]
 ·have HA:Aside (jk t q.data.toList=false):=by show _=_;rw [h0];rfl
  obtain ⟨n,hnl⟩:∃ n,n=t.length:=⟨_,rfl⟩
  have hz:n=0:=by rw [hnl,h0];rfl
  rw [← hnl] at hs ⊢
  clear hnl h0
  subst hz
  go_enter Tryz.func79,Tryz.ntmps79
  go_wp2_with (go_at_call 114;refine (hs _ (Below.refl _ _)).mono ?_;clear hs;rintro e w' ⟨r,rfl,hr,hB⟩;have HR:Aside (Sorted t→r=aW t (aA q.data.toList)):=hr;clear hr;by_cases hr0:r=0)
  ·go_ret
   exact ⟨_,rfl,(fun h=>by rw [ou HA.out HR.out h,if_pos hr0]),hB⟩
  ·go_ret
   exact ⟨_,rfl,(fun h=>by rw [ou HA.out HR.out h,if_neg hr0]),hB⟩
 ·rcases hL with h | ⟨b,off,rfl,hb,hc⟩
  ·exact absurd h h0
  obtain ⟨n,hnl⟩:∃ n,t.length=n+1:=⟨t.length-1,by cases t with | nil=>exact absurd rfl h0 | cons=>simp⟩
  obtain ⟨y,hy⟩:∃ y,t[n]?=some y:=⟨_,List.getElem?_eq_getElem (by omega)⟩
  have HA:Aside (jk t q.data.toList=decide (0≤cmp y.p q.data.toList)):=by
   show _=_
   have:t.getLast?=some y:=by rw [List.getLast?_eq_getElem?,hnl];exact hy
   rw [jk,this]
  have hyp:=(hF.at hy).1
  obtain ⟨c0,_,_,_⟩:=Lies.cells hc hb (Below.refl _ w) hy
  rw [hnl] at hs hn ⊢
  clear hc hy h0 hnl hF
  have hcmp:=oJ y.path q w hyp hq
  rw [show cmp y.path.data.toList q.data.toList=cmp y.p q.data.toList from rfl] at hcmp
  generalize cmp y.p q.data.toList=c at hcmp HA
  have hidx:((n:Int)+1-1)=n:=by omega
  by_cases hge:0≤c
  ·go_enter Tryz.func79,Tryz.ntmps79
   go_wp2_with (go_at_call 83;refine hcmp.mono ?_;clear hcmp;rintro e w' ⟨rfl,k,rfl⟩)
   go_ret
   exact ⟨2,rfl,(fun h=>by rw [jO,HA.out];simp [hge]),below_drewN (Below.refl _ _) _⟩
  ·have hge':decide (0≤c)=false:=by simpa using hge
   have HA':Aside (jk t q.data.toList=false):=by show _=_;rw [HA.out,hge']
   go_enter Tryz.func79,Tryz.ntmps79
   go_wp2_with (first
    | (go_at_call 83;refine hcmp.mono ?_;clear hcmp;rintro e w' ⟨rfl,k,rfl⟩)
    | (go_at_call 114;refine (hs _ (below_drewN (Below.refl _ _) _)).mono ?_;clear hs;rintro e w' ⟨r,rfl,hr,hB⟩;have HR:Aside (Sorted t→r=aW t (aA q.data.toList)):=hr;clear hr;by_cases hr0:r=0))
   ·go_ret
    exact ⟨_,rfl,(fun h=>by rw [ou HA'.out HR.out h,if_pos hr0]),Below.onto (below_drewN (Below.refl _ _) _) hB⟩
   ·go_ret
    exact ⟨_,rfl,(fun h=>by rw [ou HA'.out HR.out h,if_neg hr0]),Below.onto (below_drewN (Below.refl _ _) _) hB⟩
theorem jl {w W:World} {o:Obj} (hB:Below (w.heap.size+1) (w.alloc o) W) (a b:Value):Below w.heap.size w ((W.setCell ⟨w.heap.size,0,none⟩ a).setCell ⟨w.heap.size,1,none⟩ b) :=
 ((bF hB).setCell (Nat.le_refl _) _).setCell (Nat.le_refl _) _
theorem nW {w W:World} {o:Obj} (h:Below (w.alloc o).heap.size (w.alloc o) W):Below w.heap.size w W:=bF (h.mono (by simp))
theorem wV {w W W2:World} {a b c d:Value} {t:TypeId} (h:Below (w.alloc (.cells #[a,b,c,d] t)).heap.size (w.alloc (.cells #[a,b,c,d] t)) W) (g:Below W.drew.heap.size W.drew W2):W2.cell? ⟨w.heap.size,0,none⟩=some a :=
 (new4 (Nat.lt_succ_self _) (up1 (h.drew.mono (by simp)) g)).1.1
theorem lN {layer:Bool} {t:List Ent} {k:Nat} {y:Ent} (hy:t[k]?=some y):dP layer (t.take k) (t.drop k)=if jv layer (t.take k) y=0 then dP layer (t.take (k+1)) (t.drop (k+1)) else (jv layer (t.take k) y,k):=by
 obtain ⟨h1,h2⟩:=List.getElem?_eq_some_iff.1 hy
 rw [List.drop_eq_getElem_cons h1,dP,h2,List.take_succ_eq_append_getElem h1,h2,List.length_take,Nat.min_eq_left (by omega)]
theorem good_step {layer:Bool} {t:List Ent} {k:Nat} {y:Ent} (hy:t[k]?=some y) (hg:PM.Good layer (t.take k)) (h:jv layer (t.take k) y=0):PM.Good layer (t.take (k+1)):=by
 obtain ⟨h1,h2⟩:=List.getElem?_eq_some_iff.1 hy
 rw [List.take_succ_eq_append_getElem h1,h2];exact hg.snoc h
theorem bL {p:ByteArray} (h:clean p.data.toList=true):p.size≤80:=by
 have:=((nY _).1 h).1;rwa [szl] at this
set_option maxHeartbeats 4000000 in
theorem pq (t:List Ent) (layer:Bool) (m:Int) (p:Option Addr) (cap:Nat) (w:World) (hL:Lies w p t) (hF:Fits t) (hn:t.length<4611686018427387904) (hcap:t.length≤cap) (hm:w.cell? ⟨0,0,none⟩=some (.int .i64 m)) :
  Calls Tryz.prog 49 #[.slice p t.length cap,.bool layer] w fun r w'=>r=.returned (.agg #[.int .i64 (aD layer t).1,.int .i64 ((aD layer t).2:Nat)])∧Below w.heap.size w w':=by
 have HF:Aside (Fits t):=hF
 have HL:Aside (Lies w p t):=hL
 clear hF hL
 obtain ⟨n,hnl⟩:∃ n,n=t.length:=⟨_,rfl⟩
 have HN:Aside (n=t.length):=hnl
 rw [← hnl] at hn hcap ⊢
 by_cases h80:80<n
 ·have g:(80:Int)<(n:Int):=by omega
  have HR:Aside (aD layer t=(5,0)):=by show _=_;rw [aD,if_pos (by omega)]
  clear hnl
  go_enter Tryz.func49,Tryz.ntmps49
  go_wp2
  refine bodyPost_ret (v:=.agg #[.int .i64 5,.int .i64 0]) (by simp [results,Tryz.results49,go_sem]) rfl ?_
  exact ⟨by rw [HR.out];rfl,(Below.refl _ _).alloc (Nat.le_refl _) _⟩
 ·have g:¬ (80:Int)<(n:Int):=by omega
  have HR:Aside (aD layer t=dP layer [] t):=by show _=_;rw [aD,if_neg (by omega)]
  clear hnl
  go_enter Tryz.func49,Tryz.ntmps49
  go_wp2
  go_loopg [14] n (fun gg s14 wr=>∃ k:Nat,k≤n∧n-k≤gg∧s14=.int .i64 k∧Aside (Below (w.heap.size+1) (w.alloc (.cells #[.int .i64 0,.int .i64 0] 46)) wr)∧Aside (PM.Good layer (t.take k))∧Aside (dP layer (t.take k) (t.drop k)=aD layer t))
  case atStart=>exact ⟨0,Nat.zero_le _,by omega,rfl,Below.refl _ _,yS _,HR.out.symm⟩
  case round =>
   obtain ⟨k,hk,hg,rfl,BW,HG,HE⟩:=hrel
   by_cases hlt:k<n
   ·have hltz:(k:Int)<(n:Int):=by omega
    obtain ⟨y,hy⟩:∃ y,t[k]?=some y:=⟨_,List.getElem?_eq_getElem (by have:=HN.out;omega)⟩
    have HY:Aside (t[k]?=some y):=hy
    have hf:=HF.out.at hy
    have hBw:=bF BW.out
    rcases HL.out with h0 | ⟨b,off,rfl,hb,hc⟩
    ·rw [h0] at hy;simp at hy
    obtain ⟨c0,c1,c2,c3⟩:=Lies.cells hc hb hBw hy
    have HC:Aside (∀ j e,t[j]?=some e→∀ i v,(encE e)[i]?=some v→w.cell? ⟨b,off+j*4+i,none⟩=some v):=hc
    have hb':b<wr.heap.size:=Nat.lt_of_lt_of_le hb hBw.size
    have hne:b≠wr.heap.size:=by omega
    clear hc hy
    have hwe:=fun W (hB:Below wr.heap.size wr W)=>pO y layer m W hf.1 hf.2 (held (Below.onto hBw hB) hm)
    have HFE:Aside (jv layer (t.take k) y=if aG y layer=0 then jO (t.take k) y.p else aG y layer):=rfl
    have HW:Aside (aG y layer=0→y.path.size≤80):=fun h=>bL (bq h)
    generalize aG y layer=r1 at hwe HFE HW
    by_cases hr1:r1=0
    ·have hy80:=HW.out hr1
     have hwp:∀ W,Below w.heap.size w W→Calls Tryz.prog 79 #[.slice (some ⟨b,off,none⟩) k cap,.string y.path] W (fun r w'=>r=.returned (.int .i64 (jO (t.take k) y.p))∧Below W.heap.size W w'):=fun W hB=>by
      have h:=wN (t.take k) y.path (some ⟨b,off,none⟩) cap W (Lies.take (Lies.kept (Or.inr ⟨b,off,rfl,hb,HC.out⟩) hB) k) (fun e he=>HF.out e (List.mem_of_mem_take he)) (by rw [List.length_take];have:=HN.out;omega) hf.1 (by omega)
      rw [List.length_take,Nat.min_eq_left (by have:=HN.out;omega)] at h
      refine h.mono ?_
      rintro r w' ⟨x,rfl,hx,hB'⟩
      exact ⟨bA (hx HG.out.sorted),hB'⟩
     have HFE':Aside (jv layer (t.take k) y=jO (t.take k) y.p):=by show _=_;rw [HFE.out,if_pos hr1]
     subst hr1
     generalize jO (t.take k) y.p=r2 at hwp HFE'
     have hkc:k≤cap:=by omega
     have hkc':(k:Int)≤(cap:Int):=by omega
     clear HFE HW
     by_cases hr2:r2=0
     ·subst hr2
      go_wp2_with (go_at_call 78;refine (hwe _ ((Below.refl _ _).alloc (Nat.le_refl _) _)).mono ?_;clear hwe;rintro rr w1 ⟨rfl,hB1⟩;obtain ⟨⟨d0,d1,d2,d3⟩,_⟩:=new4 (by simp) hB1;have hX:=nW hB1)
      go_region_held3 (fun w'=>w'.cell? ⟨wr.heap.size,0,none⟩=some (.string y.path)) (go_keep) (first | (go_at_call 79;refine (hwp _ (Below.drew (Below.onto hBw hX))).mono ?_;rintro rr w2 ⟨rfl,hB2⟩;have hY:=Below.onto hX.drew hB2;have e0:=wV hB1 hB2))
      go_wp2
      go_roundg (n-(k+1))
      case measure=>omega
      case rel=>exact ⟨k+1,by omega,by omega,by go_num,up1 BW.out hY,good_step HY.out HG.out HFE'.out,by have:=HE.out;rw [lN HY.out,if_pos HFE'.out] at this;exact this⟩
     ·go_wp2_with (go_at_call 78;refine (hwe _ ((Below.refl _ _).alloc (Nat.le_refl _) _)).mono ?_;clear hwe;rintro rr w1 ⟨rfl,hB1⟩;obtain ⟨⟨d0,d1,d2,d3⟩,_⟩:=new4 (by simp) hB1;have hX:=nW hB1)
      go_region_held3 (fun w'=>w'.cell? ⟨wr.heap.size,0,none⟩=some (.string y.path)) (go_keep) (first | (go_at_call 79;refine (hwp _ (Below.drew (Below.onto hBw hX))).mono ?_;rintro rr w2 ⟨rfl,hB2⟩;have hY:=Below.onto hX.drew hB2;have e0:=wV hB1 hB2))
      obtain ⟨⟨r0,r1⟩,⟨f0,f1⟩⟩:=new2 (Nat.lt_succ_self _) (up1 BW.out hY)
      have HO:Aside (Below (w.heap.size+1) (w.alloc (.cells #[.int .i64 0,.int .i64 0] 46)) w2):=up1 BW.out hY
      go_wp2
      refine bodyPost_ret (v:=.agg #[.int .i64 r2,.int .i64 k]) (by simp [results,Tryz.results49,go_sem,r0,r1]) rfl ?_
      exact ⟨by rw [← HE.out,lN HY.out,if_neg (by rw [HFE'.out];exact hr2),HFE'.out],jl HO.out _ _⟩
    ·have HFE':Aside (jv layer (t.take k) y=r1):=by show _=_;rw [HFE.out,if_neg hr1]
     clear HFE HW
     go_wp2_with (go_at_call 78;refine (hwe _ ((Below.refl _ _).alloc (Nat.le_refl _) _)).mono ?_;clear hwe;rintro rr w1 ⟨rfl,hB1⟩;obtain ⟨⟨r0,r1'⟩,⟨f0,f1⟩⟩:=new2 (Nat.lt_succ_self _) (up1 BW.out (nW hB1));have HO:Aside (Below (w.heap.size+1) (w.alloc (.cells #[.int .i64 0,.int .i64 0] 46)) w1):=up1 BW.out (nW hB1))
     refine bodyPost_ret (v:=.agg #[.int .i64 r1,.int .i64 k]) (by simp [results,Tryz.results49,go_sem,r0,r1']) rfl ?_
     exact ⟨by rw [← HE.out,lN HY.out,if_neg (by rw [HFE'.out];exact hr1),HFE'.out],jl HO.out _ _⟩
   ·have hltz:¬ (k:Int)<(n:Int):=by omega
    have HZ:Aside (aD layer t=(0,0)):=by
     have:=HE.out
     rw [List.drop_of_length_le (by have:=HN.out;omega),dP] at this;exact this.symm
    obtain ⟨⟨r0,r1⟩,⟨f0,f1⟩⟩:=new2 (Nat.lt_succ_self _) BW.out
    go_wp2
    refine bodyPost_ret (v:=.agg #[.int .i64 0,.int .i64 0]) (by simp [results,Tryz.results49,go_sem,r0,r1]) rfl ?_
    exact ⟨by rw [HZ.out];rfl,jl BW.out _ _⟩
theorem iZ (t:List Ent) (m:Int) (p:Option Addr) (cap:Nat) (w:World) (hL:Lies w p t) (hF:Fits t) (hn:t.length<4611686018427387904) (hcap:t.length≤cap) (hm:w.cell? ⟨0,0,none⟩=some (.int .i64 m)) :
  Calls Tryz.prog 24 #[.slice p t.length cap] w fun r w'=>r=.returned (.agg #[.int .i64 (aD false t).1,.int .i64 ((aD false t).2:Nat)])∧Below w.heap.size w w':=by
 have hs:=fun W (hB:Below w.heap.size w W)=>pq t false m p cap W (hL.kept hB) hF hn hcap (held hB hm)
 generalize (aD false t).1=a at hs ⊢
 generalize ((aD false t).2:Int)=b at hs ⊢
 go_enter Tryz.func24,Tryz.ntmps24
 go_wp2_with (go_at_call 49;refine (hs _ ((Below.refl _ _).alloc (Nat.le_refl _) _)).mono ?_;clear hs;rintro rr w1 ⟨rfl,hB1⟩;obtain ⟨⟨r0,r1⟩,⟨f0,f1⟩⟩:=new2 (by simp) hB1)
 refine bodyPost_ret (v:=.agg #[.int .i64 a,.int .i64 b]) (by simp [results,Tryz.results24,go_sem,r0,r1]) rfl ?_
 exact ⟨rfl,jl (hB1.mono (by simp)) _ _⟩
def Own (w:World) (g cap:Nat) (l:List Ent):Prop :=
 ∃ cur:Array Value,w.heap[g]?=some (.cells cur 53 (0,0))∧cur.size=cap*4∧l.length≤cap∧cap≤maxLen∧∀ j e,l[j]?=some e→∀ i v,(encE e)[i]?=some v→cur[j*4+i]?=some v
theorem eP (e:Ent):(encE e).length=4:=rfl
theorem lM {e:Ent} {i:Nat} {v:Value} (h:(encE e)[i]?=some v):i<4:=by
 have:=(List.getElem?_eq_some_iff.1 h).1;rwa [eP] at this
theorem dH (ns:List Ent):(ns.flatMap encE).length=ns.length*4:=by
 induction ns with
 | nil=>rfl
 | cons x r ih=>rw [List.flatMap_cons,List.length_append,ih,eP];simp;omega
section
variable {w w' W:World} {g cap:Nat} {l:List Ent}
theorem Own.lt (h:Own w g cap l):g<w.heap.size:=by
 obtain ⟨cur,hc,_⟩:=h
 exact (Array.getElem?_eq_some_iff.1 hc).1
theorem Own.len (h:Own w g cap l):l.length≤cap:=by obtain ⟨_,_,_,h,_⟩:=h;exact h
theorem Own.max (h:Own w g cap l):cap≤maxLen:=by obtain ⟨_,_,_,_,h,_⟩:=h;exact h
theorem Own.frozen (h:Own w g cap l) (o:Nat):w.frozen? ⟨g,o,none⟩=false:=by
 obtain ⟨cur,hc,_⟩:=h
 simp [World.frozen?,hc]
theorem Own.there (h:Own w g cap l) {o:Nat} (ho:o<cap*4):(w.cell? ⟨g,o,none⟩).isSome=true:=by
 obtain ⟨cur,hc,hs,_⟩:=h
 simp [World.cell?,hc,hs,ho]
theorem Own.cell (h:Own w g cap l) {j:Nat} {e:Ent} (he:l[j]?=.some e) {i:Nat} {v:Value} (hv:(encE e)[i]?=.some v):w.cell? ⟨g,j*4+i,none⟩=.some v:=by
 obtain ⟨cur,hc,_,_,_,h⟩:=h
 simp [World.cell?,hc,h j e he i v hv]
theorem Own.cells (h:Own w g cap l) {j:Nat} {e:Ent} (he:l[j]?=.some e) :
  (w.cell? ⟨g,j*4,none⟩=.some (.string e.path)∧w.cell? ⟨g,j*4+1,none⟩=.some (.int .i64 e.kind)∧w.cell? ⟨g,j*4+2,none⟩=.some (.string e.text)∧w.cell? ⟨g,j*4+3,none⟩=.some (.bool e.opq)) ∧
  (w.frozen? ⟨g,j*4,none⟩=false∧w.frozen? ⟨g,j*4+1,none⟩=false∧w.frozen? ⟨g,j*4+2,none⟩=false∧w.frozen? ⟨g,j*4+3,none⟩=false) :=
 ⟨⟨h.cell he (i:=0) rfl,h.cell he (i:=1) rfl,h.cell he (i:=2) rfl,h.cell he (i:=3) rfl⟩,h.frozen _,h.frozen _,h.frozen _,h.frozen _⟩
theorem Own.lies (h:Own w g cap l):Lies w (.some ⟨g,0,none⟩) l :=
 .inr ⟨g,0,rfl,h.lt,fun j e he i v hv=>by rw [Nat.zero_add];exact h.cell he hv⟩
theorem Own.kept (h:Own w g cap l) (hk:w'.heap[g]?=w.heap[g]?):Own w' g cap l:=by
 obtain ⟨cur,hc,h⟩:=h
 exact ⟨cur,hk.trans hc,h⟩
theorem Own.below (h:Own w g cap l) {B:Nat} (hB:Below B w w') (hg:g<B):Own w' g cap l:=h.kept (hB.block g hg)
theorem Own.grown (h:Own w g cap l) (hB:Grown w w'):Own w' g cap l:=h.below hB.below h.lt
theorem Own.take (h:Own w g cap l) (k:Nat):Own w g cap (l.take k):=by
 obtain ⟨cur,hc,hs,hl,hm,h⟩:=h
 refine ⟨cur,hc,hs,by rw [List.length_take];omega,hm,fun j e he=>h j e ?_⟩
 rw [List.getElem?_take] at he
 split at he
 ·exact he
 ·cases he
theorem heap_set {cur:Array Value} {t:TypeId} {f:Nat × Nat} (h:w.heap[g]?=.some (.cells cur t f)) (o:Nat) (v:Value):(w.setCell ⟨g,o,none⟩ v).heap[g]?=.some (.cells (cur.setIfInBounds o v) t f):=by
 simp [World.setCell,Array.getElem?_modify,h]
theorem Own.setCells {vs:List Value} {o:Nat} (h:Own w g cap l):∃ cur cur':Array Value,w.heap[g]?=.some (.cells cur 53 (0,0))∧(w.setCells g o vs).heap[g]?=.some (.cells cur' 53 (0,0))∧cur'.size=cur.size∧(∀ x,x<o∨o+vs.length≤x→cur'[x]?=cur[x]?)∧(∀ j v,vs[j]?=.some v→o+j<cur.size→cur'[o+j]?=.some v):=by
 obtain ⟨cur,hc,_⟩:=h
 refine ⟨cur,?_⟩
 have key:∀ (vs:List Value) (o:Nat) (w:World) (cur:Array Value),w.heap[g]?=.some (.cells cur 53 (0,0))→∃ cur':Array Value,(w.setCells g o vs).heap[g]?=.some (.cells cur' 53 (0,0))∧cur'.size=cur.size∧(∀ x,x<o∨o+vs.length≤x→cur'[x]?=cur[x]?)∧(∀ j v,vs[j]?=.some v→o+j<cur.size→cur'[o+j]?=.some v):=by
  intro vs
  induction vs with
  | nil=>intro o w cur hc;exact ⟨cur,hc,rfl,fun _ _=>rfl,fun j v hj=>by simp at hj⟩
  | cons v r ih =>
   intro o w cur hc
   obtain ⟨cur',h1,h2,h3,h4⟩:=ih (o+1) (w.setCell ⟨g,o,none⟩ v) _ (heap_set hc o v)
   refine ⟨cur',h1,by rw [h2];simp,fun x hx=>?_,fun j u hj hlt=>?_⟩
   ·rw [h3 x (by simp at hx;omega),Array.getElem?_setIfInBounds,if_neg (by simp at hx;omega)]
   ·cases j with
    | zero =>
     simp at hj;subst hj
     rw [Nat.add_zero,h3 o (by omega),Array.getElem?_setIfInBounds,if_pos rfl,if_pos (by omega)]
    | succ j=>rw [show o+(j+1)=o+1+j by omega];exact h4 j u (by simpa using hj) (by simp;omega)
 obtain ⟨cur',h1,h2,h3,h4⟩:=key vs o w cur hc
 exact ⟨cur',hc,h1,h2,h3,h4⟩
theorem Own.beyond {vs:List Value} {o:Nat} (h:Own w g cap l) (ho:l.length*4≤o):Own (w.setCells g o vs) g cap l:=by
 obtain ⟨cur,cur',h0,h1,h2,h3,_⟩:=h.setCells (vs:=vs) (o:=o)
 obtain ⟨c,hc,hs,hl,hm,hh⟩:=h
 obtain rfl:c=cur:=by have:=hc.symm.trans h0;simpa using this
 refine ⟨cur',h1,by rw [h2,hs],hl,hm,fun j e he i v hv=>?_⟩
 have hj:=(List.getElem?_eq_some_iff.1 he).1
 have hi:=lM hv
 rw [h3 _ (by omega)];exact hh j e he i v hv
theorem Own.over {ns:List Ent} {j:Nat} (h:Own w g cap l) (hj:j≤l.length) (hc:j+ns.length≤cap):Own (w.setCells g (j*4) (ns.flatMap encE)) g cap (l.take j++ns++l.drop (j+ns.length)):=by
 obtain ⟨cur,cur',h0,h1,h2,h3,h4⟩:=h.setCells (vs:=ns.flatMap encE) (o:=j*4)
 obtain ⟨c,hc0,hs,hl,hm,hh⟩:=h
 obtain rfl:c=cur:=by have:=hc0.symm.trans h0;simpa using this
 have hfl:=dH ns
 refine ⟨cur',h1,by rw [h2,hs],by simp;omega,hm,fun k e he i v hv=>?_⟩
 have hi:=lM hv
 by_cases c1:k<j
 ·rw [List.append_assoc,List.getElem?_append_left (by rw [List.length_take];omega),List.getElem?_take,if_pos c1] at he
  rw [h3 _ (by omega)];exact hh k e he i v hv
 ·by_cases c2:k<j+ns.length
  ·rw [List.append_assoc,List.getElem?_append_right (by rw [List.length_take];omega),List.length_take,Nat.min_eq_left hj,List.getElem?_append_left (by omega)] at he
   rw [show k*4+i=j*4+((k-j)*4+i) by omega]
   refine h4 _ v ?_ (by rw [hs];omega)
   have key:∀ (ns:List Ent) (q:Nat),ns[q]?=.some e→(ns.flatMap encE)[q*4+i]?=.some v:=by
    intro ns
    induction ns with
    | nil=>intro q hq;simp at hq
    | cons x r ih =>
     intro q hq
     rw [List.flatMap_cons]
     cases q with
     | zero=>simp at hq;subst hq;rw [List.getElem?_append_left (by rw [eP];omega)];simpa using hv
     | succ q =>
      rw [List.getElem?_append_right (by rw [eP];omega),eP,show (q+1)*4+i-4=q*4+i by omega]
      exact ih q (by simpa using hq)
   exact key ns _ he
  ·rw [List.getElem?_append_right (by rw [List.length_append,List.length_take];omega),List.length_append,List.length_take,Nat.min_eq_left hj,List.getElem?_drop,show j+ns.length+(k-(j+ns.length))=k by omega] at he
   rw [h3 _ (by rw [hfl];omega)];exact hh k e he i v hv
theorem zD (l:List Ent) (j:Nat) (e:Ent) (hj:j<l.length):l.take j++[e]++l.drop (j+1)=l.set j e:=by
 apply List.ext_getElem?
 intro k
 rw [List.getElem?_set]
 by_cases c1:k<j
 ·rw [List.append_assoc,List.getElem?_append_left (by rw [List.length_take];omega),List.getElem?_take,if_pos c1,if_neg (by omega)]
 ·by_cases c2:k=j
  ·subst c2
   rw [List.append_assoc,List.getElem?_append_right (by rw [List.length_take];omega),List.length_take,Nat.min_eq_left (by omega)]
   simp [hj]
  ·rw [List.getElem?_append_right (by simp;omega),if_neg (by omega)]
   simp only [List.length_append,List.length_take,Nat.min_eq_left (Nat.le_of_lt hj),List.length_singleton,List.getElem?_drop]
   congr 1;omega
theorem Own.set (h:Own w g cap l) {j:Nat} (hj:j<l.length) (e:Ent):Own ((((w.setCell ⟨g,j*4,none⟩ (.string e.path)).setCell ⟨g,j*4+1,none⟩ (.int .i64 e.kind)).setCell ⟨g,j*4+2,none⟩ (.string e.text)).setCell ⟨g,j*4+3,none⟩ (.bool e.opq)) g cap (l.set j e):=by
 have:=h.over (ns:=[e]) (j:=j) (by omega) (by have:=h.len;simp;omega)
 rw [List.length_singleton,zD l j e hj] at this
 exact this
/-! what else has turned -/
theorem fG (w:World) (r:Option Nat):w.grownBy w r:=⟨rfl,rfl,rfl,Nat.le_refl _,fun _ _ _=>rfl⟩
theorem bf (h:w.grownBy W (.some g)) (hB:Below W.heap.size W w'):w.grownBy w' (.some g) :=
 ⟨hB.os.trans h.os,hB.tape.trans h.tape,hB.output.trans h.output,Nat.le_trans h.size hB.size,fun k hk hn=>(hB.block k (Nat.lt_of_lt_of_le hk h.size)).trans (h.block k hk hn)⟩
theorem eu (h:w.grownBy W (.some g)) (hB:Grown W w'):w.grownBy w' (.some g):=bf h hB.below
theorem jK (h:w.grownBy W (.some g)) (o:Obj):w.grownBy (W.alloc o) (.some g):=eu h ((Grown.refl W).alloc o)
theorem aY (h:w.grownBy W (.some g)) (o:Nat) (v:Value):w.grownBy (W.setCell ⟨g,o,none⟩ v) (.some g) :=
 ⟨h.os,h.tape,h.output,by simp [World.setCell];exact h.size,fun k hk hn=>(Below.heap_setCell _ _ _ _ (by intro e;exact hn (by rw [e]))).trans (h.block k hk hn)⟩
theorem fK:∀ (vs:List Value) (o:Nat) (W:World),w.grownBy W (.some g)→w.grownBy (W.setCells g o vs) (.some g)
 | [],_,_,h=>h
 | v::r,o,W,h=>fK r (o+1) _ (aY h o v)
theorem gN (h:w.grownBy W (.some g)) {a:Addr} (ha:a.block<w.heap.size) (hn:a.block≠g):W.cell? a=w.cell? a:=World.cell?_of_block (w:=w) (h.block _ ha (by simpa using hn))
theorem om {W2:World} (h:w.grownBy W (.some g)) (k:W.grownBy W2 (.some g)):w.grownBy W2 (.some g) :=
 ⟨k.os.trans h.os,k.tape.trans h.tape,k.output.trans h.output,Nat.le_trans h.size k.size,fun i hi hn=>(k.block i (Nat.lt_of_lt_of_le hi h.size) hn).trans (h.block i hi hn)⟩
end
end Go.Proofs.YthfeoiffoeagkaaGreatDoor
