/-
  What lock.clash, lock.rise, lock.Meets, lock.wrongBehind and lock.Wrong answer.
-/
import Derived.Test.YthfeoiffoeagkaaGreatDoorZA18
namespace Go.Proofs.YthfeoiffoeagkaaGreatDoor.LK
open Go.RowKit Go.Sort KM
set_option linter.unusedVariables false
theorem DX (x y:Lk) (w:World):Calls Tryz.prog 55 #[.agg #[.int .i64 x.o, .int .i64 x.f, .int .i64 x.t, .bool x.a],.agg #[.int .i64 y.o, .int .i64 y.f, .int .i64 y.t, .bool y.a]] w fun r w'=>r=.returned (.bool (clash x y))∧Grown w w':=by
 obtain ⟨xo,xf,xt,xa⟩:=x
 obtain ⟨yo,yf,yt,ya⟩:=y
 simp only
 by_cases h1:xo=yo
 ·go_enter Tryz.func55,Tryz.ntmps55
  go_wp2
  go_ret
  exact ⟨aR (by simp [KM.clash, *] <;> omega),((Grown.refl w).alloc _).alloc _⟩
 ·have h1':(xo != yo)=true:=bne_iff_ne.2 h1
  cases xa <;> cases ya <;> by_cases h3:xf<yt <;>
  (go_enter Tryz.func55,Tryz.ntmps55
   go_wp2
   go_ret
   exact ⟨aR (by simp [KM.clash, *] <;> omega),((Grown.refl w).alloc _).alloc _⟩)
theorem zA (y x:Lk) (w:World):Calls Tryz.prog 84 #[.agg #[.int .i64 y.o, .int .i64 y.f, .int .i64 y.t, .bool y.a],.agg #[.int .i64 x.o, .int .i64 x.f, .int .i64 x.t, .bool x.a]] w fun r w'=>r=.returned (.bool (rise y x))∧Grown w w':=by
 obtain ⟨xo,xf,xt,xa⟩:=x
 obtain ⟨yo,yf,yt,ya⟩:=y
 simp only
 by_cases h1:yo=xo
 ·by_cases h2:yt<xf
  ·go_enter Tryz.func84,Tryz.ntmps84
   go_wp2
   go_ret
   exact ⟨aR (by simp [KM.rise, *]),((Grown.refl w).alloc _).alloc _⟩
  ·by_cases h3:yt=xf
   ·cases xa <;> cases ya <;>
    (go_enter Tryz.func84,Tryz.ntmps84
     go_wp2
     go_ret
     exact ⟨aR (by simp [KM.rise]),((Grown.refl w).alloc _).alloc _⟩)
   ·have h3':(yt == xf)=false:=beq_eq_false_iff_ne.2 h3
    go_enter Tryz.func84,Tryz.ntmps84
    go_wp2
    go_ret
    exact ⟨aR (by simp [KM.rise, *]),((Grown.refl w).alloc _).alloc _⟩
 ·go_enter Tryz.func84,Tryz.ntmps84
  go_wp2
  go_ret
  exact ⟨aR (by simp [KM.rise, *]),((Grown.refl w).alloc _).alloc _⟩
theorem CO (y x:Lk) (B:Nat) (w:World) (hB:B<w.heap.size) (hc:∀ i v,(encK x)[i]?=some v→w.cell? ⟨B,i,none⟩=some v) :
  Calls Tryz.prog 54 #[.agg #[.int .i64 y.o, .int .i64 y.f, .int .i64 y.t, .bool y.a],.pointer (some ⟨B,0,none⟩)] w fun r w'=>r=.returned (.bool (clash x y))∧Grown w w':=by
 have c0:=hc 0 _ rfl
 have c1:=hc 1 _ rfl
 have c2:=hc 2 _ rfl
 have c3:=hc 3 _ rfl
 clear hc
 have hne:B≠w.heap.size:=by omega
 go_enter Tryz.func54,Tryz.ntmps54
 go_wp2_with (go_at_call 55;refine (DX x y _).mono ?_;rintro r w' ⟨rfl,hG⟩)
 go_ret
 exact ⟨rfl,((Grown.refl w).alloc _).trans hG⟩
def yc:Lk:=⟨0,0,0,false⟩
def uY (l:List Lk) (x y:Lk) (b:Bool):Prop:=(b=false∧y=yc∧l.any (clash x)=false)∨(b=true∧l.find? (clash x)=some y)
theorem uY.any {l:List Lk} {x y:Lk} {b:Bool} (h:uY l x y b):l.any (clash x)=b:=by
 rcases h with ⟨rfl,_,h⟩ | ⟨rfl,h⟩
 ·exact h
 ·exact List.any_eq_true.2 ⟨y,List.mem_of_find?_eq_some h,List.find?_some h⟩
theorem wD {l:List Lk} {pr:Lk→Bool} {k:Nat} {y:Lk} (hy:l[k]?=some y) (hp:pr y=true) (ha:∀ x∈l.take k,pr x=false):l.find? pr=some y:=by
 obtain ⟨h1,h2⟩:=List.getElem?_eq_some_iff.1 hy
 have e:l=l.take k++y::l.drop (k+1):=by
  rw [← h2,← List.drop_eq_getElem_cons h1,List.take_append_drop]
 rw [e,List.find?_append,List.find?_eq_none.2 (fun x hx=>by simp [ha x hx])]
 simp [hp]
theorem Ig {X W:World} {H:Nat} {a b c d:Value} {t:TypeId} (hH:H=X.heap.size) (h:Below (H+1) (X.alloc (.cells #[a,b,c,d] t)) W) :
  (W.cell? ⟨H,0,none⟩=some a∧W.cell? ⟨H,1,none⟩=some b∧W.cell? ⟨H,2,none⟩=some c∧W.cell? ⟨H,3,none⟩=some d) ∧
  (W.frozen? ⟨H,0,none⟩=false∧W.frozen? ⟨H,1,none⟩=false∧W.frozen? ⟨H,2,none⟩=false∧W.frozen? ⟨H,3,none⟩=false):=by
 subst hH
 exact new4 (Nat.lt_succ_self _) h
theorem zL {w W:World} {n H:Nat} (h:Below n w W) (hH:n≤H) (a b c d:Value):Below n w ((((W.setCell ⟨H,0,none⟩ a).setCell ⟨H,1,none⟩ b).setCell ⟨H,2,none⟩ c).setCell ⟨H,3,none⟩ d) :=
 (((h.setCell hH _).setCell hH _).setCell hH _).setCell hH _
theorem lG {w W:World} {n H:Nat} (h:Below n w W) (hH:n≤H) (a b:Value):Below n w ((W.setCell ⟨H,0,none⟩ a).setCell ⟨H,1,none⟩ b) :=
 (h.setCell hH _).setCell hH _
def DN (l:List Lk) (x:Lk) (w:World) (e:Ending) (w':World):Prop :=
 ∃ y b,e=.returned (.tuple #[.agg #[.int .i64 y.o, .int .i64 y.f, .int .i64 y.t, .bool y.a],.bool b])∧uY l x y b∧Below w.heap.size w w'
theorem Ev {pr:Lk→Bool} {l:List Lk} {p:Option Addr} {n:Nat} {w w0 w1:World} {r:Ending} (hn:n=l.length) (hL:Lies w p l) (hG0:Grown w w0) (h:iQ pr l w0 r w1) :
  Aside (Grown w w1)∧((r=.returned (.int .i64 (-1))∧Aside (∀ x∈l,pr x=false))∨∃ (k:Nat) (y:Lk) (b off:Nat),k<n∧r=.returned (.int .i64 k)∧Aside (l.find? pr=some y)∧p=some ⟨b,off,none⟩∧b<w.heap.size ∧
   w1.cell? ⟨b,off+k*4,none⟩=some (.int .i64 y.o)∧w1.cell? ⟨b,off+k*4+1,none⟩=some (.int .i64 y.f)∧w1.cell? ⟨b,off+k*4+2,none⟩=some (.int .i64 y.t)∧w1.cell? ⟨b,off+k*4+3,none⟩=some (.bool y.a)):=by
 obtain ⟨hG,⟨h1,h2⟩ | ⟨k,y,hk,hy,hr,hpy,ha⟩⟩:=iQ.parts hn h
 ·exact ⟨hG0.trans hG,.inl ⟨h1,h2⟩⟩
 ·refine ⟨hG0.trans hG,.inr ⟨k,y,?_⟩⟩
  rcases hL with h0 | ⟨b,off,rfl,hb,hc⟩
  ·rw [h0] at hy;simp at hy
  ·exact ⟨b,off,hk,hr,wD hy hpy ha,rfl,hb,Lies.cells hc hb (hG0.trans hG).below hy⟩
theorem rH (l:List Lk) (x:Lk) (p:Option Addr) (cap:Nat) (w:World) (hL:Lies w p l) (hn:l.length<4611686018427387904) :
  Calls Tryz.prog 31 #[.slice p l.length cap,.agg #[.int .i64 x.o, .int .i64 x.f, .int .i64 x.t, .bool x.a]] w (DN l x w):=by
 have eg:∀ args w,(callFunc 54 args).run Tryz.prog w=.ok (.enter 54 args) w:=enters_of Tryz.func54 (by kernel_rfl) rfl
 have hs:=mO (clash x) 54 #[.pointer (some ⟨w.heap.size,0,none⟩)] eg l p cap ((w.alloc (.cells #[.int .i64 x.o, .int .i64 x.f, .int .i64 x.t, .bool x.a] 58)).alloc (.cells #[.int .i64 0,.int .i64 0,.int .i64 0,.bool false] 58)) (hL.grown (((Grown.refl w).alloc _).alloc _)) hn
  (fun W y hG hy=>CO y x w.heap.size W (by have:=hG.size;simp at this;omega) (fun i v hv=>by
    have hi:=kM hv
    refine (hG.cell (p:=⟨w.heap.size,i,none⟩) (by simp;omega)).trans ?_
    obtain rfl | rfl | rfl | rfl:i=0∨i=1∨i=2∨i=3:=by omega
    all_goals (simp [encK] at hv;subst hv;simp)))
 clear eg
 have HL:Aside (Lies w p l):=hL
 clear hL
 obtain ⟨n,hnl⟩:∃ n,n=l.length:=⟨_,rfl⟩
 have HN:Aside (n=l.length):=hnl
 rw [← hnl] at hn hs ⊢
 clear hnl
 go_enter Tryz.func31,Tryz.ntmps31
 go_wp2_with (go_at_call 53;refine hs.mono ?_;clear hs;intro e w1 hIP;obtain ⟨⟨r0,r1,r2,r3⟩,⟨f0,f1,f2,f3⟩⟩:=Ig (H:=w.heap.size+1) (by simp) (hIP.1.below.mono (by simp));rcases Ev HN.out HL.out (((Grown.refl w).alloc _).alloc _) hIP with ⟨HG,⟨rfl,HA⟩ | ⟨k0,y0,b,off,hk0,rfl,HA,rfl,hb,c0,c1,c2,c3⟩⟩ <;> clear hIP)
 ·refine bodyPost_ret (v:=.tuple #[.agg #[.int .i64 yc.o, .int .i64 yc.f, .int .i64 yc.t, .bool yc.a],.bool false]) (by simp [results,Tryz.results31,go_sem,yc,r0,r1,r2,r3]) rfl ?_
  exact ⟨yc,false,rfl,.inl ⟨rfl,rfl,List.any_eq_false.2 fun y hy=>by simp [HA.out y hy]⟩,zL HG.out.below (by omega) _ _ _ _⟩
 ·refine bodyPost_ret (v:=.tuple #[.agg #[.int .i64 y0.o, .int .i64 y0.f, .int .i64 y0.t, .bool y0.a],.bool true]) (by simp [results,Tryz.results31,go_sem,r0,r1,r2,r3]) rfl ?_
  exact ⟨y0,true,rfl,.inr ⟨rfl,HA.out⟩,zL HG.out.below (by omega) _ _ _ _⟩
end Go.Proofs.YthfeoiffoeagkaaGreatDoor.LK
namespace Go.Proofs.YthfeoiffoeagkaaGreatDoor.LK
open Go.RowKit Go.Sort KM
set_option linter.unusedVariables false
def Ways (x:Lk):Prop:=(¬ okK x∧(x.o<0∨(¬ x.o<0∧(4≤x.o∨(¬ 4≤x.o∧(x.f<0∨(¬ x.f<0∧(x.t≤x.f∨(¬ x.t≤x.f∧1000<x.t)))))))))∨(okK x∧¬ x.o<0∧¬ 4≤x.o∧¬ x.f<0∧¬ x.t≤x.f∧¬ 1000<x.t)
theorem ways (x:Lk):Ways x:=by unfold Ways okK;omega
theorem last_at {l:List Lk} {y:Lk} {k:Nat} (hk:l.length=k+1) (hy:l[k]?=some y):l.getLast?=some y:=by
 rw [List.getLast?_eq_getElem?,hk];exact hy
set_option maxHeartbeats 400000 in
theorem wz (l:List Lk) (x:Lk) (p:Option Addr) (cap:Nat) (w:World) (hL:Lies w p l) (hn:l.length<4611686018427387904) :
  Calls Tryz.prog 52 #[.slice p l.length cap,.agg #[.int .i64 x.o, .int .i64 x.f, .int .i64 x.t, .bool x.a]] w fun r w'=>r=.returned (.int .i64 (gF l x))∧Below w.heap.size w w':=by
 have hm:=fun W (hB:Below w.heap.size w W)=>rH l x p cap W (hL.kept hB) hn
 have HW:Aside (gF l x=if ¬ okK x then 3 else if jT l x=true then 2 else if l.any (clash x) then 8 else 0):=rfl
 rcases ways x with ⟨hk,h⟩ | ⟨hk,h1,h2,h3,h4,h5⟩
 ·have HR:Aside (gF l x=3):=by show _=_;rw [HW.out,if_pos hk]
  clear HW hk
  rcases h with h1 | ⟨h1,h2 | ⟨h2,h3 | ⟨h3,h4 | ⟨h4,h5⟩⟩⟩⟩ <;>
  (go_enter Tryz.func52,Tryz.ntmps52
   go_wp2
   go_ret
   exact ⟨bA HR.out.symm,((Grown.refl w).alloc _).below⟩)
 ·have HW':Aside (gF l x=if jT l x=true then 2 else if l.any (clash x) then 8 else 0):=by show _=_;rw [HW.out,if_neg (by simpa using hk)]
  clear HW hk
  obtain ⟨n,hnl⟩:∃ n,n=l.length:=⟨_,rfl⟩
  have HN:Aside (n=l.length):=hnl
  rw [← hnl] at hn hm ⊢
  by_cases hz0:n=0
  ·subst hz0
   have HB:Aside (jT l x=false):=by show _=_;rw [List.eq_nil_of_length_eq_zero hnl.symm];rfl
   clear hL hnl
   go_enter Tryz.func52,Tryz.ntmps52
   go_wp2
   go_quiet (fail)
   go_wp2_with (go_at_call 31;refine (hm _ (below_drewN ((Grown.refl w).alloc _).below _)).mono ?_;clear hm;rintro r w1 ⟨y,b,rfl,hM,hB⟩;have HM:Aside (l.any (clash x)=b):=hM.any;have HB1:Aside (Below w.heap.size w w1):=(below_drewN ((Grown.refl w).alloc _).below _).trans (hB.mono (by simp));clear hM hB;cases b)
   ·go_ret
    exact ⟨bA (by rw [HW'.out,HB.out,HM.out];rfl),HB1.out.alloc HB1.out.size _⟩
   ·go_ret
    exact ⟨bA (by rw [HW'.out,HB.out,HM.out];rfl),HB1.out.alloc HB1.out.size _⟩
  ·obtain ⟨k,hk⟩:∃ k,n=k+1:=⟨n-1,by omega⟩
   obtain ⟨z,hz⟩:∃ z,l[k]?=some z:=⟨_,List.getElem?_eq_getElem (by omega)⟩
   have HB:Aside (jT l x = !rise z x):=by show _=_;rw [jT,last_at (hnl.symm.trans hk) hz]
   rcases hL with h0 | ⟨b,off,rfl,hb,hc⟩
   ·rw [h0] at hz;simp at hz
   obtain ⟨c0,c1,c2,c3⟩:=Lies.cells hc hb ((Grown.refl w).alloc (.cells #[.int .i64 x.o, .int .i64 x.f, .int .i64 x.t, .bool x.a] 58)).below hz
   have hne:b≠w.heap.size:=by omega
   subst hk
   have hk1:(((k+1:Nat):Int)-1)=(k:Int):=by omega
   have hk7:(k:Int)+1-1=(k:Int):=by omega
   have hk8:IntKind.i64.wrap ((k:Int)+1-1)=(k:Int):=by simp [IntKind.wrap,IntKind.bits,IntKind.signed];omega
   have hk2:IntKind.i64.wrap (k:Int)=k:=by simp [IntKind.wrap,IntKind.bits,IntKind.signed];omega
   have hk3:(0:Int)≤(k:Int):=by omega
   have hk4:(k:Int)<((k+1:Nat):Int):=by omega
   have hk5:(k:Int)<(k:Int)+1:=by omega
   clear hc hz hnl hz0
   go_enter Tryz.func52,Tryz.ntmps52
   go_wp2
   have hG1:Grown w (w.alloc (.cells #[.int .i64 x.o, .int .i64 x.f, .int .i64 x.t, .bool x.a] 58)):=(Grown.refl w).alloc _
   go_region_held3 (fun w'=>w'.cell? ⟨w.heap.size,0,none⟩=some (.int .i64 x.o)∧w'.cell? ⟨w.heap.size,1,none⟩=some (.int .i64 x.f)∧w'.cell? ⟨w.heap.size,2,none⟩=some (.int .i64 x.t)∧w'.cell? ⟨w.heap.size,3,none⟩=some (.bool x.a)∧w'.cell? ⟨b,off+k*4,none⟩=some (.int .i64 z.o)∧w'.cell? ⟨b,off+k*4+1,none⟩=some (.int .i64 z.f)∧w'.cell? ⟨b,off+k*4+2,none⟩=some (.int .i64 z.t)∧w'.cell? ⟨b,off+k*4+3,none⟩=some (.bool z.a)) (go_keep) (first
    | (go_at_call 84;refine (zA z x _).mono ?_;rintro r w1 ⟨rfl,hG⟩;have hGG:Grown (w.alloc (.cells #[.int .i64 x.o, .int .i64 x.f, .int .i64 x.t, .bool x.a] 58)) w1:=((Grown.refl _).drewN 1).trans hG;obtain ⟨⟨d0,d1,d2,d3⟩,_⟩:=new4 (by simp) hGG.below;have e0:=(hGG.cell (p:=⟨b,off+k*4,none⟩) (by simp;omega)).trans c0;have e1:=(hGG.cell (p:=⟨b,off+k*4+1,none⟩) (by simp;omega)).trans c1;have e2:=(hGG.cell (p:=⟨b,off+k*4+2,none⟩) (by simp;omega)).trans c2;have e3:=(hGG.cell (p:=⟨b,off+k*4+3,none⟩) (by simp;omega)).trans c3;clear hG))
   have HG:Aside (Grown w w1):=hG1.trans hGG
   clear hGG hG1 e0 e1 e2 e3 c0 c1 c2 c3
   cases hrz:rise z x with
   | false =>
    go_wp2
    go_ret
    exact ⟨bA (by rw [HW'.out,HB.out,hrz];rfl),HG.out.below⟩
   | true =>
    go_wp2_with (go_at_call 31;refine (hm _ HG.out.below).mono ?_;clear hm;rintro r w2 ⟨y,bb,rfl,hM,hB⟩;have HM:Aside (l.any (clash x)=bb):=hM.any;have HB1:Aside (Below w.heap.size w w2):=Below.onto HG.out.below hB;clear hM hB;cases bb)
    ·go_ret
     exact ⟨bA (by rw [HW'.out,HB.out,hrz,HM.out];rfl),HB1.out.alloc HB1.out.size _⟩
    ·go_ret
     exact ⟨bA (by rw [HW'.out,HB.out,hrz,HM.out];rfl),HB1.out.alloc HB1.out.size _⟩
def qO (l:List Lk) (w:World) (e:Ending) (w':World):Prop :=
 e=.returned (.agg #[.int .i64 (bC l).1,.int .i64 (bC l).2])∧Below w.heap.size w w'
set_option maxHeartbeats 400000 in
theorem iZ (l:List Lk) (p:Option Addr) (cap:Nat) (w:World) (hL:Lies w p l) (hn:l.length<4611686018427387904) (hcap:l.length≤cap) :
  Calls Tryz.prog 28 #[.slice p l.length cap] w (qO l w):=by
 have HL:Aside (Lies w p l):=hL
 clear hL
 obtain ⟨n,hnl⟩:∃ n,n=l.length:=⟨_,rfl⟩
 have HN:Aside (n=l.length):=hnl
 rw [← hnl] at hn hcap ⊢
 clear hnl
 by_cases h40:40<n
 ·have hz:(40:Int)<(n:Int):=by omega
  have HF:Aside (bC l=(5,0)):=by show _=_;rw [bC,if_pos (by rw [← HN.out];exact h40)]
  go_enter Tryz.func28,Tryz.ntmps28
  go_wp2
  refine bodyPost_ret (v:=.agg #[.int .i64 5,.int .i64 0]) (by simp [results,Tryz.results28,go_sem]) rfl ?_
  exact ⟨by rw [HF.out],((Grown.refl w).alloc _).below⟩
 ·have hz:¬ (40:Int)<(n:Int):=by omega
  have HF:Aside (bC l=gL (l.take 0) (l.drop 0)):=by show _=_;rw [bC,if_neg (by rw [← HN.out];exact h40)];rfl
  go_enter Tryz.func28,Tryz.ntmps28
  go_wp2
  go_loopg [12] n (fun gg s12 wr=>∃ k:Nat,k≤n∧n-k≤gg∧s12=.int .i64 k∧Aside (Below (w.heap.size+1) (w.alloc (.cells #[.int .i64 0,.int .i64 0] 46)) wr)∧Aside (bC l=gL (l.take k) (l.drop k)))
  case atStart=>exact ⟨0,Nat.zero_le _,by omega,rfl,Below.refl _ _,HF.out⟩
  case round =>
   obtain ⟨k,hk,hg,rfl,BW,HE⟩:=hrel
   by_cases hlt:k<n
   ·have hltz:(k:Int)<(n:Int):=by omega
    obtain ⟨y,hy⟩:∃ y,l[k]?=some y:=⟨_,List.getElem?_eq_getElem (by have:=HN.out;omega)⟩
    have HS:Aside (bC l=if gF (l.take k) y=0 then gL (l.take (k+1)) (l.drop (k+1)) else (gF (l.take k) y,(k:Int))):=by show _=_;rw [HE.out,Ch hy]
    have hBw:=bF BW.out
    have hwb0:∀ W,Below w.heap.size w W→Calls Tryz.prog 52 #[.slice p k cap,.agg #[.int .i64 y.o, .int .i64 y.f, .int .i64 y.t, .bool y.a]] W fun r w'=>r=.returned (.int .i64 (gF (l.take k) y))∧Below W.heap.size W w':=fun W hB=>by
     have h:=wz (l.take k) y p cap W ((HL.out.kept hB).take k) (by rw [List.length_take];omega)
     rwa [List.length_take,Nat.min_eq_left (by have:=HN.out;omega)] at h
    rcases HL.out with h0 | ⟨b,off,rfl,hb,hc⟩
    ·rw [h0] at hy;simp at hy
    obtain ⟨c0,c1,c2,c3⟩:=Lies.cells hc hb hBw hy
    have hb':b<wr.heap.size:=Nat.lt_of_lt_of_le hb hBw.size
    have hne:b≠wr.heap.size:=by omega
    have hkc':(k:Int)≤(cap:Int):=by omega
    have hkc:k≤cap:=by omega
    have hX0:Below wr.heap.size wr (wr.alloc (.cells #[.int .i64 y.o, .int .i64 y.f, .int .i64 y.t, .bool y.a] 58)):=(Below.refl _ _).alloc (Nat.le_refl _) _
    have hwb:=hwb0 _ (Below.onto hBw hX0).drew
    generalize gF (l.take k) y=r1 at hwb HS
    clear hc hy hwb0
    by_cases hr1:r1=0
    ·subst hr1
     go_wp2
     go_region_held3 (fun w'=>w'.cell? ⟨wr.heap.size,0,none⟩=some (.int .i64 y.o)∧w'.cell? ⟨wr.heap.size,1,none⟩=some (.int .i64 y.f)∧w'.cell? ⟨wr.heap.size,2,none⟩=some (.int .i64 y.t)∧w'.cell? ⟨wr.heap.size,3,none⟩=some (.bool y.a)) (go_keep) (first
      | (go_at_call 52;refine hwb.mono ?_;clear hwb;rintro rr w2 ⟨rfl,hB2⟩;obtain ⟨⟨d0,d1,d2,d3⟩,_⟩:=new4 (by simp) ((Below.refl _ (wr.alloc (.cells #[.int .i64 y.o, .int .i64 y.f, .int .i64 y.t, .bool y.a] 58))).drew.trans hB2)))
     have HO:Aside (Below (w.heap.size+1) (w.alloc (.cells #[.int .i64 0,.int .i64 0] 46)) w2):=up1 BW.out (Below.onto hX0.drew hB2)
     clear hB2 hX0 hBw
     go_wp2
     go_roundg (n-(k+1))
     case measure=>omega
     case rel=>exact ⟨k+1,by omega,by omega,by go_num,HO.out,by show _=_;simpa using HS.out⟩
    ·go_wp2
     go_region_held3 (fun w'=>w'.cell? ⟨wr.heap.size,0,none⟩=some (.int .i64 y.o)∧w'.cell? ⟨wr.heap.size,1,none⟩=some (.int .i64 y.f)∧w'.cell? ⟨wr.heap.size,2,none⟩=some (.int .i64 y.t)∧w'.cell? ⟨wr.heap.size,3,none⟩=some (.bool y.a)) (go_keep) (first
      | (go_at_call 52;refine hwb.mono ?_;clear hwb;rintro rr w2 ⟨rfl,hB2⟩;obtain ⟨⟨d0,d1,d2,d3⟩,_⟩:=new4 (by simp) ((Below.refl _ (wr.alloc (.cells #[.int .i64 y.o, .int .i64 y.f, .int .i64 y.t, .bool y.a] 58))).drew.trans hB2)))
     have hO:Below (w.heap.size+1) (w.alloc (.cells #[.int .i64 0,.int .i64 0] 46)) w2:=up1 BW.out (Below.onto hX0.drew hB2)
     obtain ⟨⟨r0,r1'⟩,⟨f0,f1⟩⟩:=new2 (Nat.lt_succ_self _) hO
     have HO:Aside (Below w.heap.size w w2):=bF hO
     clear hB2 hX0 hBw hO
     go_wp2
     refine bodyPost_ret (v:=.agg #[.int .i64 r1,.int .i64 k]) (by simp [results,Tryz.results28,go_sem,r0,r1']) rfl ?_
     exact ⟨by rw [HS.out,if_neg hr1],lG HO.out (Nat.le_refl _) _ _⟩
   ·have hltz:¬ (k:Int)<(n:Int):=by omega
    have HZ:Aside (bC l=(0,0)):=by show _=_;rw [HE.out,El (by have:=HN.out;omega)]
    obtain ⟨⟨r0,r1⟩,⟨f0,f1⟩⟩:=new2 (Nat.lt_succ_self _) BW.out
    have HO:Aside (Below w.heap.size w wr):=bF BW.out
    go_wp2
    refine bodyPost_ret (v:=.agg #[.int .i64 0,.int .i64 0]) (by simp [results,Tryz.results28,go_sem,r0,r1]) rfl ?_
    exact ⟨by rw [HZ.out],lG HO.out (Nat.le_refl _) _ _⟩
end Go.Proofs.YthfeoiffoeagkaaGreatDoor.LK
namespace Go.Proofs.YthfeoiffoeagkaaGreatDoor.LK
open Go.RowKit Go.Sort KM
set_option linter.unusedVariables false
theorem CG (e:Lk) (q:Int) (B:Nat) (w:World) (hB:B<w.heap.size) (hc:w.cell? ⟨B,0,none⟩=some (.int .i64 q)) :
  Calls Tryz.prog 226 #[.agg #[.int .i64 e.o, .int .i64 e.f, .int .i64 e.t, .bool e.a],.pointer (some ⟨B,0,none⟩)] w fun r w'=>r=.returned (.bool (decide (e.o=q)))∧Grown w w':=by
 have hne:B≠w.heap.size:=by omega
 have HE:Aside ((e.o == q)=decide (e.o=q)):=by show _=_;rw [Bool.eq_iff_iff];simp
 go_enter Tryz.func226,Tryz.ntmps226
 go_wp2
 go_ret
 exact ⟨aR HE.out,(Grown.refl w).alloc _⟩
def DL (l:List Lk) (q:Int) (w:World) (e:Ending) (w':World):Prop :=
 ∃ g c,e=.returned (.slice (some ⟨g,0,none⟩) (dI l q).length c)∧w.heap.size≤g∧Own w' g c (dI l q)∧Below w.heap.size w w'
set_option maxHeartbeats 4000000 in
theorem EC (l:List Lk) (q:Int) (p:Option Addr) (cap:Nat) (w:World) (hL:Lies w p l) (hnil:p=none→cap=0) (hn:l.length*32≤140737488355328) :
  Calls Tryz.prog 188 #[.slice p l.length cap,.int .i64 q] w (DL l q w):=by
 have eg:∀ args w,(callFunc 226 args).run Tryz.prog w=.ok (.enter 226 args) w:=enters_of Tryz.func226 (by kernel_rfl) rfl
 have hdel:∀ (g c:Nat) (W:World),Own W g c l→w.heap.size+1≤g→Below (w.heap.size+1) (w.alloc (.cells #[.int .i64 q] 3)) W →
   Calls Tryz.prog 225 #[.slice (some ⟨g,0,none⟩) l.length c,.func (.func 226) #[] #[.pointer (some ⟨w.heap.size,0,none⟩)]] W fun e w'=>e=.returned (.slice (some ⟨g,0,none⟩) (dI l q).length c)∧Own w' g c (dI l q)∧Below (w.heap.size+1) (w.alloc (.cells #[.int .i64 q] 3)) w':=by
  intro g c W hO hg hB
  have hBs:=hB.size
  simp at hBs
  refine (mZ (fun e=>decide (e.o=q)) 226 #[.pointer (some ⟨w.heap.size,0,none⟩)] eg l g c W hO (by omega) (fun W2 x hG hx=>CG x q w.heap.size W2 (by have:=hG.size;omega) ?_)).mono ?_
  ·rw [gN hG (by show w.heap.size<W.heap.size;omega) (by show w.heap.size≠g;omega),hB.cell (p:=⟨w.heap.size,0,none⟩) (by simp)]
   simp
  ·rintro e w' ⟨rfl,hO',hG⟩
   exact ⟨rfl,hO',hB.grown hG (by simpa using hBs) (fun k hk=>by simp at hk;omega)⟩
 have HL:Aside (Lies w p l):=hL
 clear hL eg
 obtain ⟨n,hnl⟩:∃ n,n=l.length:=⟨_,rfl⟩
 have HN:Aside (n=l.length):=hnl
 rw [← hnl] at hn hdel ⊢
 clear hnl
 generalize hrl:(dI l q).length=rl at hdel
 have HR:Aside ((dI l q).length=rl):=hrl
 clear hrl
 go_enter Tryz.func188,Tryz.ntmps188
 go_wp2_with (at_builtin;refine iH _ rfl _ _ rfl (w.heap.size+1) rfl ?_ p n cap l rfl HN.out ?_ hnil hn ?_ ?_)
 ·exact iY (w.alloc (.cells #[.int .i64 q] 3)) _ (by simp)
 ·exact (HL.out.grown ((Grown.refl w).alloc _)).grown ((Grown.refl _).alloc _)
 ·simp
 ·intro g c w1 hO hg hB
  have hB':Below (w.heap.size+1) (w.alloc (.cells #[.int .i64 q] 3)) w1:=((Below.refl _ _).alloc (by simp) _).trans hB
  have hcall:=hdel g c w1 hO hg hB'
  clear hdel
  have H1:Aside (w.heap.size+1≤g):=hg
  clear hO hB hg
  go_wp2_with (go_at_call 225;refine hcall.mono ?_;clear hcall;rintro e w2 ⟨rfl,hO2,hB2⟩)
  go_ret
  exact ⟨g,c,by rw [HR.out];rfl,by have:=H1.out;omega,hO2,bF hB2⟩
end Go.Proofs.YthfeoiffoeagkaaGreatDoor.LK
namespace Go.Proofs.YthfeoiffoeagkaaGreatDoor.LK
open Go.RowKit Go.Sort KM
set_option linter.unusedVariables false
theorem Rows.JA {w:World} {base B o:Nat} {v u:Value} {l:List Lk} (h:Rows w base v l) (hB:B<base):Rows (w.setCell ⟨B,o,none⟩ u) base v l:=by
 refine ⟨h.1,h.2.imp id ?_⟩
 rintro ⟨g,cap,cur,e,hg,hh,r⟩
 exact ⟨g,cap,cur,e,hg,by rw [Below.heap_setCell _ _ _ _ (by show g≠B;omega)];exact hh,r⟩
def jc (y:Lk) (f t:Int) (B base:Nat) (v:Value) (m:List Lk) (w:World) (e:Ending) (w':World):Prop :=
 e=.returned (.tuple #[])∧∃ v',w'.cell? ⟨B,0,none⟩=some v'∧w'.frozen? ⟨B,0,none⟩=false∧Rows w' base v' (m++gH y f t)∧Below B w w'∧base≤w'.heap.size∧(∀ ad:Addr,ad.block<w.heap.size→ad.block≠B→(∀ g,v.ownBlock=some g→ad.block≠g)→w'.cell? ad=w.cell? ad)∧w.heap.size≤w'.heap.size
set_option maxHeartbeats 400000 in
theorem Gp (y:Lk) (f t:Int) (B base:Nat) (v:Value) (m:List Lk) (w:World) (hc:w.cell? ⟨B,0,none⟩=some v) (hf:w.frozen? ⟨B,0,none⟩=false) (hR:Rows w base v m) (hb:base≤w.heap.size) (hB:B<base) (hm:m.length≤1000) :
  Calls Tryz.prog 231 #[.agg #[.int .i64 y.o, .int .i64 y.f, .int .i64 y.t, .bool y.a],.int .i64 f,.int .i64 t,.pointer (some ⟨B,0,none⟩)] w (jc y f t B base v m w):=by
 have hne:B≠w.heap.size:=by omega
 by_cases hft:f<t
 ·have HK:Aside (gH y f t=[⟨y.o,f,t,y.a⟩]):=by show _=_;rw [gH,if_pos hft]
  obtain ⟨p,c,rfl,_,hlc,hpc⟩:=hR.form
  have HR:Aside (Rows w base (.slice p m.length c) m):=hR
  clear hR
  obtain ⟨n,hnl⟩:∃ n,n=m.length:=⟨_,rfl⟩
  have HN:Aside (n=m.length):=hnl
  rw [← hnl] at hc HR hlc hm
  clear hnl
  have hG:Grown w (w.alloc (.cells #[.int .i64 y.o, .int .i64 y.f, .int .i64 y.t, .bool y.a] 58)):=(Grown.refl w).alloc _
  have hc1:=(hG.cell (p:=⟨B,0,none⟩) (by show B<_;omega)).trans hc
  go_enter Tryz.func231,Tryz.ntmps231
  go_wp2_with (at_builtin;refine jR (w.alloc (.cells #[.int .i64 y.o, .int .i64 y.f, .int .i64 y.t, .bool y.a] 58)) ⟨y.o,f,t,y.a⟩ rfl _ _ rfl base (.slice p n c) m rfl (HR.out.below hG.below) (by have:=HN.out;omega) (by have:=hG.size;omega) (w.heap.size+1) (by simp) rfl ?_)
  intro v' w1 hR1 hB1 hcell hsz
  have k1:=(hB1.cell (p:=⟨B,0,none⟩) hB).trans hc1
  have f1:=(hB1.frozen (p:=⟨B,0,none⟩) hB).trans ((hG.below.frozen (p:=⟨B,0,none⟩) (by show B<_;omega)).trans hf)
  obtain ⟨p',c',rfl,_,_,_⟩:=hR1.form
  have HR1:Aside (Rows w1 base (.slice p' (m++[(⟨y.o,f,t,y.a⟩:Lk)]).length c') (m++[⟨y.o,f,t,y.a⟩])):=hR1
  have HB1:Aside (Below B w w1):=(hG.below.mono (by omega)).trans (hB1.mono (by omega))
  have HS:Aside (base≤w1.heap.size):=by have:=hG.size;have:=hsz;show _≤_;omega
  have HC:Aside (∀ ad:Addr,ad.block<w.heap.size→ad.block≠B→(∀ g,(Value.slice p n c).ownBlock=some g→ad.block≠g)→∀ u,(w1.setCell ⟨B,0,none⟩ u).cell? ad=w.cell? ad):=fun ad h1 h2 h3 u=>by
   have hne':(⟨B,0,none⟩:Addr)≠ad:=fun e=>h2 (by rw [← e])
   exact (World.cell?_setCell_other (h:=hne') ..).trans ((hcell ad (by have:=hG.size;omega) h3).trans (hG.cell h1))
  have HZ:Aside (w.heap.size≤w1.heap.size):=by have:=hG.size;have:=hsz;show _≤_;omega
  clear hR1 hB1 hsz hc1 hG hc hcell
  generalize (m++[⟨y.o,f,t,y.a⟩]:List Lk).length=n' at *
  go_wp2
  go_end0
  refine ⟨rfl,.slice p' n' c',?_,?_,?_,HB1.out.setCell (Nat.le_refl _) _,by simp;exact HS.out,fun ad h1 h2 h3=>HC.out ad h1 h2 (fun g hg=>h3 g (by rw [← HN.out];exact hg)) _,by simp;exact HZ.out⟩
  ·exact World.cell?_setCell_same (h:=k1) ..
  ·rw [World.frozen?_setCell];exact f1
  ·rw [HK.out];exact HR1.out.JA hB
 ·have HK:Aside (gH y f t=[]):=by show _=_;rw [gH,if_neg hft]
  have HR:Aside (Rows w base v m):=hR
  clear hR
  go_enter Tryz.func231,Tryz.ntmps231
  go_wp2
  go_end0
  refine ⟨rfl,v,?_,?_,?_,?_,?_,?_,?_⟩
  ·rw [((Grown.refl w).alloc _).cell (p:=⟨B,0,none⟩) (by show B<_;omega)];exact hc
  ·exact (((Grown.refl w).alloc _).below.frozen (p:=⟨B,0,none⟩) (by show B<_;omega)).trans hf
  ·rw [HK.out,List.append_nil];exact HR.out.below ((Grown.refl w).alloc _).below
  ·exact ((Grown.refl w).alloc _).below.mono (by omega)
  ·simp;omega
  ·intro ad h1 _ _
   exact ((Grown.refl w).alloc _).cell h1
  ·simp
theorem zV {l:List Lk} {k:Nat} {x y:Lk} (hy:l[k]?=some y):aN (l.take (k+1)) x=aN (l.take k) x++gP x y:=by
 rw [dh hy];simp [aN]
theorem Fh (x y:Lk):(gP x y).length≤2:=by
 unfold gP gH
 repeat' split
 all_goals simp
theorem uD (l:List Lk) (x:Lk):(aN l x).length≤l.length*2:=by
 induction l with
 | nil=>simp [aN]
 | cons y r ih =>
  have:=Fh x y
  have e:aN (y::r) x=gP x y++aN r x:=by simp [aN]
  rw [e,List.length_append,List.length_cons];omega
structure WInv (x:Lk) (w W:World) (v:Value) (m:List Lk):Prop where
 box:W.cell? ⟨w.heap.size+1,0,none⟩=some v
 frz:W.frozen? ⟨w.heap.size+1,0,none⟩=false
 rows:Rows W (w.heap.size+2) v m
 below:Below (w.heap.size+1) (w.alloc (.cells #[.int .i64 x.o, .int .i64 x.f, .int .i64 x.t, .bool x.a] 58)) W
 size:w.heap.size+2≤W.heap.size
theorem WInv.base {x:Lk} {w W:World} {v:Value} {m:List Lk} (h:WInv x w W v m):Below w.heap.size w W:=bF h.below
theorem WInv.xs {x:Lk} {w W:World} {v:Value} {m:List Lk} (h:WInv x w W v m):W.cell? ⟨w.heap.size,0,none⟩=some (.int .i64 x.o)∧W.cell? ⟨w.heap.size,1,none⟩=some (.int .i64 x.f)∧W.cell? ⟨w.heap.size,2,none⟩=some (.int .i64 x.t)∧W.cell? ⟨w.heap.size,3,none⟩=some (.bool x.a) :=
 (new4 (Nat.lt_succ_self _) h.below).1
theorem WInv.start (x:Lk) (w:World):WInv x w ((w.alloc (.cells #[.int .i64 x.o, .int .i64 x.f, .int .i64 x.t, .bool x.a] 58)).alloc (.cells #[.slice none 0 0] 60)) (.slice none 0 0) []:=by
 have e:w.heap.size+1=(w.alloc (.cells #[.int .i64 x.o, .int .i64 x.f, .int .i64 x.t, .bool x.a] 58)).heap.size:=by simp
 refine ⟨?_,?_,Rows.nil _ _,((Below.refl _ _).alloc (by simp) _),by simp⟩
 ·rw [e];simp
 ·rw [e];simp
theorem WInv.alloc {x:Lk} {w W:World} {v:Value} {m:List Lk} (h:WInv x w W v m) (o:Obj):WInv x w (W.alloc o) v m:=by
 have hG:Grown W (W.alloc o):=(Grown.refl W).alloc o
 have hs:=h.size
 exact ⟨(hG.cell (p:=⟨w.heap.size+1,0,none⟩) (by show w.heap.size+1<_;omega)).trans h.box,(hG.below.frozen (p:=⟨w.heap.size+1,0,none⟩) (by show w.heap.size+1<_;omega)).trans h.frz,h.rows.below hG.below,upA h.below,by have:=hG.size;omega⟩
theorem WInv.keep {x:Lk} {w W:World} {v:Value} {m:List Lk} (h:WInv x w W v m) (y:Lk) (f t:Int) (hm:m.length≤1000) :
  Calls Tryz.prog 231 #[.agg #[.int .i64 y.o, .int .i64 y.f, .int .i64 y.t, .bool y.a],.int .i64 f,.int .i64 t,.pointer (some ⟨w.heap.size+1,0,none⟩)] W fun e W'=>e=.returned (.tuple #[])∧∃ v',WInv x w W' v' (m++gH y f t) ∧
   ∀ ad:Addr,ad.block<W.heap.size→ad.block≠w.heap.size+1→(∀ g,v.ownBlock=some g→ad.block≠g)→W'.cell? ad=W.cell? ad:=by
 refine (Gp y f t (w.heap.size+1) (w.heap.size+2) v m W h.box h.frz h.rows h.size (by omega) hm).mono ?_
 rintro e W' ⟨rfl,v',h1,h2,h3,h4,h5,h6,_⟩
 exact ⟨rfl,v',⟨h1,h2,h3,h.below.trans h4,h5⟩,h6⟩
def mh (l:List Lk) (x:Lk) (w:World) (e:Ending) (w':World):Prop :=
 ∃ v,e=.returned v∧Rows w' w.heap.size v (aN l x)∧Below w.heap.size w w'
set_option maxHeartbeats 400000 in
theorem jY (l:List Lk) (x:Lk) (p:Option Addr) (cap:Nat) (w:World) (hL:Lies w p l) (hn:l.length≤40) :
  Calls Tryz.prog 195 #[.slice p l.length cap,.agg #[.int .i64 x.o, .int .i64 x.f, .int .i64 x.t, .bool x.a]] w (mh l x w):=by
 have HL:Aside (Lies w p l):=hL
 clear hL
 obtain ⟨n,hnl⟩:∃ n,n=l.length:=⟨_,rfl⟩
 have HN:Aside (n=l.length):=hnl
 rw [← hnl] at hn ⊢
 clear hnl
 have HL2:Aside (∀ k,(aN (l.take k) x).length≤80):=fun k=>by
  have h1:=uD (l.take k) x
  have h2:(l.take k).length≤l.length:=by rw [List.length_take];omega
  have h3:=HN.out
  omega
 go_enter Tryz.func195,Tryz.ntmps195
 go_wp2
 go_loopg [12] n (fun gg s12 wr=>∃ k:Nat,k≤n∧n-k≤gg∧s12=.int .i64 k∧∃ v,Aside (WInv x w wr v (aN (l.take k) x)))
 case atStart=>exact ⟨0,Nat.zero_le _,by omega,rfl,.slice none 0 0,(WInv.start x w:WInv _ _ _ _ [])⟩
 case round =>
  obtain ⟨k,hk,hg,rfl,v,I⟩:=hrel
  obtain ⟨d0,d1,d2,d3⟩:=I.out.xs
  by_cases hlt:k<n
  ·have hltz:(k:Int)<(n:Int):=by omega
   obtain ⟨y,hy⟩:∃ y,l[k]?=some y:=⟨_,List.getElem?_eq_getElem (by have:=HN.out;omega)⟩
   have HS:Aside (aN (l.take (k+1)) x=aN (l.take k) x++gP x y):=zV hy
   rcases HL.out with h0 | ⟨b,off,rfl,hb,hc⟩
   ·rw [h0] at hy;simp at hy
   obtain ⟨c0,c1,c2,c3⟩:=Lies.cells hc hb I.out.base hy
   have hb':b<wr.heap.size:=Nat.lt_of_lt_of_le hb I.out.base.size
   have hne:b≠wr.heap.size:=by omega
   have hne2:w.heap.size≠wr.heap.size:=by have:=I.out.size;omega
   have hwl:w.heap.size<wr.heap.size:=by have:=I.out.size;omega
   have I1:Aside (WInv x w (wr.alloc (.cells #[.int .i64 y.o, .int .i64 y.f, .int .i64 y.t, .bool y.a] 58)) v (aN (l.take k) x)):=I.out.alloc _
   have hcall:=fun f t=>I1.out.keep y f t (by have:=HL2.out k;omega)
   clear hc hy
   by_cases ho:y.o=x.o
   ·have HP:Aside (gP x y=gH y y.f (min y.t x.f)++gH y (max y.f x.t) y.t):=by show _=_;rw [gP,if_neg (by simpa using ho)]
    have hown:∀ g,v.ownBlock=some g→wr.heap.size≠g:=fun g hg=>by have:=(World.ownsRow.lt I.out.rows g hg).2;omega
    have hwl2:wr.heap.size≠w.heap.size+1:=by have:=I.out.size;omega
    have HLn:=HL2.out (k+1)
    rw [HS.out,HP.out,← List.append_assoc,List.length_append] at HLn
    have hlen2:(aN (l.take k) x++gH y y.f (min y.t x.f)).length≤1000:=by omega
    clear HLn
    obtain ⟨yo,yf,yt,ya⟩:=y
    simp only at *
    subst ho
    go_wp2_with (first
     | ((first | go_at_call 231 | go_at_fn 231);refine (hcall _ _).mono ?_;clear hcall;rintro e w2 ⟨rfl,v2,hI2,hcell2⟩;obtain ⟨a0,a1,a2,a3⟩:=hI2.xs;have b0:=(hcell2 ⟨wr.heap.size,0,none⟩ (by simp) hwl2 hown).trans (by simp:_=some (Value.int .i64 x.o));have b1:=(hcell2 ⟨wr.heap.size,1,none⟩ (by simp) hwl2 hown).trans (by simp:_=some (Value.int .i64 yf));have b2:=(hcell2 ⟨wr.heap.size,2,none⟩ (by simp) hwl2 hown).trans (by simp:_=some (Value.int .i64 yt));have b3:=(hcell2 ⟨wr.heap.size,3,none⟩ (by simp) hwl2 hown).trans (by simp:_=some (Value.bool ya));have hcall2:=fun f t=>hI2.keep ⟨x.o,yf,yt,ya⟩ f t hlen2;clear hI2 hcell2;simp only at hcall2)
     | ((first | go_at_call 231 | go_at_fn 231);refine (hcall2 _ _).mono ?_;clear hcall2;rintro e w3 ⟨rfl,v3,hI3,_⟩))
    go_roundg (n-(k+1))
    case measure=>omega
    case rel=>exact ⟨k+1,by omega,by omega,by go_num,v3,by rw [HS.out,HP.out,← List.append_assoc];exact hI3⟩
   ·have HP:Aside (gP x y=gH y y.f y.t):=by show _=_;rw [gP,if_pos ho]
    have ho':(y.o != x.o)=true:=bne_iff_ne.2 ho
    go_wp2_with ((first | go_at_call 231 | go_at_fn 231);refine (hcall _ _).mono ?_;clear hcall;rintro e w2 ⟨rfl,v2,hI2,_⟩)
    go_roundg (n-(k+1))
    case measure=>omega
    case rel=>exact ⟨k+1,by omega,by omega,by go_num,v2,by rw [HS.out,HP.out];exact hI2⟩
  ·have hltz:¬ (k:Int)<(n:Int):=by omega
   obtain ⟨pv,cv,rfl,_,_,_⟩:=I.out.rows.form
   have hcb:=I.out.box
   have HW:Aside (aN (l.take k) x=aN l x):=by show _=_;rw [List.take_of_length_le (by have:=HN.out;omega)]
   rw [HW.out] at hcb I
   generalize (aN l x).length=nn at hcb I
   go_wp2
   go_ret
   exact ⟨_,rfl,I.out.rows.mono (by omega),I.out.base⟩
end Go.Proofs.YthfeoiffoeagkaaGreatDoor.LK
namespace Go.Proofs.YthfeoiffoeagkaaGreatDoor.LK
open Go.RowKit Go.Sort KM
set_option linter.unusedVariables false
theorem Rows.JY {w:World} {g c base:Nat} {l:List Lk} (h:Own w g c l) (hb:base≤g):Rows w base (.slice (some ⟨g,0,none⟩) l.length c) l:=by
 obtain ⟨cur,hh,hs,hl,hm,hc⟩:=h
 refine ⟨(dH l),.inr ⟨g,c,cur,rfl,hb,hh,hl,hm,hs,?_⟩⟩
 apply List.ext_getElem?
 intro k
 rw [List.getElem?_take]
 by_cases hk:k<l.length*4
 ·rw [if_pos hk]
  obtain ⟨u,hu⟩:∃ u,(l.flatMap encK)[k]?=some u:=⟨_,List.getElem?_eq_getElem (by rw [dH];exact hk)⟩
  obtain ⟨j,e,i,h1,h2,rfl⟩:=flat_get hu
  rw [hu,Array.getElem?_toList]
  exact hc j e h1 i u h2
 ·rw [if_neg hk,List.getElem?_eq_none (by rw [dH];omega)]
theorem Own.setT {w:World} {g c:Nat} {l:List Lk} (h:Own w g c l) {j:Nat} {z:Lk} (hz:l[j]?=some z) (t:Int):Own (w.setCell ⟨g,j*4+2,none⟩ (.int .i64 t)) g c (l.set j { z with t:=t }):=by
 obtain ⟨cur,hh,hs,hl,hm,hc⟩:=h
 have hj:=(List.getElem?_eq_some_iff.1 hz).1
 refine ⟨cur.setIfInBounds (j*4+2) (.int .i64 t),heap_set hh _ _,by simpa using hs,by simpa using hl,hm,fun k e he i v hv=>?_⟩
 have hi:=kM hv
 rw [List.getElem?_set] at he
 rw [Array.getElem?_setIfInBounds]
 by_cases hk:j=k
 ·subst hk
  rw [if_pos rfl,if_pos hj] at he
  obtain rfl:{ z with t:=t }=e:=by simpa using he
  obtain rfl | rfl | rfl | rfl:i=0∨i=1∨i=2∨i=3:=by omega
  ·rw [if_neg (by omega)];exact hc j z hz 0 v hv
  ·rw [if_neg (by omega)];exact hc j z hz 1 v hv
  ·rw [if_pos rfl,if_pos (by omega)];exact hv
  ·rw [if_neg (by omega)];exact hc j z hz 3 v hv
 ·rw [if_neg hk] at he
  rw [if_neg (by omega)]
  exact hc k e he i v hv
theorem Fy {w:World} {base:Nat} {v:Value} {l:List Lk} (h:Rows w base v l) {j:Nat} {z:Lk} (hl:l.length=j+1) (hz:l[j]?=some z) :
  ∃ g c,v=.slice (some ⟨g,0,none⟩) (j+1) c∧base≤g∧g<w.heap.size∧Own w g c l:=by
 obtain ⟨g,c,e,hg,ho⟩:=Own.iC h (by rintro rfl;obtain ⟨_,⟨_,h2⟩ | ⟨g,cap,cur,hv',_⟩⟩:=h <;> first | omega | cases hv') rfl
 exact ⟨g,c,by rw [e,hl],hg,ho.lt,ho⟩
theorem CU {out:List Lk} {j:Nat} {z:Lk} (hl:out.length=j+1) (hz:out[j]?=some z) (x:Lk):dR out x=if rise z x then out++[x] else out.set j { z with t:=x.t }:=by
 unfold dR
 rw [last_at hl hz,hl]
 rfl
theorem ES (out:List Lk) (x:Lk):(dR out x).length≤out.length+1:=by
 unfold dR
 split
 ·simp
 ·split
  ·simp
  ·simp
theorem Gg (l:List Lk):∀ out:List Lk,(l.foldl dR out).length≤out.length+l.length:=by
 induction l with
 | nil=>intro out;simp
 | cons x r ih =>
  intro out
  have h1:=ih (dR out x)
  have h2:=ES out x
  rw [List.foldl_cons,List.length_cons];omega
theorem Ep {l:List Lk} {k:Nat} {y:Lk} (hy:l[k]?=some y):(l.take (k+1)).foldl dR []=dR ((l.take k).foldl dR []) y:=by
 rw [dh hy,List.foldl_append];rfl
def FV (m:List Lk) (g:Nat) (w:World) (e:Ending) (w':World):Prop :=
 ∃ v m',e=.returned v∧m'.Perm m∧m'.Pairwise (fun a b=>¬ cmpK b a<0)∧Rows w' w.heap.size v (joinL m')∧w.grownBy w' (some g)
set_option maxHeartbeats 400000 in
theorem Cy (m:List Lk) (g cap:Nat) (w:World) (hO:Own w g cap m) (hn:m.length≤1000) :
  Calls Tryz.prog 194 #[.slice (some ⟨g,0,none⟩) m.length cap] w (FV m g w):=by
 have hs:=qE m g cap w hO (by omega)
 have hgl:=hO.lt
 clear hO
 obtain ⟨n,hnl⟩:∃ n,n=m.length:=⟨_,rfl⟩
 have HN:Aside (n=m.length):=hnl
 rw [← hnl] at hn hs ⊢
 clear hnl
 go_enter Tryz.func194,Tryz.ntmps194
 go_wp2_with (go_at_call 227;refine hs.mono ?_;clear hs;rintro e w1 ⟨rfl,l',hp,hpw,hL,hG⟩;have HP:Aside (l'.Perm m):=hp;have HS:Aside (l'.Pairwise (fun a b=>¬ cmpK b a<0)):=hpw;have HL:Aside (Lies w1 (some ⟨g,0,none⟩) l'):=hL;have HG:Aside (w.grownBy w1 (some g)):=hG;clear hp hpw hL hG)
 have HNL:Aside (l'.length=n):=by show _=_;rw [HP.out.length_eq,HN.out]
 have HLen:Aside (∀ k,((l'.take k).foldl dR []).length≤1000):=fun k=>by
  have h1:=Gg (l'.take k) []
  have h2:(l'.take k).length≤l'.length:=by rw [List.length_take];omega
  have h3:=HNL.out
  simp only [List.length_nil] at h1
  omega
 go_loopg [3,11] n (fun gg s3 s11 wr=>∃ k:Nat,k≤n∧n-k≤gg∧s11=.int .i64 k∧Aside (Rows wr w1.heap.size s3 ((l'.take k).foldl dR [])∧Below w1.heap.size w1 wr))
 case atStart=>exact ⟨0,Nat.zero_le _,by omega,rfl,(⟨Rows.nil _ _,Below.refl _ _⟩:Rows _ _ _ []∧_)⟩
 case round =>
  obtain ⟨k,hk,hg,rfl,I⟩:=hrel
  by_cases hlt:k<n
  ·have hltz:(k:Int)<(n:Int):=by omega
   obtain ⟨y,hy⟩:∃ y,l'[k]?=some y:=⟨_,List.getElem?_eq_getElem (by have:=HNL.out;omega)⟩
   have HF:Aside ((l'.take (k+1)).foldl dR []=dR ((l'.take k).foldl dR []) y):=Ep hy
   have hlen:=HLen.out k
   rcases HL.out with h0 | ⟨b,off,hbe,hb,hc⟩
   ·rw [h0] at hy;simp at hy
   obtain ⟨rfl,rfl⟩:g=b∧0=off:=by simpa using hbe
   clear hbe
   obtain ⟨c0,c1,c2,c3⟩:=Lies.cells hc hb I.out.2 hy
   simp only [Nat.zero_add] at c0 c1 c2 c3
   have hsz:=I.out.2.size
   have hb':g<wr.heap.size:=by omega
   have hne:g≠wr.heap.size:=by omega
   have hX:Below wr.heap.size wr (wr.alloc (.cells #[.int .i64 y.o, .int .i64 y.f, .int .i64 y.t, .bool y.a] 58)):=((Grown.refl wr).alloc _).below
   clear hc hy
   generalize hout:(l'.take k).foldl dR []=out at I HF hlen
   clear hout
   by_cases h0:out.length=0
   ·obtain ⟨p,c,hv,_,_,_⟩:=I.out.1.form
    rw [h0] at hv
    subst hv
    have HO:Aside (out=[]):=List.eq_nil_of_length_eq_zero h0
    go_wp2
    go_quiet (fail)
    go_wp2_with (at_builtin;refine jR _ y rfl _ _ rfl w1.heap.size (.slice p 0 c) out rfl (I.out.1.below (below_drewN hX _)) (by omega) (by simp;omega) (wr.heap.size+1) (by simp) rfl ?_)
    intro v' w2 hR2 hB2 _ hsz2
    have HI:Aside (Rows w2 w1.heap.size v' (dR out y)∧Below w1.heap.size w1 w2):=⟨by have:=HO.out;subst this;exact hR2,(I.out.2.trans ((below_drewN hX _).mono hsz)).trans hB2⟩
    clear hR2 hB2 hsz2 hX
    go_wp2
    go_roundg (n-(k+1))
    case measure=>omega
    case rel=>exact ⟨k+1,by omega,by omega,by go_num,by rw [HF.out];exact HI⟩
   ·obtain ⟨j,hj⟩:∃ j,out.length=j+1:=⟨out.length-1,by omega⟩
    obtain ⟨z,hz⟩:∃ z,out[j]?=some z:=⟨_,List.getElem?_eq_getElem (by omega)⟩
    obtain ⟨gb,c,rfl,hgb1,hgb2,hO⟩:=Fy I.out.1 hj hz
    have HM:Aside (dR out y=if rise z y then out++[y] else out.set j { z with t:=y.t }):=CU hj hz y
    have hOX:=hO.below hX hgb2
    obtain ⟨⟨z0,z1,z2,z3⟩,_⟩:=hOX.cells hz
    have hne3:gb≠wr.heap.size:=by omega
    have hk1:(((j+1:Nat):Int)-1)=(j:Int):=by omega
    have hk7:(j:Int)+1-1=(j:Int):=by omega
    have hk8:IntKind.i64.wrap ((j:Int)+1-1)=(j:Int):=by simp [IntKind.wrap,IntKind.bits,IntKind.signed];omega
    have hk2:IntKind.i64.wrap (j:Int)=j:=by simp [IntKind.wrap,IntKind.bits,IntKind.signed];omega
    have hk3:(0:Int)≤(j:Int):=by omega
    have hk4:(j:Int)<((j+1:Nat):Int):=by omega
    have hk5:(j:Int)<(j:Int)+1:=by omega
    have HO:Aside (Own (wr.alloc (.cells #[.int .i64 y.o, .int .i64 y.f, .int .i64 y.t, .bool y.a] 58)) gb c out):=hOX
    have HZ:Aside (out[j]?=some z):=hz
    have HJ:Aside (out.length=j+1):=hj
    clear hO hOX hz hj h0
    go_wp2
    go_region_held3 (fun w'=>w'.cell? ⟨wr.heap.size,0,none⟩=some (.int .i64 y.o)∧w'.cell? ⟨wr.heap.size,1,none⟩=some (.int .i64 y.f)∧w'.cell? ⟨wr.heap.size,2,none⟩=some (.int .i64 y.t)∧w'.cell? ⟨wr.heap.size,3,none⟩=some (.bool y.a)∧w'.cell? ⟨gb,j*4,none⟩=some (.int .i64 z.o)∧w'.cell? ⟨gb,j*4+1,none⟩=some (.int .i64 z.f)∧w'.cell? ⟨gb,j*4+2,none⟩=some (.int .i64 z.t)∧w'.cell? ⟨gb,j*4+3,none⟩=some (.bool z.a)) (go_keep) (first
     | (go_at_call 84;refine (zA z y _).mono ?_;rintro r w2 ⟨rfl,hG⟩;have hGG:Grown (wr.alloc (.cells #[.int .i64 y.o, .int .i64 y.f, .int .i64 y.t, .bool y.a] 58)) w2:=((Grown.refl _).drewN 1).trans hG;obtain ⟨⟨d0,d1,d2,d3⟩,_⟩:=new4 (by simp) hGG.below;have HO2:Aside (Own w2 gb c out):=HO.out.grown hGG;obtain ⟨⟨e0,e1,e2,e3⟩,⟨f0,f1,f2,f3⟩⟩:=HO2.out.cells HZ.out;clear hG))
    have HB2:Aside (Below wr.heap.size wr w2):=hX.trans (hGG.below.mono (by simp))
    have hsz2:=HB2.out.size
    have hgl2:gb<w2.heap.size:=by omega
    clear hGG hX z0 z1 z2 z3 c0 c1 c2 c3
    cases hrz:rise z y with
    | true =>
     go_wp2_with (at_builtin;refine jR w2 y rfl _ _ rfl w1.heap.size (.slice (some ⟨gb,0,none⟩) (j+1) c) out rfl (I.out.1.below HB2.out) (by have:=HJ.out;omega) (by omega) w2.heap.size rfl rfl ?_)
     intro v' w3 hR3 hB3 _ hsz3
     have HI:Aside (Rows w3 w1.heap.size v' (dR out y)∧Below w1.heap.size w1 w3):=⟨by rw [HM.out,hrz];exact hR3,(I.out.2.trans (HB2.out.mono hsz)).trans hB3⟩
     clear hR3 hB3 hsz3
     go_wp2
     go_roundg (n-(k+1))
     case measure=>omega
     case rel=>exact ⟨k+1,by omega,by omega,by go_num,by rw [HF.out];exact HI⟩
    | false =>
     have HI:Aside (Rows (w2.setCell ⟨gb,j*4+2,none⟩ (.int .i64 y.t)) w1.heap.size (.slice (some ⟨gb,0,none⟩) (j+1) c) (dR out y)∧Below w1.heap.size w1 (w2.setCell ⟨gb,j*4+2,none⟩ (.int .i64 y.t))):=by
      refine ⟨?_,(I.out.2.trans (HB2.out.mono hsz)).setCell hgb1 _⟩
      have h1:=Rows.JY (HO2.out.setT HZ.out y.t) hgb1
      rw [List.length_set,HJ.out] at h1
      rw [HM.out,hrz]
      exact h1
     go_wp2
     go_roundg (n-(k+1))
     case measure=>omega
     case rel=>exact ⟨k+1,by omega,by omega,by go_num,by rw [HF.out];exact HI⟩
  ·have hltz:¬ (k:Int)<(n:Int):=by omega
   have hI:=I.out
   rw [List.take_of_length_le (by have:=HNL.out;omega)] at hI
   have HI:Aside _:=hI
   clear hI I
   go_wp2
   go_ret
   exact ⟨_,l',rfl,HP.out,HS.out.imp (fun h=>by omega),HI.out.1.mono HG.out.size,bf HG.out HI.out.2⟩
end Go.Proofs.YthfeoiffoeagkaaGreatDoor.LK
