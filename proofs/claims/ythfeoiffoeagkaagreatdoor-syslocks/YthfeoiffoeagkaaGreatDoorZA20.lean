/-
  lock.Take and lock.Free: what comes of them.
-/
import Derived.Test.YthfeoiffoeagkaaGreatDoorZA19
namespace Go.Proofs.YthfeoiffoeagkaaGreatDoor.LK
open Go.RowKit Go.Sort KM
set_option linter.unusedVariables false
set_option maxRecDepth 100000
def mW (free:Bool) (l:List Lk) (x:Lk) (w:World) (e:Ending) (w':World):Prop :=
 ∃ v err m,e=.returned (.tuple #[v,.int .i64 err])∧Rows w' w.heap.size v m∧fT free l x err m∧Below w.heap.size w w'
def pV (free:Bool) (l:List Lk) (x:Lk) (w:World) (e:Ending) (w':World):Prop :=
 ∃ v err m,e=.returned (.tuple #[v,.int .i64 err])∧Rows w' w.heap.size v m∧Below w.heap.size w w' ∧
  ((err=13∧m=[]∧free=false∧l.any (clash x)=true)∨(err=0∧(free=true∨l.any (clash x)=false)∧dW m∧kK free l x m))
def pQ (w:World) (B1 B2:Nat) (p:Option Addr) (n cap:Nat) (x:Lk):Prop :=
 w.cell? ⟨B1,0,none⟩=some (.slice p n cap)∧(w.cell? ⟨B2,0,none⟩=some (.int .i64 x.o)∧w.cell? ⟨B2,1,none⟩=some (.int .i64 x.f)∧w.cell? ⟨B2,2,none⟩=some (.int .i64 x.t)∧w.cell? ⟨B2,3,none⟩=some (.bool x.a))∧B1<w.heap.size∧B2<w.heap.size
theorem pQ.kept {w w':World} {B1 B2 n cap:Nat} {p:Option Addr} {x:Lk} (h:pQ w B1 B2 p n cap x) (hB:Below w.heap.size w w'):pQ w' B1 B2 p n cap x:=by
 obtain ⟨h1,⟨h2,h3,h4,h5⟩,h6,h7⟩:=h
 have hs:=hB.size
 exact ⟨(hB.cell (p:=⟨B1,0,none⟩) h6).trans h1,⟨(hB.cell (p:=⟨B2,0,none⟩) h7).trans h2,(hB.cell (p:=⟨B2,1,none⟩) h7).trans h3,(hB.cell (p:=⟨B2,2,none⟩) h7).trans h4,(hB.cell (p:=⟨B2,3,none⟩) h7).trans h5⟩,by omega,by omega⟩
theorem oh (l:List Lk) (x:Lk) (p:Option Addr) (cap B1 B2:Nat) (w:World) (hL:Lies w p l) (h0:fO l x=0) (hb:pQ w B1 B2 p l.length cap x) :
  Calls Tryz.prog 196 #[.pointer (some ⟨B1,0,none⟩),.pointer (some ⟨B2,0,none⟩)] w (pV true l x w):=by
 have hw:=fun W (hB:Below w.heap.size w W)=>jY l x p cap W (hL.kept hB) (gJ.1 h0).1.1
 have HS:Aside (dW (aN l x)∧kK true l x (aN l x)):=free_spec h0
 obtain ⟨c0,⟨c1,c2,c3,c4⟩,hb1,hb2⟩:=hb
 generalize l.length=n at hw c0
 clear hL h0
 go_enter Tryz.func196,Tryz.ntmps196
 go_wp2_with (go_at_call 195;refine (hw _ (Below.refl _ _)).mono ?_;clear hw;rintro e w1 ⟨v,rfl,hR,hB⟩;have HR:Aside (Rows w1 w.heap.size v (aN l x)):=hR;have HB:Aside (Below w.heap.size w w1):=hB;clear hR hB)
 go_ret2
 exact ⟨v,0,aN l x,rfl,HR.out,HB.out,.inr ⟨rfl,.inl rfl,HS.out⟩⟩
theorem xK {ops:Array Oper} {o:Oper} {a:Act} {K:Act→World→Prop} {Q:Exit→Act→World→Prop} {E:Prop} {X:World} (hgd:o.guard=none) (s x:Operand)
  (ho:o.op=.call { callee:=.builtin .append,args:=#[s,x],argTypes:=#[60,60] }) (base:Nat) (v:Value) (l:List Lk) (hs:a.eval s=v) (hrow:Rows X base v l) (hlen:l.length≤1000) (hbase:base≤X.heap.size)
  (H:Nat) (y:Lk) (hx:a.eval x=.slice (some ⟨H,0,none⟩) 1 1) (hL:∀ j u,(encK y)[j]?=some u→X.cell? ((⟨H,0,none⟩:Addr).add j)=some u)
  (h:∀ v' w',Rows w' base v' (l++[y])→Below base X w'→K (a.put o.dst v') w') :
  if Region.wanted o (yielded ops a.tmps)=true then Oper.wp Tryz.prog o a X K Q else E:=by
 have hw:Region.wanted o (yielded ops a.tmps)=true:=by simp [Region.wanted,hgd]
 rw [if_pos hw]
 obtain ⟨i0,hi,hz0,hz1,hz2⟩:=Cu
 refine wp_append_own X s x 60 ho base 58 i0 _ 4 32 Tryz.underlying60 hi hz0 hz1 hz2 rfl (by decide) v l.length (l.flatMap encK) hs hrow ⟨H,0,none⟩ 1 1 (encK y) hx rfl hL (fun u hu=>gq (t:=[y]) (by simpa using hu)) (by unfold maxLen;omega) (by omega) hbase ?_
 intro v' w' hown hg _
 exact h v' w' (by simpa [Rows] using hown) ((Below.refl base X).grown hg hbase (fun j hj=>(World.ownsRow.lt hrow j hj).1))
theorem Bw {X:World} {H:Nat} {y:Lk} (h:X.cell? ⟨H,0,none⟩=some (.int .i64 y.o)∧X.cell? ⟨H,1,none⟩=some (.int .i64 y.f)∧X.cell? ⟨H,2,none⟩=some (.int .i64 y.t)∧X.cell? ⟨H,3,none⟩=some (.bool y.a)):∀ j u,(encK y)[j]?=some u→X.cell? ((⟨H,0,none⟩:Addr).add j)=some u:=by
 intro j u hu
 have hj:=kM hu
 rw [Addr.add_lit,Nat.zero_add]
 obtain rfl | rfl | rfl | rfl:j=0∨j=1∨j=2∨j=3:=by omega
 ·obtain rfl:Value.int .i64 y.o=u:=by simpa [encK] using hu
  exact h.1
 ·obtain rfl:Value.int .i64 y.f=u:=by simpa [encK] using hu
  exact h.2.1
 ·obtain rfl:Value.int .i64 y.t=u:=by simpa [encK] using hu
  exact h.2.2.1
 ·obtain rfl:Value.bool y.a=u:=by simpa [encK] using hu
  exact h.2.2.2
theorem Fz {w:World} {base:Nat} {v:Value} {l:List Lk} (h:Rows w base v l) (hl:l≠[]):∃ g c,v=.slice (some ⟨g,0,none⟩) l.length c∧base≤g∧Own w g c l:=by
 obtain ⟨g,c,e,hg,ho⟩:=Own.iC h (by
  rintro rfl
  obtain ⟨_,⟨_,h2⟩ | ⟨g,cap,cur,hv',_⟩⟩:=h
  ·exact hl (List.eq_nil_of_length_eq_zero h2)
  ·cases hv') rfl
 exact ⟨g,c,e,hg,ho⟩
theorem Cz (m:List Lk) (base:Nat) (v:Value) (w:World) (hR:Rows w base v m) (hm:m≠[]) (hn:m.length≤1000) (hb:base≤w.heap.size) :
  Calls Tryz.prog 194 #[v] w fun e w'=>∃ v' m',e=.returned v'∧m'.Perm m∧m'.Pairwise (fun a b=>¬ cmpK b a<0)∧Rows w' base v' (joinL m')∧Below base w w':=by
 obtain ⟨g,c,rfl,hg,hO⟩:=Fz hR hm
 refine (Cy m g c w hO hn).mono ?_
 rintro e w' ⟨v',m',rfl,h1,h2,h3,h4⟩
 exact ⟨v',m',rfl,h1,h2,h3.mono hb,(Below.refl base w).grown h4 hb (fun k hk=>by simp at hk;omega)⟩
set_option maxHeartbeats 1000000 in
theorem FM (l:List Lk) (x:Lk) (p:Option Addr) (cap B1 B2:Nat) (w:World) (hL:Lies w p l) (h0:fO l x=0) (hb:pQ w B1 B2 p l.length cap x) :
  Calls Tryz.prog 193 #[.pointer (some ⟨B1,0,none⟩),.pointer (some ⟨B2,0,none⟩)] w (pV false l x w):=by
 have h40:=(gJ.1 h0).1.1
 have hm:=fun W (hB:Below w.heap.size w W)=>rH l x p cap W (hL.kept hB) (by omega)
 have hw:=fun W (hB:Below w.heap.size w W)=>jY l x p cap W (hL.kept hB) h40
 have HZ:Aside (fO l x=0):=h0
 have HBX:Aside (pQ w B1 B2 p l.length cap x):=hb
 obtain ⟨c0,⟨c1,c2,c3,c4⟩,hb1,hb2⟩:=hb
 generalize l.length=n at hw hm c0 HBX
 clear hL h0
 go_enter Tryz.func193,Tryz.ntmps193
 go_wp2_with (go_at_call 31;refine (hm _ (Below.refl _ _)).mono ?_;clear hm;rintro r w1 ⟨y,b,rfl,hM,hB⟩;have HM:Aside (l.any (clash x)=b):=hM.any;have HB1:Aside (Below w.heap.size w w1):=hB;obtain ⟨d0,⟨d1,d2,d3,d4⟩,hd1,hd2⟩:=HBX.out.kept hB;clear hM hB;cases b)
 ·have hW0:Below w.heap.size w (w1.alloc (.cells #[.int .i64 y.o, .int .i64 y.f, .int .i64 y.t, .bool y.a] 58)):=HB1.out.alloc HB1.out.size _
  obtain ⟨d0,⟨d1,d2,d3,d4⟩,hd1,hd2⟩:=HBX.out.kept hW0
  generalize w1.alloc (.cells #[.int .i64 y.o, .int .i64 y.f, .int .i64 y.t, .bool y.a] 58)=W0 at *
  have HT:Aside (∀ m:List Lk,m.Perm (aN l x++[x])→m.Pairwise (fun a b=>¬ cmpK b a<0)→dW (joinL m)∧kK false l x (joinL m)):=fun m hp hs=>FP HZ.out HM.out hp hs
  have HLn:Aside ((aN l x).length≤80):=by have:=uD l x;show _≤_;omega
  clear HZ HBX c0 c1 c2 c3 c4 h40
  have hB0:=hW0.size
  go_region_law (first
   | (refine xK rfl _ _ rfl W0.heap.size v (aN l x) (by first | (simp [Act.eval];done) | fail) (hR.below ((Grown.refl w2).alloc _).below) (by have:=HLn.out;omega) (by simp;omega) w2.heap.size x (by first | (simp [Act.eval];done) | fail) (jE w2 x _ rfl) ?_;clear hgo;intro v3 w3 hR3 hB3;have hs3:=hB3.size;(try simp at hs3);have hBB3:Below W0.heap.size W0 w3:=hBB.trans (Below.trans (by first | exact ((Grown.refl w2).alloc _).below.mono (by omega) | exact Below.refl _ _) hB3);clear hB3)
   | (refine xK rfl _ _ rfl W0.heap.size v (aN l x) (by first | (simp [Act.eval];done) | fail) hR (by have:=HLn.out;omega) (by omega) W0.heap.size x (by first | (simp [Act.eval];done) | fail) (Bw hq) ?_;clear hgo;intro v3 w3 hR3 hB3;have hs3:=hB3.size;(try simp at hs3);have hBB3:Below W0.heap.size W0 w3:=hBB.trans (Below.trans (by first | exact ((Grown.refl w2).alloc _).below.mono (by omega) | exact Below.refl _ _) hB3);clear hB3)
   | (go_simp;go_at_call 195;refine (hw _ hW0.drew).mono ?_;clear hw;rintro e w2 ⟨v,rfl,hR,hB2⟩;replace hR:=hR.mono (Nat.le_refl W0.heap.size);have hBB:Below W0.heap.size W0 w2:=(Below.refl _ W0).drew.trans hB2;have hq:True:=trivial;clear hB2;obtain ⟨e1,e2,e3,e4⟩:w2.cell? ⟨B2,0,none⟩=some (.int .i64 x.o)∧w2.cell? ⟨B2,1,none⟩=some (.int .i64 x.f)∧w2.cell? ⟨B2,2,none⟩=some (.int .i64 x.t)∧w2.cell? ⟨B2,3,none⟩=some (.bool x.a):=⟨(hBB.cell (p:=⟨B2,0,none⟩) hd2).trans d1,(hBB.cell (p:=⟨B2,1,none⟩) hd2).trans d2,(hBB.cell (p:=⟨B2,2,none⟩) hd2).trans d3,(hBB.cell (p:=⟨B2,3,none⟩) hd2).trans d4⟩;have hs2:W0.heap.size≤w2.heap.size:=hBB.size;have hgo:True:=trivial)
   | (go_simp;go_at_call 195;refine (hw _ (hW0.alloc hB0 (.cells #[.int .i64 x.o, .int .i64 x.f, .int .i64 x.t, .bool x.a] 58)).drew).mono ?_;clear hw;rintro e w2 ⟨v,rfl,hR,hB2⟩;replace hR:=hR.mono (base':=W0.heap.size) (by simp);have hBX:Below (W0.heap.size+1) (W0.alloc (.cells #[.int .i64 x.o, .int .i64 x.f, .int .i64 x.t, .bool x.a] 58)) w2:=(Below.refl _ _).drew.trans (hB2.mono (by simp));have hBB:Below W0.heap.size W0 w2:=bF hBX;have hq:=(new4 (Nat.lt_succ_self _) hBX).1;clear hB2 hBX;obtain ⟨e1,e2,e3,e4⟩:w2.cell? ⟨B2,0,none⟩=some (.int .i64 x.o)∧w2.cell? ⟨B2,1,none⟩=some (.int .i64 x.f)∧w2.cell? ⟨B2,2,none⟩=some (.int .i64 x.t)∧w2.cell? ⟨B2,3,none⟩=some (.bool x.a):=⟨(hBB.cell (p:=⟨B2,0,none⟩) hd2).trans d1,(hBB.cell (p:=⟨B2,1,none⟩) hd2).trans d2,(hBB.cell (p:=⟨B2,2,none⟩) hd2).trans d3,(hBB.cell (p:=⟨B2,3,none⟩) hd2).trans d4⟩;have hs2:W0.heap.size≤w2.heap.size:=hBB.size;have hgo:True:=trivial)
   | (go_simp;go_at_call 194;refine (Cz (aN l x++[x]) W0.heap.size v3 w3 hR3 (by simp) (by have:=HLn.out;simp;omega) (by omega)).mono ?_;clear hR3;rintro e w4 ⟨v4,m',rfl,hp,hs,hR4,hB4⟩;have HR4:Aside (Rows w4 W0.heap.size v4 (joinL m')):=hR4;have HB4:Aside (Below w.heap.size w w4):=hW0.trans ((hBB3.trans hB4).mono hB0);have HP:Aside (dW (joinL m')∧kK false l x (joinL m')):=HT.out m' hp hs;clear hR4 hB4 hp hs))
  all_goals go_wp2
  all_goals go_ret2
  all_goals exact ⟨v4,0,joinL m',rfl,HR4.out.mono hB0,HB4.out,.inr ⟨rfl,.inr HM.out,HP.out⟩⟩
 ·go_ret2
  exact ⟨.slice none 0 0,13,[],rfl,Rows.nil _ _,HB1.out.alloc HB1.out.size _,.inl ⟨rfl,rfl,rfl,HM.out⟩⟩
end Go.Proofs.YthfeoiffoeagkaaGreatDoor.LK
namespace Go.Proofs.YthfeoiffoeagkaaGreatDoor.LK
open Go.RowKit Go.Sort KM
set_option linter.unusedVariables false
set_option maxRecDepth 100000
theorem Ip (a b:Value) (w:World):Sem.run Tryz.prog (Instr.field 46 (.agg #[a,b]) 0) w=.ok a w:=by
 first | kernel_rfl | simp [go_sem] | rfl
theorem CK {free:Bool} {l:List Lk} {x:Lk} {w w':World} {e:Ending} (h:pV free l x w e w') :
  Aside (Below w.heap.size w w')∧((∃ v,e=.returned (.tuple #[v,.int .i64 13])∧Aside (free=false∧l.any (clash x)=true)) ∨
   ∃ p n c m,e=.returned (.tuple #[.slice p n c,.int .i64 0])∧Aside (n=m.length)∧Aside (Rows w' w.heap.size (.slice p n c) m)∧Aside ((free=true∨l.any (clash x)=false)∧dW m∧kK free l x m)∧((40:Int)<(n:Int)∨¬ (40:Int)<(n:Int))):=by
 obtain ⟨v,err,m,rfl,hR,hB,⟨rfl,rfl,h1⟩ | ⟨rfl,h1⟩⟩:=h
 ·exact ⟨hB,.inl ⟨v,rfl,h1⟩⟩
 ·obtain ⟨p,c,rfl,_,_,_⟩:=hR.form
  exact ⟨hB,.inr ⟨p,m.length,c,m,rfl,rfl,hR,h1,Decidable.em _⟩⟩
abbrev AQ (free:Bool) (l:List Lk) (x:Lk) (w:World) (gf:Nat) (lb:Array Value):Prop :=
 fO l x=0→∀ W,Below w.heap.size w W→Calls Tryz.prog gf lb W (pV free l x W)
theorem IK (l:List Lk) (x:Lk):orL [(bC l).1,(bC [x]).1]=fO l x:=by
 rw [ru]
 unfold fO orL orL orL
 by_cases h:okK x <;> by_cases h1:(bC l).1=0 <;> simp [h,h1]
set_option maxHeartbeats 1000000 in
theorem jy (free:Bool) (l:List Lk) (x:Lk) (p:Option Addr) (cap:Nat) (gf:Nat) (lb:Array Value) (eg:∀ args w,(callFunc gf args).run Tryz.prog w=.ok (.enter gf args) w) (w:World) (hL:Lies w p l) (hn:l.length<4611686018427387904) (hcap:l.length≤cap) (hch:AQ free l x w gf lb) :
  Calls Tryz.prog 192 #[.slice p l.length cap,.agg #[.int .i64 x.o, .int .i64 x.f, .int .i64 x.t, .bool x.a],.func (.func gf) #[] lb] w (mW free l x w):=by
 have hw1:=fun W (hB:Below w.heap.size w W)=>iZ l p cap W (hL.kept hB) hn hcap
 have hw2:∀ (W:World) (H:Nat),H<W.heap.size→(∀ j u,(encK x)[j]?=some u→W.cell? ⟨H,j,none⟩=some u)→Calls Tryz.prog 28 #[.slice (some ⟨H,0,none⟩) 1 1] W (qO [x] W):=fun W H hH hc =>
  iZ [x] (some ⟨H,0,none⟩) 1 W (.inr ⟨H,0,rfl,hH,fun j e he i v hv=>by
   cases j with
   | zero => obtain rfl : x = e:=by simpa using he
             simpa using hc i v hv
   | succ j=>simp at he⟩) (by show 1<_;decide) (by show 1≤1;decide)
 have HP:Aside (orL [(bC l).1,(bC [x]).1]=fO l x):=IK l x
 have HCH:Aside (AQ free l x w gf lb):=hch
 unfold qO at hw1 hw2
 generalize (bC l).1=f1 at hw1 HP
 generalize (bC l).2=f1' at hw1
 generalize (bC [x]).1=f2 at hw2 HP
 generalize (bC [x]).2=f2' at hw2
 generalize l.length=n at *
 clear hch hL
 go_enter Tryz.func192,Tryz.ntmps192
 have hfld:=Ip
 go_wp2
 have hW0:Below w.heap.size w (w.alloc (.cells #[.int .i64 x.o, .int .i64 x.f, .int .i64 x.t, .bool x.a] 58)):=((Grown.refl w).alloc _).below
 obtain ⟨⟨d1,d2,d3,d4⟩,_⟩:=new4 (w:=w) (B:=w.heap.size+1) (Nat.lt_succ_self _) (Below.refl _ (w.alloc (.cells #[.int .i64 x.o, .int .i64 x.f, .int .i64 x.t, .bool x.a] 58)))
 have hd2:w.heap.size<(w.alloc (.cells #[.int .i64 x.o, .int .i64 x.f, .int .i64 x.t, .bool x.a] 58)).heap.size:=by simp
 generalize w.alloc (.cells #[.int .i64 x.o, .int .i64 x.f, .int .i64 x.t, .bool x.a] 58)=W0 at *
 have hB0:=hW0.size
 generalize hpe:fO l x=pe at HP
 have HPE:Aside (fO l x=pe):=hpe
 clear hpe
 go_region_law (first
  | (go_simp;go_at_call 28;refine (hw1 _ hW0.drew).mono ?_;clear hw1;rintro e w2 ⟨rfl,hB2⟩;have hBB:Below W0.heap.size W0 w2:=(Below.refl _ W0).drew.trans hB2;have hq:True:=trivial;clear hB2;obtain ⟨e1,e2,e3,e4⟩:w2.cell? ⟨w.heap.size,0,none⟩=some (.int .i64 x.o)∧w2.cell? ⟨w.heap.size,1,none⟩=some (.int .i64 x.f)∧w2.cell? ⟨w.heap.size,2,none⟩=some (.int .i64 x.t)∧w2.cell? ⟨w.heap.size,3,none⟩=some (.bool x.a):=⟨(hBB.cell (p:=⟨w.heap.size,0,none⟩) hd2).trans d1,(hBB.cell (p:=⟨w.heap.size,1,none⟩) hd2).trans d2,(hBB.cell (p:=⟨w.heap.size,2,none⟩) hd2).trans d3,(hBB.cell (p:=⟨w.heap.size,3,none⟩) hd2).trans d4⟩;have hs2:W0.heap.size≤w2.heap.size:=hBB.size;have hgo:True:=trivial)
  | (go_simp;go_at_call 28;refine (hw1 _ (hW0.alloc hB0 (.cells #[.int .i64 x.o, .int .i64 x.f, .int .i64 x.t, .bool x.a] 58)).drew).mono ?_;clear hw1;rintro e w2 ⟨rfl,hB2⟩;have hBX:Below (W0.heap.size+1) (W0.alloc (.cells #[.int .i64 x.o, .int .i64 x.f, .int .i64 x.t, .bool x.a] 58)) w2:=(Below.refl _ _).drew.trans (hB2.mono (by simp));have hBB:Below W0.heap.size W0 w2:=bF hBX;have hq:=(new4 (Nat.lt_succ_self _) hBX).1;have hq2:W0.heap.size<w2.heap.size:=(by have:=hBX.size;simp at this;omega);clear hB2 hBX;obtain ⟨e1,e2,e3,e4⟩:w2.cell? ⟨w.heap.size,0,none⟩=some (.int .i64 x.o)∧w2.cell? ⟨w.heap.size,1,none⟩=some (.int .i64 x.f)∧w2.cell? ⟨w.heap.size,2,none⟩=some (.int .i64 x.t)∧w2.cell? ⟨w.heap.size,3,none⟩=some (.bool x.a):=⟨(hBB.cell (p:=⟨w.heap.size,0,none⟩) hd2).trans d1,(hBB.cell (p:=⟨w.heap.size,1,none⟩) hd2).trans d2,(hBB.cell (p:=⟨w.heap.size,2,none⟩) hd2).trans d3,(hBB.cell (p:=⟨w.heap.size,3,none⟩) hd2).trans d4⟩;have hs2:W0.heap.size≤w2.heap.size:=hBB.size;have hgo:True:=trivial)
  | (go_simp;go_at_call 28;refine (hw2 _ W0.heap.size hq2 (fun j u hu=>by have:=Bw hq j u hu;rwa [Addr.add_lit,Nat.zero_add] at this)).mono ?_;clear hgo;rintro e w3 ⟨rfl,hB3⟩;have hBB3:Below W0.heap.size W0 w3:=hBB.trans (hB3.mono hs2);clear hB3 hw2;have hs3:=hBB3.size)
  | (go_simp;go_at_call 28;refine (hw2 _ w2.heap.size (by simp) (fun j u hu=>by have:=jE w2 x _ rfl j u hu;rwa [Addr.add_lit,Nat.zero_add] at this)).mono ?_;clear hgo;rintro e w3 ⟨rfl,hB3⟩;have hBB3:Below W0.heap.size W0 w3:=hBB.trans ((((Grown.refl w2).alloc _).below.trans (hB3.mono (by simp))).mono hs2);clear hB3 hw2;have hs3:=hBB3.size)
  | (go_simp;go_at_call 157;refine (GA f1 f2 w3.heap.size _ (by simp) (by simp)).mono ?_;rintro e w4 ⟨rfl,hw4⟩;subst hw4;rw [HP.out]))
 all_goals (have hB3:Below w.heap.size w (w3.alloc (.cells #[.int .i64 f1,.int .i64 f2] 31)):=(hW0.trans (hBB3.mono hB0)).alloc (by omega) _)
 all_goals clear hBB hBB3 e1 e2 e3 e4 d1 d2 d3 d4
 all_goals (generalize w3.alloc (.cells #[.int .i64 f1,.int .i64 f2] 31)=W4 at *)
 all_goals (
  by_cases hpe0:pe=0
  ·subst hpe0
   have hch:=HCH.out HPE.out _ hB3
   go_wp2_with (go_at_fn gf;refine hch.mono ?_;clear hch;intro e w5 hM;obtain ⟨HB5,⟨v,rfl,H1⟩ | ⟨p5,n5,c5,m,rfl,HN5,HR5,H1,h40 | h40⟩⟩:=CK hM <;> clear hM)
   ·go_ret2
    exact ⟨.slice none 0 0,13,[],rfl,Rows.nil _ _,.inr (.inl ⟨HPE.out,H1.out.1,H1.out.2,rfl,rfl⟩),Below.onto hB3 HB5.out⟩
   ·go_ret2
    exact ⟨.slice none 0 0,5,[],rfl,Rows.nil _ _,.inr (.inr ⟨HPE.out,H1.out.1,m,H1.out.2.1,H1.out.2.2,.inl ⟨by have:=HN5.out;omega,rfl,rfl⟩⟩),Below.onto hB3 HB5.out⟩
   ·go_ret2
    exact ⟨.slice p5 n5 c5,0,m,rfl,HR5.out.mono hB3.size,.inr (.inr ⟨HPE.out,H1.out.1,m,H1.out.2.1,H1.out.2.2,.inr ⟨by have:=HN5.out;omega,rfl,rfl⟩⟩),Below.onto hB3 HB5.out⟩
  ·go_wp2
   go_ret2
   exact ⟨.slice none 0 0,pe,[],rfl,Rows.nil _ _,.inl ⟨by rw [HPE.out];exact hpe0,HPE.out.symm,rfl⟩,hB3⟩)
theorem wO (w:World) (p:Option Addr) (n cap:Nat) (x:Lk):pQ ((w.alloc (.cells #[.slice p n cap] 60)).alloc (.cells #[.int .i64 x.o, .int .i64 x.f, .int .i64 x.t, .bool x.a] 58)) w.heap.size (w.heap.size+1) p n cap x:=by
 have e:w.heap.size+1=(w.alloc (.cells #[.slice p n cap] 60)).heap.size:=by simp
 have h4:=(Ig (X:=w.alloc (.cells #[.slice p n cap] 60)) (t:=58) (a:=.int .i64 x.o) (b:=.int .i64 x.f) (c:=.int .i64 x.t) (d:=.bool x.a) e (Below.refl _ _)).1
 exact ⟨Lib.cell?_alloc_some _ (by simp),h4,by simp;omega,by simp⟩
theorem Gh (l:List Lk) (x:Lk) (p:Option Addr) (cap:Nat) (w:World) (hL:Lies w p l) (hn:l.length<4611686018427387904) (hcap:l.length≤cap) :
  Calls Tryz.prog 142 #[.slice p l.length cap,.agg #[.int .i64 x.o, .int .i64 x.f, .int .i64 x.t, .bool x.a]] w (mW true l x w):=by
 have eg:∀ args w,(callFunc 196 args).run Tryz.prog w=.ok (.enter 196 args) w:=enters_of Tryz.func196 (by kernel_rfl) rfl
 have hG:Grown w ((w.alloc (.cells #[.slice p l.length cap] 60)).alloc (.cells #[.int .i64 x.o, .int .i64 x.f, .int .i64 x.t, .bool x.a] 58)):=((Grown.refl w).alloc _).alloc _
 have hc:=jy true l x p cap 196 #[.pointer (some ⟨w.heap.size,0,none⟩),.pointer (some ⟨w.heap.size+1,0,none⟩)] eg _ (hL.grown hG) hn hcap (fun h0 W hB=>oh l x p cap w.heap.size (w.heap.size+1) W ((hL.grown hG).kept hB) h0 ((wO w p l.length cap x).kept hB))
 generalize l.length=n at *
 clear eg hL
 go_enter Tryz.func142,Tryz.ntmps142
 go_wp2_with (go_at_call 192;refine hc.mono ?_;clear hc;rintro e w1 ⟨v,err,m,rfl,hR,hS,hB⟩;have HR:Aside (Rows w1 w.heap.size v m):=hR.mono (by simp;omega);have HS:Aside (fT true l x err m):=hS;have HB:Aside (Below w.heap.size w w1):=hG.below.trans (hB.mono (by simp;omega));clear hR hS hB)
 go_ret2
 exact ⟨v,err,m,rfl,HR.out,HS.out,HB.out⟩
theorem Ht (l:List Lk) (x:Lk) (p:Option Addr) (cap:Nat) (w:World) (hL:Lies w p l) (hn:l.length<4611686018427387904) (hcap:l.length≤cap) :
  Calls Tryz.prog 141 #[.slice p l.length cap,.agg #[.int .i64 x.o, .int .i64 x.f, .int .i64 x.t, .bool x.a]] w (mW false l x w):=by
 have eg:∀ args w,(callFunc 193 args).run Tryz.prog w=.ok (.enter 193 args) w:=enters_of Tryz.func193 (by kernel_rfl) rfl
 have hG:Grown w ((w.alloc (.cells #[.slice p l.length cap] 60)).alloc (.cells #[.int .i64 x.o, .int .i64 x.f, .int .i64 x.t, .bool x.a] 58)):=((Grown.refl w).alloc _).alloc _
 have hc:=jy false l x p cap 193 #[.pointer (some ⟨w.heap.size,0,none⟩),.pointer (some ⟨w.heap.size+1,0,none⟩)] eg _ (hL.grown hG) hn hcap (fun h0 W hB=>FM l x p cap w.heap.size (w.heap.size+1) W ((hL.grown hG).kept hB) h0 ((wO w p l.length cap x).kept hB))
 generalize l.length=n at *
 clear eg hL
 go_enter Tryz.func141,Tryz.ntmps141
 go_wp2_with (go_at_call 192;refine hc.mono ?_;clear hc;rintro e w1 ⟨v,err,m,rfl,hR,hS,hB⟩;have HR:Aside (Rows w1 w.heap.size v m):=hR.mono (by simp;omega);have HS:Aside (fT false l x err m):=hS;have HB:Aside (Below w.heap.size w w1):=hG.below.trans (hB.mono (by simp;omega));clear hR hS hB)
 go_ret2
 exact ⟨v,err,m,rfl,HR.out,HS.out,HB.out⟩
end Go.Proofs.YthfeoiffoeagkaaGreatDoor.LK
