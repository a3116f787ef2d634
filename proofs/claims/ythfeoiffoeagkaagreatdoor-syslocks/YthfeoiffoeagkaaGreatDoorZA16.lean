/-
  What (*sys.walk).hop and (*sys.walk).goOn answer.
-/
import Derived.Test.YthfeoiffoeagkaaGreatDoorZA13
import Derived.Test.YthfeoiffoeagkaaGreatDoorShelfS
namespace Go.Proofs.YthfeoiffoeagkaaGreatDoor
open Go.RowKit PM Go.Sort
set_option linter.unusedVariables false
def fI (w:World) (p:Option Addr) (bs:List ByteArray):Prop:=bs=[]∨∃ b off,p=some ⟨b,off,none⟩∧b<w.heap.size∧∀ j x,bs[j]?=some x→w.cell? ⟨b,off+j,none⟩=some (.string x)
theorem fI.kept {w W:World} {p:Option Addr} {bs:List ByteArray} (h:fI w p bs) (hB:Below w.heap.size w W):fI W p bs:=by
 rcases h with h | ⟨b,off,hp,hb,hc⟩
 ·exact .inl h
 ·exact .inr ⟨b,off,hp,Nat.lt_of_lt_of_le hb hB.size,fun j x hx=>(hB.cell (p:=⟨b,off+j,none⟩) hb).trans (hc j x hx)⟩
theorem fI.gby {w W:World} {p:Option Addr} {bs:List ByteArray} {B:Nat} (h:fI w p bs) (hG:w.grownBy W (some B)) (hne:bs≠[]→∀ b off s,p=some ⟨b,off,s⟩→b≠B):fI W p bs:=by
 by_cases h0:bs=[]
 ·exact .inl h0
 ·rcases h with h | ⟨b,off,hp,hb,hc⟩
  ·exact absurd h h0
  ·exact .inr ⟨b,off,hp,Nat.lt_of_lt_of_le hb hG.size,fun j x hx=>(gN hG (a:=⟨b,off+j,none⟩) hb (hne h0 b off none hp)).trans (hc j x hx)⟩
theorem Strs.vC {w:World} {base:Nat} {v:Value} {bs:List ByteArray} (h:Strs w base v bs):∃ p c,v=.slice p bs.length c∧fI w p bs∧bs.length≤c∧(p=none→c=0)∧∀ b off s,p=some ⟨b,off,s⟩→base≤b:=by
 obtain ⟨h1,⟨rfl,h2⟩ | ⟨g,cap,cur,rfl,hg,hh,hnc,hm,hs,ht⟩⟩:=h
 ·have:bs=[]:=List.eq_nil_of_length_eq_zero h2
  subst this
  exact ⟨none,0,rfl,.inl rfl,Nat.le_refl _,fun _=>rfl,nofun⟩
 ·refine ⟨_,cap,rfl,.inr ⟨g,0,rfl,(Array.getElem?_eq_some_iff.1 hh).1,fun j x hx=>?_⟩,hnc,nofun,fun b off s e=>by cases e;exact hg⟩
  have hj:=(List.getElem?_eq_some_iff.1 hx).1
  have hc:cur[j]?=some (.string x):=by
   have h3:(bs.map Value.string)[j]?=some (.string x):=by rw [List.getElem?_map,hx];rfl
   rw [← ht,List.getElem?_take] at h3
   split at h3
   ·rw [← Array.getElem?_toList];exact h3
   ·cases h3
  simp [World.cell?,hh,hc]
theorem sZ {ops:Array Oper} {rest:List Oper} {o:Oper} {a:Act} {Q:Exit→Act→World→Prop} (X:World) (hgd:o.guard=none) (s x:Operand)
  (ho:o.op=.call { callee:=.builtin .append,args:=#[s,x],argTypes:=#[36,36] }) (base:Nat) (v:Value) (l:List ByteArray) (hs:a.eval s=v) (hrow:Strs X base v l) (hbase:base≤X.heap.size)
  (p:Option Addr) (n c:Nat) (m:List ByteArray) (hx:a.eval x=.slice p n c) (hn:n=m.length) (hL:fI X p m) (hnil:p=none→c=0) (hlen:(l.length+m.length)*16≤140737488355328)
  (h:∀ v' w',Strs w' base v' (l++m)→Below base X w'→wpList Tryz.prog ops Q rest (a.put o.dst v') w') :
  wpList Tryz.prog ops Q (o::rest) a X:=by
 obtain ⟨i0,hi,hz0,hz1,hz2⟩:=Ct
 subst hn
 cases p with
 | none =>
  obtain rfl:c=0:=hnil rfl
  have hm:m=[]:=by
   rcases hL with h | ⟨b,off,he,_⟩
   ·exact h
   ·cases he
  subst hm
  refine wpList_append_own_none hgd s x 36 ho base 9 i0 1 Tryz.underlying36 hi v _ _ hs hrow hx ?_
  exact h v X (by simpa using hrow) (Below.refl _ _)
 | some ad =>
  refine wpList_append_own X hgd s x 36 ho base 9 i0 _ 1 16 Tryz.underlying36 hi hz0 hz1 hz2 rfl (by decide) _ _ _ hs hrow ad m.length c (m.map Value.string) hx (by simp) (fun j u hu=>?_) (fun u hu=>by obtain ⟨y,_,rfl⟩:=List.mem_map.1 hu;rfl) (by unfold maxLen;omega) (by omega) hbase ?_
  ·rw [List.getElem?_map] at hu
   obtain ⟨y,hy,rfl⟩:=Option.map_eq_some_iff.1 hu
   rcases hL with h0 | ⟨b,off,he,_,hc⟩
   ·rw [h0] at hy;simp at hy
   ·cases he
    rw [Addr.add_lit]
    exact hc j y hy
  ·intro v' w' hown hgrow _
   refine h v' w' (by simpa [Strs] using hown) ((Below.refl base X).grown hgrow hbase (fun j hj=>(World.ownsRow.lt hrow j hj).1))
structure WkAt (W:World) (B:Nat) (a:ByteArray) (p:Option Addr) (bs:List ByteArray) (c h:Nat):Prop where
 c0:W.cell? ⟨B,0,none⟩=some (.string a)
 c1:W.cell? ⟨B,1,none⟩=some (.slice p bs.length c)
 c2:W.cell? ⟨B,2,none⟩=some (.int .i64 h)
 f0:W.frozen? ⟨B,0,none⟩=false
 f1:W.frozen? ⟨B,1,none⟩=false
 f2:W.frozen? ⟨B,2,none⟩=false
 lies:fI W p bs
 far:bs≠[]→∀ b off s,p=some ⟨b,off,s⟩→b≠B
 cap:bs.length≤c
 nil:p=none→c=0
theorem WkAt.lt {W:World} {B:Nat} {a:ByteArray} {p:Option Addr} {bs:List ByteArray} {c h:Nat} (k:WkAt W B a p bs c h):B<W.heap.size:=block_lt_of_cell k.c0
theorem WkAt.kept {W W':World} {B:Nat} {a:ByteArray} {p:Option Addr} {bs:List ByteArray} {c h:Nat} (k:WkAt W B a p bs c h) (hB:Below W.heap.size W W'):WkAt W' B a p bs c h :=
 ⟨(hB.cell (p:=⟨B,0,none⟩) k.lt).trans k.c0,(hB.cell (p:=⟨B,1,none⟩) k.lt).trans k.c1,(hB.cell (p:=⟨B,2,none⟩) k.lt).trans k.c2,(hB.frozen (p:=⟨B,0,none⟩) k.lt).trans k.f0,(hB.frozen (p:=⟨B,1,none⟩) k.lt).trans k.f1,(hB.frozen (p:=⟨B,2,none⟩) k.lt).trans k.f2,k.lies.kept hB,k.far,k.cap,k.nil⟩
theorem kU {W:World} {a p:Addr} {v:Value}:(W.setCell a v).frozen? p=W.frozen? p:=by
 first | exact World.frozen?_setCell .. | simp
theorem gby1 (W:World) (B i:Nat) (v:Value):W.grownBy (W.setCell ⟨B,i,none⟩ v) (some B):=aY (fG W _) i v
theorem WkAt.setH {W:World} {B:Nat} {a:ByteArray} {p:Option Addr} {bs:List ByteArray} {c h:Nat} (k:WkAt W B a p bs c h) {h':Nat} {v:Int} (hv:v=h'):WkAt (W.setCell ⟨B,2,none⟩ (.int .i64 v)) B a p bs c h':=by
 subst hv
 have ne:∀ j:Nat,j≠2→(⟨B,2,none⟩:Addr)≠⟨B,j,none⟩:=fun j hj e=>hj (congrArg Addr.off e).symm
 exact ⟨by rw [World.cell?_setCell_other (h:=ne 0 (by decide))];exact k.c0,by rw [World.cell?_setCell_other (h:=ne 1 (by decide))];exact k.c1,World.cell?_setCell_same' _ _ _ (by rw [k.c2];rfl),by rw [kU];exact k.f0,by rw [kU];exact k.f1,by rw [kU];exact k.f2,k.lies.gby (gby1 W B 2 _) k.far,k.far,k.cap,k.nil⟩
theorem WkAt.setA {W:World} {B:Nat} {a:ByteArray} {p:Option Addr} {bs:List ByteArray} {c h:Nat} (k:WkAt W B a p bs c h) (a':ByteArray):WkAt (W.setCell ⟨B,0,none⟩ (.string a')) B a' p bs c h:=by
 have ne:∀ j:Nat,j≠0→(⟨B,0,none⟩:Addr)≠⟨B,j,none⟩:=fun j hj e=>hj (congrArg Addr.off e).symm
 exact ⟨World.cell?_setCell_same' _ _ _ (by rw [k.c0];rfl),by rw [World.cell?_setCell_other (h:=ne 1 (by decide))];exact k.c1,by rw [World.cell?_setCell_other (h:=ne 2 (by decide))];exact k.c2,by rw [kU];exact k.f0,by rw [kU];exact k.f1,by rw [kU];exact k.f2,k.lies.gby (gby1 W B 0 _) k.far,k.far,k.cap,k.nil⟩
theorem WkAt.setN {W:World} {B:Nat} {a:ByteArray} {p:Option Addr} {bs:List ByteArray} {c h:Nat} (k:WkAt W B a p bs c h) {p':Option Addr} {bs':List ByteArray} {n' c':Nat} (hn:n'=bs'.length) (hl:fI W p' bs') (hf:bs'≠[]→∀ b off s,p'=some ⟨b,off,s⟩→b≠B) (hc:bs'.length≤c') (hnil:p'=none→c'=0) :
  WkAt (W.setCell ⟨B,1,none⟩ (.slice p' n' c')) B a p' bs' c' h:=by
 subst hn
 have ne:∀ j:Nat,j≠1→(⟨B,1,none⟩:Addr)≠⟨B,j,none⟩:=fun j hj e=>hj (congrArg Addr.off e).symm
 exact ⟨by rw [World.cell?_setCell_other (h:=ne 0 (by decide))];exact k.c0,World.cell?_setCell_same' _ _ _ (by rw [k.c1];rfl),by rw [World.cell?_setCell_other (h:=ne 2 (by decide))];exact k.c2,by rw [kU];exact k.f0,by rw [kU];exact k.f1,by rw [kU];exact k.f2,hl.gby (gby1 W B 1 _) hf,hf,hc,hnil⟩
def bV (B:Nat) (err:Int) (a:List UInt8) (ns:List (List UInt8)) (h:Nat) (W:World) (r:Ending) (W':World):Prop :=
 ∃ a' p bs c,r=.returned (.int .i64 err)∧WkAt W' B a' p bs c h∧a'.data.toList=a∧bs.map (·.data.toList)=ns∧W.grownBy W' (some B)
theorem bS {w W:World} {g:Nat} (h:Below w.heap.size w W):w.grownBy W (some g):=bf (fG w _) h
theorem JJ (W:World) (B:Nat) (a:ByteArray) (p:Option Addr) (bs:List ByteArray) (c h:Nat) (t:ByteArray) (k:WkAt W B a p bs c h) (hh:8<h+1) (h8:h≤8) :
  Calls Tryz.prog 213 #[.pointer (some ⟨B,0,none⟩),.string t] W (bV B 12 a.data.toList (bs.map (·.data.toList)) (h+1) W):=by
 have K2:Aside (WkAt (W.setCell ⟨B,2,none⟩ (.int .i64 ((h:Int)+1))) B a p bs c (h+1)):=k.setH (by omega)
 obtain ⟨c0,c1,c2,f0,f1,f2,_⟩:=k
 have hz:(8:Int)<(h:Int)+1:=by omega
 go_enter Tryz.func213,Tryz.ntmps213
 go_wp2
 go_ret
 exact ⟨a,p,bs,c,rfl,K2.out,rfl,rfl,gby1 W B 2 _⟩
theorem rV (l:List UInt8):Lib.hasPrefix l (⟨#[47]⟩:ByteArray).data.toList=slash l:=by
 unfold slash Lib.hasPrefix
 cases l with
 | nil=>rfl
 | cons x r =>
  show ([47]:List UInt8).isPrefixOf (x::r)=(some x == some 47)
  simp only [List.isPrefixOf,Bool.and_true]
  rw [Bool.eq_iff_iff]
  simp
  exact eq_comm
abbrev PsC (w:World) (t:ByteArray) (l:List (List UInt8)) (n:Int):Prop:=∀ W,w.heap.size≤W.heap.size→W.cell? ⟨0,0,none⟩=w.cell? ⟨0,0,none⟩→Calls Tryz.prog 170 #[.string t] W (dG W l n)
theorem bH {w w':World} {l:List (List UInt8)} {n:Int} {e:Ending} (h:dG w l n e w'):∃ p k c bs,e=.returned (.tuple #[.slice p k c,.int .i64 n])∧Aside (k=bs.length∧Strs w' w.heap.size (.slice p k c) bs∧bs.map (·.data.toList)=l)∧Aside (Below w.heap.size w w'):=by
 obtain ⟨⟨v,bs,rfl,hS,hl⟩,hB⟩:=h
 obtain ⟨p,c,rfl,_⟩:=hS.vC
 exact ⟨p,bs.length,c,bs,rfl,⟨rfl,hS,hl⟩,hB⟩
theorem JK (W:World) (B:Nat) (a:ByteArray) (p:Option Addr) (bs:List ByteArray) (c h:Nat) (t:ByteArray) (k:WkAt W B a p bs c h) (hh:¬ 8<h+1) (hB0:B≠0) (pe:Int) (hpe:¬ pe=0) (l:List (List UInt8)) (hps:PsC W t l pe) :
  Calls Tryz.prog 213 #[.pointer (some ⟨B,0,none⟩),.string t] W (bV B pe a.data.toList (bs.map (·.data.toList)) (h+1) W):=by
 have K2:Aside (WkAt (W.setCell ⟨B,2,none⟩ (.int .i64 ((h:Int)+1))) B a p bs c (h+1)):=k.setH (by omega)
 have hps2:=hps (W.setCell ⟨B,2,none⟩ (.int .i64 ((h:Int)+1))) (by simp [World.setCell]) (World.cell?_setCell_other (h:=fun e=>hB0 (congrArg Addr.block e)) ..)
 clear hps
 obtain ⟨c0,c1,c2,f0,f1,f2,_⟩:=k
 have hz:¬ (8:Int)<(h:Int)+1:=by omega
 go_enter Tryz.func213,Tryz.ntmps213
 go_wp2_with (go_at_call 170;refine hps2.mono ?_;clear hps2;intro e w1 hE;obtain ⟨p1,k1,c1',bs1,rfl,HS1,HB1⟩:=bH hE;clear hE)
 go_ret
 exact ⟨a,p,bs,c,rfl,K2.out.kept HB1.out,rfl,rfl,bf (gby1 W B 2 _) HB1.out⟩
set_option maxHeartbeats 1000000 in
theorem JL (W:World) (B:Nat) (a:ByteArray) (p:Option Addr) (bs:List ByteArray) (c h:Nat) (t:ByteArray) (k:WkAt W B a p bs c h) (hh:¬ 8<h+1) (hB0:B≠0) (l:List (List UInt8)) (hps:PsC W t l 0) (hll:l.length≤100) (hbl:bs.length≤1000) (hsl:slash t.data.toList=true) :
  Calls Tryz.prog 213 #[.pointer (some ⟨B,0,none⟩),.string t] W (bV B 0 [] (l++bs.map (·.data.toList)) (h+1) W):=by
 have K2:Aside (WkAt (W.setCell ⟨B,2,none⟩ (.int .i64 ((h:Int)+1))) B a p bs c (h+1)):=k.setH (by omega)
 have hps2:=hps (W.setCell ⟨B,2,none⟩ (.int .i64 ((h:Int)+1))) (by simp [World.setCell]) (World.cell?_setCell_other (h:=fun e=>hB0 (congrArg Addr.block e)) ..)
 have hpf:=fun X=>Tryz.strings_HasPrefix t ⟨#[47]⟩ X
 have hpe:Lib.hasPrefix t.data.toList (⟨#[47]⟩:ByteArray).data.toList=true:=by rw [← hsl];exact rV _
 rw [hpe] at hpf
 have HL:Aside (l.length≤100∧bs.length≤1000):=⟨hll,hbl⟩
 obtain ⟨n0,hn0⟩:∃ n0,n0=bs.length:=⟨_,rfl⟩
 have HN0:Aside (n0=bs.length):=hn0
 clear hps hpe hsl hll hbl
 obtain ⟨c0,c1,c2,f0,f1,f2,_⟩:=k
 rw [← hn0] at c1
 clear hn0
 have hz:¬ (8:Int)<(h:Int)+1:=by omega
 go_enter Tryz.func213,Tryz.ntmps213
 go_wp2_with (first
  | (go_at_call 170;refine hps2.mono ?_;clear hps2;intro e w1 hE;obtain ⟨p1,k1,cc1,bs1,rfl,HS1,HB1⟩:=bH hE;clear hE;have HK1:Aside (WkAt w1 B a p bs c (h+1)):=K2.out.kept HB1.out;obtain ⟨d0,d1,d2,g0,g1,g2,_⟩:=HK1.out;rw [← HN0.out] at d1)
  | (at_builtin;have hlen:(bs1.length+bs.length)*16≤140737488355328:=(by have h1:=HL.out.1;have h2:=HL.out.2;have h3:=congrArg List.length HS1.out.2.2;simp at h3;omega);refine sZ _ rfl _ _ rfl _ (.slice p1 k1 cc1) bs1 rfl HS1.out.2.1 HB1.out.size p n0 c bs rfl HN0.out HK1.out.lies HK1.out.nil hlen ?_;clear hlen;intro v3 w3 hS3 hB3;have HB3:Aside (Below _ _ w3):=HB1.out.trans hB3;obtain ⟨p3,c3,rfl,hL3,hc3,hn3,hf3⟩:=hS3.vC;obtain ⟨k3,hk3⟩:∃ k3,k3=(bs1++bs).length:=⟨_,rfl⟩;rw [← hk3];have HK3:Aside (WkAt w3 B a p bs c (h+1)):=K2.out.kept HB3.out;have HK4:Aside (WkAt (w3.setCell ⟨B,1,none⟩ (.slice p3 k3 c3)) B a p3 (bs1++bs) c3 (h+1)):=HK3.out.setN hk3 hL3 (fun _ b off s e=>by have:=hf3 b off s e;have:=K2.out.lt;omega) hc3 hn3;clear hS3 hB3 hL3 hf3 hc3 hn3 hk3 d0 d1 d2 g0 g1 g2;obtain ⟨d0,d1,d2,g0,g1,g2,_⟩:=HK3.out;rw [← HN0.out] at d1)
  | (go_at_call 251;refine (hpf _).mono ?_;rintro e wx ⟨rfl,hwx⟩;subst wx;obtain ⟨b0,b1,b2,y0,y1,y2,_⟩:=HK4.out))
 go_ret
 exact ⟨_,p3,bs1++bs,c3,rfl,HK4.out.setA _,rfl,by rw [List.map_append,HS1.out.2.2],aY (aY (bf (gby1 W B 2 _) HB3.out) _ _) _ _⟩
set_option maxHeartbeats 1000000 in
theorem JM (W:World) (B:Nat) (a:ByteArray) (p:Option Addr) (bs:List ByteArray) (c h:Nat) (t:ByteArray) (k:WkAt W B a p bs c h) (hh:¬ 8<h+1) (hB0:B≠0) (l:List (List UInt8)) (hps:PsC W t l 0) (hll:l.length≤100) (hbl:bs.length≤1000) (hsl:slash t.data.toList=false) :
  Calls Tryz.prog 213 #[.pointer (some ⟨B,0,none⟩),.string t] W (bV B 0 a.data.toList (l++bs.map (·.data.toList)) (h+1) W):=by
 have K2:Aside (WkAt (W.setCell ⟨B,2,none⟩ (.int .i64 ((h:Int)+1))) B a p bs c (h+1)):=k.setH (by omega)
 have hps2:=hps (W.setCell ⟨B,2,none⟩ (.int .i64 ((h:Int)+1))) (by simp [World.setCell]) (World.cell?_setCell_other (h:=fun e=>hB0 (congrArg Addr.block e)) ..)
 have hpf:=fun X=>Tryz.strings_HasPrefix t ⟨#[47]⟩ X
 have hpe:Lib.hasPrefix t.data.toList (⟨#[47]⟩:ByteArray).data.toList=false:=by rw [← hsl];exact rV _
 rw [hpe] at hpf
 have HL:Aside (l.length≤100∧bs.length≤1000):=⟨hll,hbl⟩
 obtain ⟨n0,hn0⟩:∃ n0,n0=bs.length:=⟨_,rfl⟩
 have HN0:Aside (n0=bs.length):=hn0
 clear hps hpe hsl hll hbl
 obtain ⟨c0,c1,c2,f0,f1,f2,_⟩:=k
 rw [← hn0] at c1
 clear hn0
 have hz:¬ (8:Int)<(h:Int)+1:=by omega
 go_enter Tryz.func213,Tryz.ntmps213
 go_wp2_with (first
  | (go_at_call 170;refine hps2.mono ?_;clear hps2;intro e w1 hE;obtain ⟨p1,k1,cc1,bs1,rfl,HS1,HB1⟩:=bH hE;clear hE;have HK1:Aside (WkAt w1 B a p bs c (h+1)):=K2.out.kept HB1.out;obtain ⟨d0,d1,d2,g0,g1,g2,_⟩:=HK1.out;rw [← HN0.out] at d1)
  | (at_builtin;have hlen:(bs1.length+bs.length)*16≤140737488355328:=(by have h1:=HL.out.1;have h2:=HL.out.2;have h3:=congrArg List.length HS1.out.2.2;simp at h3;omega);refine sZ _ rfl _ _ rfl _ (.slice p1 k1 cc1) bs1 rfl HS1.out.2.1 HB1.out.size p n0 c bs rfl HN0.out HK1.out.lies HK1.out.nil hlen ?_;clear hlen;intro v3 w3 hS3 hB3;have HB3:Aside (Below _ _ w3):=HB1.out.trans hB3;obtain ⟨p3,c3,rfl,hL3,hc3,hn3,hf3⟩:=hS3.vC;obtain ⟨k3,hk3⟩:∃ k3,k3=(bs1++bs).length:=⟨_,rfl⟩;rw [← hk3];have HK3:Aside (WkAt w3 B a p bs c (h+1)):=K2.out.kept HB3.out;have HK4:Aside (WkAt (w3.setCell ⟨B,1,none⟩ (.slice p3 k3 c3)) B a p3 (bs1++bs) c3 (h+1)):=HK3.out.setN hk3 hL3 (fun _ b off s e=>by have:=hf3 b off s e;have:=K2.out.lt;omega) hc3 hn3;clear hS3 hB3 hL3 hf3 hc3 hn3 hk3 d0 d1 d2 g0 g1 g2;obtain ⟨d0,d1,d2,g0,g1,g2,_⟩:=HK3.out;rw [← HN0.out] at d1)
  | (go_at_call 251;refine (hpf _).mono ?_;rintro e wx ⟨rfl,hwx⟩;subst wx;obtain ⟨b0,b1,b2,y0,y1,y2,_⟩:=HK4.out))
 go_ret
 exact ⟨_,p3,bs1++bs,c3,rfl,HK4.out,rfl,by rw [List.map_append,HS1.out.2.2],aY (bf (gby1 W B 2 _) HB3.out) _ _⟩
theorem Iu (W:World) (B:Nat) (a:ByteArray) (p:Option Addr) (bs:List ByteArray) (c h:Nat) (t:ByteArray) (m:Int) (k:WkAt W B a p bs c h) (h8:h≤8) (hB0:B≠0) (hbl:bs.length≤1000) (ht:t.size≤100) (hm:W.cell? ⟨0,0,none⟩=some (.int .i64 m)) :
  Calls Tryz.prog 213 #[.pointer (some ⟨B,0,none⟩),.string t] W (bV B (if 8<h+1 then 12 else (aI t.data.toList).2)
   (if 8<h+1 then a.data.toList else if ¬ (aI t.data.toList).2=0 then a.data.toList else if slash t.data.toList then [] else a.data.toList)
   (if 8<h+1 then bs.map (·.data.toList) else if ¬ (aI t.data.toList).2=0 then bs.map (·.data.toList) else (aI t.data.toList).1++bs.map (·.data.toList)) (h+1) W):=by
 by_cases h1:8<h+1
 ·rw [if_pos h1,if_pos h1,if_pos h1]
  exact JJ W B a p bs c h t k h1 h8
 ·rw [if_neg h1,if_neg h1,if_neg h1]
  have hps:PsC W t (aI t.data.toList).1 (aI t.data.toList).2:=fun X _ hX=>xw t m X (by unfold maxLen;omega) (by rw [hX];exact hm)
  by_cases h2:(aI t.data.toList).2=0
  ·rw [if_neg (not_not_intro h2),if_neg (not_not_intro h2)]
   rw [h2] at hps ⊢
   have:=(rU t.data.toList).1
   cases hs:slash t.data.toList with
   | true=>rw [if_pos rfl];exact JL W B a p bs c h t k h1 hB0 _ hps (by omega) hbl hs
   | false=>rw [if_neg (by decide)];exact JM W B a p bs c h t k h1 hB0 _ hps (by omega) hbl hs
  ·rw [if_pos h2,if_pos h2]
   exact JK W B a p bs c h t k h1 hB0 _ h2 _ hps
end Go.Proofs.YthfeoiffoeagkaaGreatDoor
