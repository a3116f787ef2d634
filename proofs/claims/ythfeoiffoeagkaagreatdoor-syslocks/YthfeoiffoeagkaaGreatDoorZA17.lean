/-
  What (*sys.walk).goOn answers.
-/
import Derived.Test.YthfeoiffoeagkaaGreatDoorZA16
namespace Go.Proofs.YthfeoiffoeagkaaGreatDoor
open Go.RowKit PM Go.Sort
set_option linter.unusedVariables false
abbrev LsC (W:World) (sv:Value) (q:ByteArray) (l:List (List UInt8)) (n:Int):Prop:=∀ X,Below W.heap.size W X→Calls Tryz.prog 134 #[sv,.string q] X (dG X l n)
theorem go_1 (W:World) (B:Nat) (a:ByteArray) (p:Option Addr) (bs:List ByteArray) (c h:Nat) (ps:Option Addr) (sn sc:Nat) (follow:Bool) (k:WkAt W B a p bs c h) (l:List (List UInt8)) (e:Int) (he:¬ e=0) (hls:LsC W (.slice ps sn sc) a l e) :
  Calls Tryz.prog 171 #[.pointer (some ⟨B,0,none⟩),.slice ps sn sc,.bool follow] W (bV B e a.data.toList (bs.map (·.data.toList)) h W):=by
 have K:Aside (WkAt W B a p bs c h):=k
 have hl2:=hls W (Below.refl _ _)
 obtain ⟨c0,c1,c2,f0,f1,f2,_⟩:=k
 clear hls
 go_enter Tryz.func171,Tryz.ntmps171
 go_wp2_with (go_at_call 134;refine hl2.mono ?_;clear hl2;intro r w1 hE;obtain ⟨p1,k1,cc1,bs1,rfl,HS1,HB1⟩:=bH hE;clear hE)
 go_ret
 exact ⟨a,p,bs,c,rfl,K.out.kept HB1.out,rfl,rfl,bS HB1.out⟩
theorem WkAt.cutN {W:World} {B:Nat} {a:ByteArray} {b off:Nat} {x:ByteArray} {bs:List ByteArray} {c h n0:Nat} (k:WkAt W B a (some ⟨b,off,none⟩) (x::bs) c h) (hn:n0=bs.length) (hc:¬ c=1):WkAt (W.setCell ⟨B,1,none⟩ (.slice (some ⟨b,off+1,none⟩) n0 (c-1))) B a (some ⟨b,off+1,none⟩) bs (c-1) h:=by
 have hcap:=k.cap
 rw [List.length_cons] at hcap
 refine k.setN hn ?_ (fun _ b' off' s e=>by cases e;exact k.far (by simp) b off none rfl) (by omega) nofun
 rcases k.lies with h0 | ⟨b',off',e,hb,hcs⟩
 ·cases h0
 ·cases e
  exact .inr ⟨b,off+1,rfl,hb,fun j y hy=>by rw [Nat.add_assoc,Nat.add_comm 1 j];exact hcs (j+1) y (by simpa using hy)⟩
theorem WkAt.cut1 {W:World} {B:Nat} {a:ByteArray} {b off:Nat} {x:ByteArray} {bs:List ByteArray} {h n0:Nat} (k:WkAt W B a (some ⟨b,off,none⟩) (x::bs) 1 h) (hn:n0=bs.length):WkAt (W.setCell ⟨B,1,none⟩ (.slice (some ⟨b,off,none⟩) n0 0)) B a (some ⟨b,off,none⟩) bs 0 h:=by
 have hcap:=k.cap
 rw [List.length_cons] at hcap
 have:bs=[]:=List.eq_nil_of_length_eq_zero (by omega)
 subst this
 exact k.setN hn (.inl rfl) (fun h=>absurd rfl h) (Nat.le_refl _) nofun
abbrev GtD (W:World) (B:Nat) (sv:Value) (q:List UInt8) (xp:ByteArray) (xk:Int) (xt:ByteArray) (xo bb:Bool):Prop:=∀ X (d:ByteArray),d.data.toList=q→Below W.heap.size W X∨(∃ Y,Below W.heap.size W Y∧∃ i v,X=Y.setCell ⟨B,i,none⟩ v)→Calls Tryz.prog 27 #[sv,.string d] X fun r w'=>r=.returned (.tuple #[.agg #[.string xp,.int .i64 xk,.string xt,.bool xo],.bool bb])∧Below X.heap.size X w'
abbrev HpC (W:World) (B:Nat) (a:ByteArray) (bs:List ByteArray) (h:Nat) (t:ByteArray) (e:Int) (ra:List UInt8) (rn:List (List UInt8)):Prop:=∀ X p' c',WkAt X B a p' bs c' h→W.grownBy X (some B)→Calls Tryz.prog 213 #[.pointer (some ⟨B,0,none⟩),.string t] X (bV B e ra rn (h+1) X)
set_option maxHeartbeats 1000000 in
theorem JI (W:World) (B:Nat) (a:ByteArray) (p:Option Addr) (x:ByteArray) (bs:List ByteArray) (c h:Nat) (ps:Option Addr) (sn sc:Nat) (follow:Bool) (k:WkAt W B a p (x::bs) c h) (l:List (List UInt8)) (hls:LsC W (.slice ps sn sc) a l 0) (ha:a.size≤1000) (hbl:bs.length≤1000) (hcc:¬ c=1) (hx:x.data.toList=[46,46]) :
  Calls Tryz.prog 171 #[.pointer (some ⟨B,0,none⟩),.slice ps sn sc,.bool follow] W (bV B 0 (aA a.data.toList) (bs.map (·.data.toList)) h W):=by
 have K:Aside (WkAt W B a p (x::bs) c h):=k
 have hl2:=hls W (Below.refl _ _)
 have hcu:=fun X=>Kj a X (by omega)
 have hx1:(x.toList == [46,46])=true:=beq_lit x _ _ (by rw [hx];rfl)
 have hx2:x.toList=[46,46]:=by rw [Lib.toList_data];exact hx
 rcases k.lies with h0 | ⟨b,off,rfl,hb,hcs⟩
 ·cases h0
 have hx0:=hcs 0 x rfl
 have hne:b≠B:=k.far (by simp) b off none rfl
 have hBW:=k.lt
 have hcap:=k.cap
 rw [List.length_cons] at hcap
 obtain ⟨n0,hn0⟩:∃ n0,n0=bs.length:=⟨_,rfl⟩
 have HN0:Aside (n0=bs.length):=hn0
 rw [← hn0] at hcap hbl
 obtain ⟨c0,c1,c2,f0,f1,f2,_⟩:=k
 rw [List.length_cons,← hn0] at c1
 clear hn0
 clear hls hcs hx
 go_enter Tryz.func171,Tryz.ntmps171
 go_wp2_with (first
  | (go_at_call 134;refine hl2.mono ?_;clear hl2;intro r w1 hE;obtain ⟨p1,k1,cc1,bs1,rfl,HS1,HB1⟩:=bH hE;clear hE;have HK1:Aside (WkAt w1 B a (some ⟨b,off,none⟩) (x::bs) c h):=K.out.kept HB1.out;have HK2:Aside (WkAt (w1.setCell ⟨B,1,none⟩ (.slice (some ⟨b,off+1,none⟩) n0 (c-1))) B a (some ⟨b,off+1,none⟩) bs (c-1) h):=HK1.out.cutN HN0.out hcc;clear c0 c1 c2 f0 f1 f2;obtain ⟨c0,c1,c2,f0,f1,f2,_⟩:=HK1.out;rw [List.length_cons,← HN0.out] at c1;have hx3:w1.cell? ⟨b,off,none⟩=some (.string x):=(HB1.out.cell (p:=⟨b,off,none⟩) hb).trans hx0;have hBw1:B<w1.heap.size:=HK1.out.lt)
  | (go_at_call 162;refine (hcu _).mono ?_;rintro r w2 ⟨⟨d,nm,rfl,hd,hnm⟩,n2,hw2⟩;subst hw2;have HD:Aside (d.data.toList=aA a.data.toList):=hd;clear hd hnm))
 go_ret
 exact ⟨d,_,_,_,rfl,(HK2.out.kept (below_drewN (Below.refl _ _) _)).setA d,HD.out,rfl,aY (bf (aY (bS HB1.out) _ _) (below_drewN (Below.refl _ _) _)) _ _⟩
set_option maxHeartbeats 1000000 in
theorem JH (W:World) (B:Nat) (a:ByteArray) (p:Option Addr) (x:ByteArray) (h:Nat) (ps:Option Addr) (sn sc:Nat) (follow:Bool) (k:WkAt W B a p (x::[]) 1 h) (l:List (List UInt8)) (hls:LsC W (.slice ps sn sc) a l 0) (ha:a.size≤1000) (hx:x.data.toList=[46,46]) :
  Calls Tryz.prog 171 #[.pointer (some ⟨B,0,none⟩),.slice ps sn sc,.bool follow] W (bV B 0 (aA a.data.toList) (([]:List ByteArray).map (·.data.toList)) h W):=by
 have K:Aside (WkAt W B a p (x::[]) 1 h):=k
 have hl2:=hls W (Below.refl _ _)
 have hcu:=fun X=>Kj a X (by omega)
 have hx1:(x.toList == [46,46])=true:=beq_lit x _ _ (by rw [hx];rfl)
 have hx2:x.toList=[46,46]:=by rw [Lib.toList_data];exact hx
 rcases k.lies with h0 | ⟨b,off,rfl,hb,hcs⟩
 ·cases h0
 have hx0:=hcs 0 x rfl
 have hne:b≠B:=k.far (by simp) b off none rfl
 have hBW:=k.lt
 have hcap:=k.cap
 have HN0:Aside ((0:Nat)=([]:List ByteArray).length):=rfl
 have hcap1:1≤1:=hcap
 obtain ⟨c0,c1,c2,f0,f1,f2,_⟩:=k
 have c1:W.cell? ⟨B,1,none⟩=some (.slice (some ⟨b,off,none⟩) 1 1):=c1
 clear hls hcs hx
 go_enter Tryz.func171,Tryz.ntmps171
 go_wp2_with (first
  | (go_at_call 134;refine hl2.mono ?_;clear hl2;intro r w1 hE;obtain ⟨p1,k1,cc1,bs1,rfl,HS1,HB1⟩:=bH hE;clear hE;have HK1:Aside (WkAt w1 B a (some ⟨b,off,none⟩) (x::[]) 1 h):=K.out.kept HB1.out;have HK2:Aside (WkAt (w1.setCell ⟨B,1,none⟩ (.slice (some ⟨b,off,none⟩) 0 0)) B a (some ⟨b,off,none⟩) [] 0 h):=HK1.out.cut1 HN0.out;clear c0 c1 c2 f0 f1 f2;obtain ⟨c0,c1,c2,f0,f1,f2,_⟩:=HK1.out;have c1:w1.cell? ⟨B,1,none⟩=some (.slice (some ⟨b,off,none⟩) 1 1):=c1;have hx3:w1.cell? ⟨b,off,none⟩=some (.string x):=(HB1.out.cell (p:=⟨b,off,none⟩) hb).trans hx0;have hBw1:B<w1.heap.size:=HK1.out.lt)
  | (go_at_call 162;refine (hcu _).mono ?_;rintro r w2 ⟨⟨d,nm,rfl,hd,hnm⟩,n2,hw2⟩;subst hw2;have HD:Aside (d.data.toList=aA a.data.toList):=hd;clear hd hnm))
 go_ret
 exact ⟨d,_,_,_,rfl,(HK2.out.kept (below_drewN (Below.refl _ _) _)).setA d,HD.out,rfl,aY (bf (aY (bS HB1.out) _ _) (below_drewN (Below.refl _ _) _)) _ _⟩
set_option maxHeartbeats 1000000 in
theorem Jj (W:World) (B:Nat) (a:ByteArray) (p:Option Addr) (x:ByteArray) (bs:List ByteArray) (c h:Nat) (ps:Option Addr) (sn sc:Nat) (follow:Bool) (k:WkAt W B a p (x::bs) c h) (l:List (List UInt8)) (hls:LsC W (.slice ps sn sc) a l 0) (ha:a.size≤1000) (hbl:bs.length≤1000) (hcc:¬ c=1) (hx:¬ x.data.toList=[46,46]) (hxs:x.size≤1000) (ep et:ByteArray) (eo eb:Bool) (hgt:GtD W B (.slice ps sn sc) (joinL a.data.toList x.data.toList) ep 3 et eo eb) (hb0:0<bs.length) (he:Int) (ra:List UInt8) (rn:List (List UInt8)) (hhp:HpC W B a bs h et he ra rn) :
  Calls Tryz.prog 171 #[.pointer (some ⟨B,0,none⟩),.slice ps sn sc,.bool follow] W (bV B he ra rn (h+1) W):=by
 have K:Aside (WkAt W B a p (x::bs) c h):=k
 have hl2:=hls W (Below.refl _ _)
 have hjn:=fun X=>kF a x X (by omega)
 have hx1:(x.toList == [46,46])=false:=beq_lit x _ _ (by simpa using hx)
 have hx2:¬ x.toList=[46,46]:=by rw [Lib.toList_data];exact hx
 have HGT:Aside (GtD W B (.slice ps sn sc) (joinL a.data.toList x.data.toList) ep 3 et eo eb):=hgt
 clear hgt
 rcases k.lies with h0 | ⟨b,off,rfl,hb,hcs⟩
 ·cases h0
 have hx0:=hcs 0 x rfl
 have hne:b≠B:=k.far (by simp) b off none rfl
 have hBW:=k.lt
 have hcap:=k.cap
 rw [List.length_cons] at hcap
 obtain ⟨n0,hn0⟩:∃ n0,n0=bs.length:=⟨_,rfl⟩
 have HN0:Aside (n0=bs.length):=hn0
 rw [← hn0] at hcap hbl hb0
 obtain ⟨c0,c1,c2,f0,f1,f2,_⟩:=k
 rw [List.length_cons,← hn0] at c1
 clear hn0
 have hb0z:(0:Int)<(n0:Int):=by omega
 clear hls hcs hx
 go_enter Tryz.func171,Tryz.ntmps171
 go_wp2_with (first
  | (go_at_call 134;refine hl2.mono ?_;clear hl2;intro r w1 hE;obtain ⟨p1,k1,cc1,bs1,rfl,HS1,HB1⟩:=bH hE;clear hE;have HK1:Aside (WkAt w1 B a (some ⟨b,off,none⟩) (x::bs) c h):=K.out.kept HB1.out;have HK2:Aside (WkAt (w1.setCell ⟨B,1,none⟩ (.slice (some ⟨b,off+1,none⟩) n0 (c-1))) B a (some ⟨b,off+1,none⟩) bs (c-1) h):=HK1.out.cutN HN0.out hcc;clear c0 c1 c2 f0 f1 f2;obtain ⟨c0,c1,c2,f0,f1,f2,_⟩:=HK1.out;rw [List.length_cons,← HN0.out] at c1;have hx3:w1.cell? ⟨b,off,none⟩=some (.string x):=(HB1.out.cell (p:=⟨b,off,none⟩) hb).trans hx0;have hBw1:B<w1.heap.size:=HK1.out.lt)
  | (go_at_call 212;refine (hjn _).mono ?_;rintro r w2 ⟨⟨d,rfl,hd⟩,hw2⟩;subst w2;have hge:=HGT.out (w1.setCell ⟨B,1,none⟩ (.slice (some ⟨b,off+1,none⟩) n0 (c-1))) d hd (.inr ⟨w1,HB1.out,1,_,rfl⟩);have HD:Aside (d.data.toList=joinL a.data.toList x.data.toList):=hd;clear hd)
  | (go_at_call 27;refine hge.mono ?_;clear hge;rintro r w3 ⟨rfl,hN3⟩;have HB3:Aside (Below (w1.setCell ⟨B,1,none⟩ (.slice (some ⟨b,off+1,none⟩) n0 (c-1))).heap.size (w1.setCell ⟨B,1,none⟩ (.slice (some ⟨b,off+1,none⟩) n0 (c-1))) (w3.alloc (.cells #[.string ep,.int .i64 3,.string et,.bool eo] 53))):=Below.onto hN3 ((Grown.refl w3).alloc _).below;have HB33:Aside (Below (w1.setCell ⟨B,1,none⟩ (.slice (some ⟨b,off+1,none⟩) n0 (c-1))).heap.size (w1.setCell ⟨B,1,none⟩ (.slice (some ⟨b,off+1,none⟩) n0 (c-1))) w3):=hN3;clear hN3;clear c0 c1 c2 f0 f1 f2;obtain ⟨c0,c1,c2,f0,f1,f2,_⟩:=HK2.out.kept HB33.out;rw [← HN0.out] at c1;have hBw3:B<w3.heap.size:=(HK2.out.kept HB33.out).lt)
  | (go_at_call 213;refine (hhp _ _ _ (HK2.out.kept HB3.out) (bf (aY (bS HB1.out) _ _) HB3.out)).mono ?_;clear hhp;rintro r w4 ⟨a4,p4,bs4,c4,rfl,hk4,ha4,hb4,hg4⟩;have HF:Aside (bV B he ra rn (h+1) W (.returned (.int .i64 he)) w4):=⟨a4,p4,bs4,c4,rfl,hk4,ha4,hb4,om (bf (aY (bS HB1.out) _ _) HB3.out) hg4⟩;clear hk4 ha4 hb4 hg4))
 go_ret
 exact HF.out
set_option maxHeartbeats 1000000 in
theorem Jl (W:World) (B:Nat) (a:ByteArray) (p:Option Addr) (x:ByteArray) (c h:Nat) (ps:Option Addr) (sn sc:Nat) (k:WkAt W B a p (x::[]) c h) (l:List (List UInt8)) (hls:LsC W (.slice ps sn sc) a l 0) (ha:a.size≤1000) (hcc:¬ c=1) (hx:¬ x.data.toList=[46,46]) (hxs:x.size≤1000) (ep et:ByteArray) (eo eb:Bool) (hgt:GtD W B (.slice ps sn sc) (joinL a.data.toList x.data.toList) ep 3 et eo eb) (he:Int) (ra:List UInt8) (rn:List (List UInt8)) (hhp:HpC W B a [] h et he ra rn) :
  Calls Tryz.prog 171 #[.pointer (some ⟨B,0,none⟩),.slice ps sn sc,.bool true] W (bV B he ra rn (h+1) W):=by
 have K:Aside (WkAt W B a p (x::[]) c h):=k
 have hl2:=hls W (Below.refl _ _)
 have hjn:=fun X=>kF a x X (by omega)
 have hx1:(x.toList == [46,46])=false:=beq_lit x _ _ (by simpa using hx)
 have hx2:¬ x.toList=[46,46]:=by rw [Lib.toList_data];exact hx
 have HGT:Aside (GtD W B (.slice ps sn sc) (joinL a.data.toList x.data.toList) ep 3 et eo eb):=hgt
 clear hgt
 rcases k.lies with h0 | ⟨b,off,rfl,hb,hcs⟩
 ·cases h0
 have hx0:=hcs 0 x rfl
 have hne:b≠B:=k.far (by simp) b off none rfl
 have hBW:=k.lt
 have hcap:=k.cap
 have HN0:Aside ((0:Nat)=([]:List ByteArray).length):=rfl
 have hcap1:1≤c:=hcap
 obtain ⟨c0,c1,c2,f0,f1,f2,_⟩:=k
 have c1:W.cell? ⟨B,1,none⟩=some (.slice (some ⟨b,off,none⟩) 1 c):=c1
 clear hls hcs hx
 go_enter Tryz.func171,Tryz.ntmps171
 go_wp2_with (first
  | (go_at_call 134;refine hl2.mono ?_;clear hl2;intro r w1 hE;obtain ⟨p1,k1,cc1,bs1,rfl,HS1,HB1⟩:=bH hE;clear hE;have HK1:Aside (WkAt w1 B a (some ⟨b,off,none⟩) (x::[]) c h):=K.out.kept HB1.out;have HK2:Aside (WkAt (w1.setCell ⟨B,1,none⟩ (.slice (some ⟨b,off+1,none⟩) 0 (c-1))) B a (some ⟨b,off+1,none⟩) [] (c-1) h):=HK1.out.cutN HN0.out hcc;clear c0 c1 c2 f0 f1 f2;obtain ⟨c0,c1,c2,f0,f1,f2,_⟩:=HK1.out;have c1:w1.cell? ⟨B,1,none⟩=some (.slice (some ⟨b,off,none⟩) 1 c):=c1;have hx3:w1.cell? ⟨b,off,none⟩=some (.string x):=(HB1.out.cell (p:=⟨b,off,none⟩) hb).trans hx0;have hBw1:B<w1.heap.size:=HK1.out.lt)
  | (go_at_call 212;refine (hjn _).mono ?_;rintro r w2 ⟨⟨d,rfl,hd⟩,hw2⟩;subst w2;have hge:=HGT.out (w1.setCell ⟨B,1,none⟩ (.slice (some ⟨b,off+1,none⟩) 0 (c-1))) d hd (.inr ⟨w1,HB1.out,1,_,rfl⟩);have HD:Aside (d.data.toList=joinL a.data.toList x.data.toList):=hd;clear hd)
  | (go_at_call 27;refine hge.mono ?_;clear hge;rintro r w3 ⟨rfl,hN3⟩;have HB3:Aside (Below (w1.setCell ⟨B,1,none⟩ (.slice (some ⟨b,off+1,none⟩) 0 (c-1))).heap.size (w1.setCell ⟨B,1,none⟩ (.slice (some ⟨b,off+1,none⟩) 0 (c-1))) (w3.alloc (.cells #[.string ep,.int .i64 3,.string et,.bool eo] 53))):=Below.onto hN3 ((Grown.refl w3).alloc _).below;have HB33:Aside (Below (w1.setCell ⟨B,1,none⟩ (.slice (some ⟨b,off+1,none⟩) 0 (c-1))).heap.size (w1.setCell ⟨B,1,none⟩ (.slice (some ⟨b,off+1,none⟩) 0 (c-1))) w3):=hN3;clear hN3;clear c0 c1 c2 f0 f1 f2;obtain ⟨c0,c1,c2,f0,f1,f2,_⟩:=HK2.out.kept HB33.out;have hBw3:B<w3.heap.size:=(HK2.out.kept HB33.out).lt)
  | (go_at_call 213;refine (hhp _ _ _ (HK2.out.kept HB3.out) (bf (aY (bS HB1.out) _ _) HB3.out)).mono ?_;clear hhp;rintro r w4 ⟨a4,p4,bs4,c4,rfl,hk4,ha4,hb4,hg4⟩;have HF:Aside (bV B he ra rn (h+1) W (.returned (.int .i64 he)) w4):=⟨a4,p4,bs4,c4,rfl,hk4,ha4,hb4,om (bf (aY (bS HB1.out) _ _) HB3.out) hg4⟩;clear hk4 ha4 hb4 hg4))
 go_ret
 exact HF.out
set_option maxHeartbeats 1000000 in
theorem Jk (W:World) (B:Nat) (a:ByteArray) (p:Option Addr) (x:ByteArray) (h:Nat) (ps:Option Addr) (sn sc:Nat) (k:WkAt W B a p (x::[]) 1 h) (l:List (List UInt8)) (hls:LsC W (.slice ps sn sc) a l 0) (ha:a.size≤1000) (hx:¬ x.data.toList=[46,46]) (hxs:x.size≤1000) (ep et:ByteArray) (eo eb:Bool) (hgt:GtD W B (.slice ps sn sc) (joinL a.data.toList x.data.toList) ep 3 et eo eb) (he:Int) (ra:List UInt8) (rn:List (List UInt8)) (hhp:HpC W B a [] h et he ra rn) :
  Calls Tryz.prog 171 #[.pointer (some ⟨B,0,none⟩),.slice ps sn sc,.bool true] W (bV B he ra rn (h+1) W):=by
 have K:Aside (WkAt W B a p (x::[]) 1 h):=k
 have hl2:=hls W (Below.refl _ _)
 have hjn:=fun X=>kF a x X (by omega)
 have hx1:(x.toList == [46,46])=false:=beq_lit x _ _ (by simpa using hx)
 have hx2:¬ x.toList=[46,46]:=by rw [Lib.toList_data];exact hx
 have HGT:Aside (GtD W B (.slice ps sn sc) (joinL a.data.toList x.data.toList) ep 3 et eo eb):=hgt
 clear hgt
 rcases k.lies with h0 | ⟨b,off,rfl,hb,hcs⟩
 ·cases h0
 have hx0:=hcs 0 x rfl
 have hne:b≠B:=k.far (by simp) b off none rfl
 have hBW:=k.lt
 have hcap:=k.cap
 have HN0:Aside ((0:Nat)=([]:List ByteArray).length):=rfl
 have hcap1:1≤1:=hcap
 obtain ⟨c0,c1,c2,f0,f1,f2,_⟩:=k
 have c1:W.cell? ⟨B,1,none⟩=some (.slice (some ⟨b,off,none⟩) 1 1):=c1
 clear hls hcs hx
 go_enter Tryz.func171,Tryz.ntmps171
 go_wp2_with (first
  | (go_at_call 134;refine hl2.mono ?_;clear hl2;intro r w1 hE;obtain ⟨p1,k1,cc1,bs1,rfl,HS1,HB1⟩:=bH hE;clear hE;have HK1:Aside (WkAt w1 B a (some ⟨b,off,none⟩) (x::[]) 1 h):=K.out.kept HB1.out;have HK2:Aside (WkAt (w1.setCell ⟨B,1,none⟩ (.slice (some ⟨b,off,none⟩) 0 0)) B a (some ⟨b,off,none⟩) [] 0 h):=HK1.out.cut1 HN0.out;clear c0 c1 c2 f0 f1 f2;obtain ⟨c0,c1,c2,f0,f1,f2,_⟩:=HK1.out;have c1:w1.cell? ⟨B,1,none⟩=some (.slice (some ⟨b,off,none⟩) 1 1):=c1;have hx3:w1.cell? ⟨b,off,none⟩=some (.string x):=(HB1.out.cell (p:=⟨b,off,none⟩) hb).trans hx0;have hBw1:B<w1.heap.size:=HK1.out.lt)
  | (go_at_call 212;refine (hjn _).mono ?_;rintro r w2 ⟨⟨d,rfl,hd⟩,hw2⟩;subst w2;have hge:=HGT.out (w1.setCell ⟨B,1,none⟩ (.slice (some ⟨b,off,none⟩) 0 0)) d hd (.inr ⟨w1,HB1.out,1,_,rfl⟩);have HD:Aside (d.data.toList=joinL a.data.toList x.data.toList):=hd;clear hd)
  | (go_at_call 27;refine hge.mono ?_;clear hge;rintro r w3 ⟨rfl,hN3⟩;have HB3:Aside (Below (w1.setCell ⟨B,1,none⟩ (.slice (some ⟨b,off,none⟩) 0 0)).heap.size (w1.setCell ⟨B,1,none⟩ (.slice (some ⟨b,off,none⟩) 0 0)) (w3.alloc (.cells #[.string ep,.int .i64 3,.string et,.bool eo] 53))):=Below.onto hN3 ((Grown.refl w3).alloc _).below;have HB33:Aside (Below (w1.setCell ⟨B,1,none⟩ (.slice (some ⟨b,off,none⟩) 0 0)).heap.size (w1.setCell ⟨B,1,none⟩ (.slice (some ⟨b,off,none⟩) 0 0)) w3):=hN3;clear hN3;clear c0 c1 c2 f0 f1 f2;obtain ⟨c0,c1,c2,f0,f1,f2,_⟩:=HK2.out.kept HB33.out;have hBw3:B<w3.heap.size:=(HK2.out.kept HB33.out).lt)
  | (go_at_call 213;refine (hhp _ _ _ (HK2.out.kept HB3.out) (bf (aY (bS HB1.out) _ _) HB3.out)).mono ?_;clear hhp;rintro r w4 ⟨a4,p4,bs4,c4,rfl,hk4,ha4,hb4,hg4⟩;have HF:Aside (bV B he ra rn (h+1) W (.returned (.int .i64 he)) w4):=⟨a4,p4,bs4,c4,rfl,hk4,ha4,hb4,om (bf (aY (bS HB1.out) _ _) HB3.out) hg4⟩;clear hk4 ha4 hb4 hg4))
 go_ret
 exact HF.out
set_option maxHeartbeats 1000000 in
theorem Jo (W:World) (B:Nat) (a:ByteArray) (p:Option Addr) (x:ByteArray) (bs:List ByteArray) (c h:Nat) (ps:Option Addr) (sn sc:Nat) (follow:Bool) (k:WkAt W B a p (x::bs) c h) (l:List (List UInt8)) (hls:LsC W (.slice ps sn sc) a l 0) (ha:a.size≤1000) (hbl:bs.length≤1000) (hcc:¬ c=1) (hx:¬ x.data.toList=[46,46]) (hxs:x.size≤1000) (ep et:ByteArray) (ek:Int) (eo eb:Bool) (hgt:GtD W B (.slice ps sn sc) (joinL a.data.toList x.data.toList) ep ek et eo eb) (hek:¬ ek=3) :
  Calls Tryz.prog 171 #[.pointer (some ⟨B,0,none⟩),.slice ps sn sc,.bool follow] W (bV B 0 (joinL a.data.toList x.data.toList) (bs.map (·.data.toList)) h W):=by
 have K:Aside (WkAt W B a p (x::bs) c h):=k
 have hl2:=hls W (Below.refl _ _)
 have hjn:=fun X=>kF a x X (by omega)
 have hx1:(x.toList == [46,46])=false:=beq_lit x _ _ (by simpa using hx)
 have hx2:¬ x.toList=[46,46]:=by rw [Lib.toList_data];exact hx
 have HGT:Aside (GtD W B (.slice ps sn sc) (joinL a.data.toList x.data.toList) ep ek et eo eb):=hgt
 clear hgt
 have hek':(ek == 3)=false:=beq_eq_false_iff_ne.2 hek
 rcases k.lies with h0 | ⟨b,off,rfl,hb,hcs⟩
 ·cases h0
 have hx0:=hcs 0 x rfl
 have hne:b≠B:=k.far (by simp) b off none rfl
 have hBW:=k.lt
 have hcap:=k.cap
 rw [List.length_cons] at hcap
 obtain ⟨n0,hn0⟩:∃ n0,n0=bs.length:=⟨_,rfl⟩
 have HN0:Aside (n0=bs.length):=hn0
 rw [← hn0] at hcap hbl
 obtain ⟨c0,c1,c2,f0,f1,f2,_⟩:=k
 rw [List.length_cons,← hn0] at c1
 clear hn0
 clear hls hcs hx
 go_enter Tryz.func171,Tryz.ntmps171
 go_wp2_with (first
  | (go_at_call 134;refine hl2.mono ?_;clear hl2;intro r w1 hE;obtain ⟨p1,k1,cc1,bs1,rfl,HS1,HB1⟩:=bH hE;clear hE;have HK1:Aside (WkAt w1 B a (some ⟨b,off,none⟩) (x::bs) c h):=K.out.kept HB1.out;have HK2:Aside (WkAt (w1.setCell ⟨B,1,none⟩ (.slice (some ⟨b,off+1,none⟩) n0 (c-1))) B a (some ⟨b,off+1,none⟩) bs (c-1) h):=HK1.out.cutN HN0.out hcc;clear c0 c1 c2 f0 f1 f2;obtain ⟨c0,c1,c2,f0,f1,f2,_⟩:=HK1.out;rw [List.length_cons,← HN0.out] at c1;have hx3:w1.cell? ⟨b,off,none⟩=some (.string x):=(HB1.out.cell (p:=⟨b,off,none⟩) hb).trans hx0;have hBw1:B<w1.heap.size:=HK1.out.lt)
  | (go_at_call 212;refine (hjn _).mono ?_;rintro r w2 ⟨⟨d,rfl,hd⟩,hw2⟩;subst w2;have hge:=HGT.out (w1.setCell ⟨B,1,none⟩ (.slice (some ⟨b,off+1,none⟩) n0 (c-1))) d hd (.inr ⟨w1,HB1.out,1,_,rfl⟩);have HD:Aside (d.data.toList=joinL a.data.toList x.data.toList):=hd;clear hd)
  | (go_at_call 27;refine hge.mono ?_;clear hge;rintro r w3 ⟨rfl,hN3⟩;have HB3:Aside (Below (w1.setCell ⟨B,1,none⟩ (.slice (some ⟨b,off+1,none⟩) n0 (c-1))).heap.size (w1.setCell ⟨B,1,none⟩ (.slice (some ⟨b,off+1,none⟩) n0 (c-1))) (w3.alloc (.cells #[.string ep,.int .i64 ek,.string et,.bool eo] 53))):=Below.onto hN3 ((Grown.refl w3).alloc _).below;have HB33:Aside (Below (w1.setCell ⟨B,1,none⟩ (.slice (some ⟨b,off+1,none⟩) n0 (c-1))).heap.size (w1.setCell ⟨B,1,none⟩ (.slice (some ⟨b,off+1,none⟩) n0 (c-1))) w3):=hN3;clear hN3;clear c0 c1 c2 f0 f1 f2;obtain ⟨c0,c1,c2,f0,f1,f2,_⟩:=HK2.out.kept HB33.out;rw [← HN0.out] at c1;have hBw3:B<w3.heap.size:=(HK2.out.kept HB33.out).lt))
 go_ret
 exact ⟨d,_,_,_,rfl,((HK2.out.kept HB33.out).setA d).kept ((Grown.refl _).alloc _).below,HD.out,rfl,jK (aY (bf (aY (bS HB1.out) _ _) HB33.out) _ _) _⟩
set_option maxHeartbeats 1000000 in
theorem Jm (W:World) (B:Nat) (a:ByteArray) (p:Option Addr) (x:ByteArray) (h:Nat) (ps:Option Addr) (sn sc:Nat) (follow:Bool) (k:WkAt W B a p (x::[]) 1 h) (l:List (List UInt8)) (hls:LsC W (.slice ps sn sc) a l 0) (ha:a.size≤1000) (hx:¬ x.data.toList=[46,46]) (hxs:x.size≤1000) (ep et:ByteArray) (ek:Int) (eo eb:Bool) (hgt:GtD W B (.slice ps sn sc) (joinL a.data.toList x.data.toList) ep ek et eo eb) (hek:¬ ek=3) :
  Calls Tryz.prog 171 #[.pointer (some ⟨B,0,none⟩),.slice ps sn sc,.bool follow] W (bV B 0 (joinL a.data.toList x.data.toList) (([]:List ByteArray).map (·.data.toList)) h W):=by
 have K:Aside (WkAt W B a p (x::[]) 1 h):=k
 have hl2:=hls W (Below.refl _ _)
 have hjn:=fun X=>kF a x X (by omega)
 have hx1:(x.toList == [46,46])=false:=beq_lit x _ _ (by simpa using hx)
 have hx2:¬ x.toList=[46,46]:=by rw [Lib.toList_data];exact hx
 have HGT:Aside (GtD W B (.slice ps sn sc) (joinL a.data.toList x.data.toList) ep ek et eo eb):=hgt
 clear hgt
 have hek':(ek == 3)=false:=beq_eq_false_iff_ne.2 hek
 rcases k.lies with h0 | ⟨b,off,rfl,hb,hcs⟩
 ·cases h0
 have hx0:=hcs 0 x rfl
 have hne:b≠B:=k.far (by simp) b off none rfl
 have hBW:=k.lt
 have hcap:=k.cap
 have HN0:Aside ((0:Nat)=([]:List ByteArray).length):=rfl
 have hcap1:1≤1:=hcap
 obtain ⟨c0,c1,c2,f0,f1,f2,_⟩:=k
 have c1:W.cell? ⟨B,1,none⟩=some (.slice (some ⟨b,off,none⟩) 1 1):=c1
 clear hls hcs hx
 go_enter Tryz.func171,Tryz.ntmps171
 go_wp2_with (first
  | (go_at_call 134;refine hl2.mono ?_;clear hl2;intro r w1 hE;obtain ⟨p1,k1,cc1,bs1,rfl,HS1,HB1⟩:=bH hE;clear hE;have HK1:Aside (WkAt w1 B a (some ⟨b,off,none⟩) (x::[]) 1 h):=K.out.kept HB1.out;have HK2:Aside (WkAt (w1.setCell ⟨B,1,none⟩ (.slice (some ⟨b,off,none⟩) 0 0)) B a (some ⟨b,off,none⟩) [] 0 h):=HK1.out.cut1 HN0.out;clear c0 c1 c2 f0 f1 f2;obtain ⟨c0,c1,c2,f0,f1,f2,_⟩:=HK1.out;have c1:w1.cell? ⟨B,1,none⟩=some (.slice (some ⟨b,off,none⟩) 1 1):=c1;have hx3:w1.cell? ⟨b,off,none⟩=some (.string x):=(HB1.out.cell (p:=⟨b,off,none⟩) hb).trans hx0;have hBw1:B<w1.heap.size:=HK1.out.lt)
  | (go_at_call 212;refine (hjn _).mono ?_;rintro r w2 ⟨⟨d,rfl,hd⟩,hw2⟩;subst w2;have hge:=HGT.out (w1.setCell ⟨B,1,none⟩ (.slice (some ⟨b,off,none⟩) 0 0)) d hd (.inr ⟨w1,HB1.out,1,_,rfl⟩);have HD:Aside (d.data.toList=joinL a.data.toList x.data.toList):=hd;clear hd)
  | (go_at_call 27;refine hge.mono ?_;clear hge;rintro r w3 ⟨rfl,hN3⟩;have HB3:Aside (Below (w1.setCell ⟨B,1,none⟩ (.slice (some ⟨b,off,none⟩) 0 0)).heap.size (w1.setCell ⟨B,1,none⟩ (.slice (some ⟨b,off,none⟩) 0 0)) (w3.alloc (.cells #[.string ep,.int .i64 ek,.string et,.bool eo] 53))):=Below.onto hN3 ((Grown.refl w3).alloc _).below;have HB33:Aside (Below (w1.setCell ⟨B,1,none⟩ (.slice (some ⟨b,off,none⟩) 0 0)).heap.size (w1.setCell ⟨B,1,none⟩ (.slice (some ⟨b,off,none⟩) 0 0)) w3):=hN3;clear hN3;clear c0 c1 c2 f0 f1 f2;obtain ⟨c0,c1,c2,f0,f1,f2,_⟩:=HK2.out.kept HB33.out;have hBw3:B<w3.heap.size:=(HK2.out.kept HB33.out).lt))
 go_ret
 exact ⟨d,_,_,_,rfl,((HK2.out.kept HB33.out).setA d).kept ((Grown.refl _).alloc _).below,HD.out,rfl,jK (aY (bf (aY (bS HB1.out) _ _) HB33.out) _ _) _⟩
set_option maxHeartbeats 1000000 in
theorem Jq (W:World) (B:Nat) (a:ByteArray) (p:Option Addr) (x:ByteArray) (c h:Nat) (ps:Option Addr) (sn sc:Nat) (k:WkAt W B a p (x::[]) c h) (l:List (List UInt8)) (hls:LsC W (.slice ps sn sc) a l 0) (ha:a.size≤1000) (hcc:¬ c=1) (hx:¬ x.data.toList=[46,46]) (hxs:x.size≤1000) (ep et:ByteArray) (eo eb:Bool) (hgt:GtD W B (.slice ps sn sc) (joinL a.data.toList x.data.toList) ep 3 et eo eb) :
  Calls Tryz.prog 171 #[.pointer (some ⟨B,0,none⟩),.slice ps sn sc,.bool false] W (bV B 0 (joinL a.data.toList x.data.toList) (([]:List ByteArray).map (·.data.toList)) h W):=by
 have K:Aside (WkAt W B a p (x::[]) c h):=k
 have hl2:=hls W (Below.refl _ _)
 have hjn:=fun X=>kF a x X (by omega)
 have hx1:(x.toList == [46,46])=false:=beq_lit x _ _ (by simpa using hx)
 have hx2:¬ x.toList=[46,46]:=by rw [Lib.toList_data];exact hx
 have HGT:Aside (GtD W B (.slice ps sn sc) (joinL a.data.toList x.data.toList) ep 3 et eo eb):=hgt
 clear hgt
 rcases k.lies with h0 | ⟨b,off,rfl,hb,hcs⟩
 ·cases h0
 have hx0:=hcs 0 x rfl
 have hne:b≠B:=k.far (by simp) b off none rfl
 have hBW:=k.lt
 have hcap:=k.cap
 have HN0:Aside ((0:Nat)=([]:List ByteArray).length):=rfl
 have hcap1:1≤c:=hcap
 obtain ⟨c0,c1,c2,f0,f1,f2,_⟩:=k
 have c1:W.cell? ⟨B,1,none⟩=some (.slice (some ⟨b,off,none⟩) 1 c):=c1
 clear hls hcs hx
 go_enter Tryz.func171,Tryz.ntmps171
 go_wp2_with (first
  | (go_at_call 134;refine hl2.mono ?_;clear hl2;intro r w1 hE;obtain ⟨p1,k1,cc1,bs1,rfl,HS1,HB1⟩:=bH hE;clear hE;have HK1:Aside (WkAt w1 B a (some ⟨b,off,none⟩) (x::[]) c h):=K.out.kept HB1.out;have HK2:Aside (WkAt (w1.setCell ⟨B,1,none⟩ (.slice (some ⟨b,off+1,none⟩) 0 (c-1))) B a (some ⟨b,off+1,none⟩) [] (c-1) h):=HK1.out.cutN HN0.out hcc;clear c0 c1 c2 f0 f1 f2;obtain ⟨c0,c1,c2,f0,f1,f2,_⟩:=HK1.out;have c1:w1.cell? ⟨B,1,none⟩=some (.slice (some ⟨b,off,none⟩) 1 c):=c1;have hx3:w1.cell? ⟨b,off,none⟩=some (.string x):=(HB1.out.cell (p:=⟨b,off,none⟩) hb).trans hx0;have hBw1:B<w1.heap.size:=HK1.out.lt)
  | (go_at_call 212;refine (hjn _).mono ?_;rintro r w2 ⟨⟨d,rfl,hd⟩,hw2⟩;subst w2;have hge:=HGT.out (w1.setCell ⟨B,1,none⟩ (.slice (some ⟨b,off+1,none⟩) 0 (c-1))) d hd (.inr ⟨w1,HB1.out,1,_,rfl⟩);have HD:Aside (d.data.toList=joinL a.data.toList x.data.toList):=hd;clear hd)
  | (go_at_call 27;refine hge.mono ?_;clear hge;rintro r w3 ⟨rfl,hN3⟩;have HB3:Aside (Below (w1.setCell ⟨B,1,none⟩ (.slice (some ⟨b,off+1,none⟩) 0 (c-1))).heap.size (w1.setCell ⟨B,1,none⟩ (.slice (some ⟨b,off+1,none⟩) 0 (c-1))) (w3.alloc (.cells #[.string ep,.int .i64 3,.string et,.bool eo] 53))):=Below.onto hN3 ((Grown.refl w3).alloc _).below;have HB33:Aside (Below (w1.setCell ⟨B,1,none⟩ (.slice (some ⟨b,off+1,none⟩) 0 (c-1))).heap.size (w1.setCell ⟨B,1,none⟩ (.slice (some ⟨b,off+1,none⟩) 0 (c-1))) w3):=hN3;clear hN3;clear c0 c1 c2 f0 f1 f2;obtain ⟨c0,c1,c2,f0,f1,f2,_⟩:=HK2.out.kept HB33.out;have hBw3:B<w3.heap.size:=(HK2.out.kept HB33.out).lt))
 go_ret
 exact ⟨d,_,_,_,rfl,((HK2.out.kept HB33.out).setA d).kept ((Grown.refl _).alloc _).below,HD.out,rfl,jK (aY (bf (aY (bS HB1.out) _ _) HB33.out) _ _) _⟩
set_option maxHeartbeats 1000000 in
theorem Jp (W:World) (B:Nat) (a:ByteArray) (p:Option Addr) (x:ByteArray) (h:Nat) (ps:Option Addr) (sn sc:Nat) (k:WkAt W B a p (x::[]) 1 h) (l:List (List UInt8)) (hls:LsC W (.slice ps sn sc) a l 0) (ha:a.size≤1000) (hx:¬ x.data.toList=[46,46]) (hxs:x.size≤1000) (ep et:ByteArray) (eo eb:Bool) (hgt:GtD W B (.slice ps sn sc) (joinL a.data.toList x.data.toList) ep 3 et eo eb) :
  Calls Tryz.prog 171 #[.pointer (some ⟨B,0,none⟩),.slice ps sn sc,.bool false] W (bV B 0 (joinL a.data.toList x.data.toList) (([]:List ByteArray).map (·.data.toList)) h W):=by
 have K:Aside (WkAt W B a p (x::[]) 1 h):=k
 have hl2:=hls W (Below.refl _ _)
 have hjn:=fun X=>kF a x X (by omega)
 have hx1:(x.toList == [46,46])=false:=beq_lit x _ _ (by simpa using hx)
 have hx2:¬ x.toList=[46,46]:=by rw [Lib.toList_data];exact hx
 have HGT:Aside (GtD W B (.slice ps sn sc) (joinL a.data.toList x.data.toList) ep 3 et eo eb):=hgt
 clear hgt
 rcases k.lies with h0 | ⟨b,off,rfl,hb,hcs⟩
 ·cases h0
 have hx0:=hcs 0 x rfl
 have hne:b≠B:=k.far (by simp) b off none rfl
 have hBW:=k.lt
 have hcap:=k.cap
 have HN0:Aside ((0:Nat)=([]:List ByteArray).length):=rfl
 have hcap1:1≤1:=hcap
 obtain ⟨c0,c1,c2,f0,f1,f2,_⟩:=k
 have c1:W.cell? ⟨B,1,none⟩=some (.slice (some ⟨b,off,none⟩) 1 1):=c1
 clear hls hcs hx
 go_enter Tryz.func171,Tryz.ntmps171
 go_wp2_with (first
  | (go_at_call 134;refine hl2.mono ?_;clear hl2;intro r w1 hE;obtain ⟨p1,k1,cc1,bs1,rfl,HS1,HB1⟩:=bH hE;clear hE;have HK1:Aside (WkAt w1 B a (some ⟨b,off,none⟩) (x::[]) 1 h):=K.out.kept HB1.out;have HK2:Aside (WkAt (w1.setCell ⟨B,1,none⟩ (.slice (some ⟨b,off,none⟩) 0 0)) B a (some ⟨b,off,none⟩) [] 0 h):=HK1.out.cut1 HN0.out;clear c0 c1 c2 f0 f1 f2;obtain ⟨c0,c1,c2,f0,f1,f2,_⟩:=HK1.out;have c1:w1.cell? ⟨B,1,none⟩=some (.slice (some ⟨b,off,none⟩) 1 1):=c1;have hx3:w1.cell? ⟨b,off,none⟩=some (.string x):=(HB1.out.cell (p:=⟨b,off,none⟩) hb).trans hx0;have hBw1:B<w1.heap.size:=HK1.out.lt)
  | (go_at_call 212;refine (hjn _).mono ?_;rintro r w2 ⟨⟨d,rfl,hd⟩,hw2⟩;subst w2;have hge:=HGT.out (w1.setCell ⟨B,1,none⟩ (.slice (some ⟨b,off,none⟩) 0 0)) d hd (.inr ⟨w1,HB1.out,1,_,rfl⟩);have HD:Aside (d.data.toList=joinL a.data.toList x.data.toList):=hd;clear hd)
  | (go_at_call 27;refine hge.mono ?_;clear hge;rintro r w3 ⟨rfl,hN3⟩;have HB3:Aside (Below (w1.setCell ⟨B,1,none⟩ (.slice (some ⟨b,off,none⟩) 0 0)).heap.size (w1.setCell ⟨B,1,none⟩ (.slice (some ⟨b,off,none⟩) 0 0)) (w3.alloc (.cells #[.string ep,.int .i64 3,.string et,.bool eo] 53))):=Below.onto hN3 ((Grown.refl w3).alloc _).below;have HB33:Aside (Below (w1.setCell ⟨B,1,none⟩ (.slice (some ⟨b,off,none⟩) 0 0)).heap.size (w1.setCell ⟨B,1,none⟩ (.slice (some ⟨b,off,none⟩) 0 0)) w3):=hN3;clear hN3;clear c0 c1 c2 f0 f1 f2;obtain ⟨c0,c1,c2,f0,f1,f2,_⟩:=HK2.out.kept HB33.out;have hBw3:B<w3.heap.size:=(HK2.out.kept HB33.out).lt))
 go_ret
 exact ⟨d,_,_,_,rfl,((HK2.out.kept HB33.out).setA d).kept ((Grown.refl _).alloc _).below,HD.out,rfl,jK (aY (bf (aY (bS HB1.out) _ _) HB33.out) _ _) _⟩
theorem Gi (seen:List Ent) (W:World) (B:Nat) (a:ByteArray) (p:Option Addr) (x:ByteArray) (bs:List ByteArray) (c h:Nat) (ps:Option Addr) (sc:Nat) (follow:Bool) (m:Int) (k:WkAt W B a p (x::bs) c h) (hL:Lies W ps seen) (hr:Right false seen) (hfar:seen=[]∨∀ b off s,ps=some ⟨b,off,s⟩→b≠B)
  (hw:xY a.data.toList ((x::bs).map (·.data.toList)) h) (hB0:B≠0) (hm:W.cell? ⟨0,0,none⟩=some (.int .i64 m)) :
  Calls Tryz.prog 171 #[.pointer (some ⟨B,0,none⟩),.slice ps seen.length sc,.bool follow] W
   (bV B (goL seen follow a.data.toList x.data.toList (bs.map (·.data.toList)) h).1 (goL seen follow a.data.toList x.data.toList (bs.map (·.data.toList)) h).2.1 (goL seen follow a.data.toList x.data.toList (bs.map (·.data.toList)) h).2.2.1 (goL seen follow a.data.toList x.data.toList (bs.map (·.data.toList)) h).2.2.2 W):=by
 have hal:=hw.len
 have hnum:=hw.num
 have hh8:=hw.hops
 have hxl:x.data.toList.length≤12:=hw.each _ (by simp)
 have has:a.size=a.data.toList.length:=rfl
 have hxs:x.size=x.data.toList.length:=rfl
 rw [List.length_map,List.length_cons] at hnum
 have h81:(h+1)*81≤729:=by omega
 have hfit:=gK hr
 have hn80:=hr.len
 have hls:LsC W (.slice ps seen.length sc) a (kW seen a.data.toList).1 (kW seen a.data.toList).2:=fun X hX=>za seen a ps sc X (hL.kept hX) hfit hr (by unfold maxLen;omega)
 have hlist:(kW seen a.data.toList).2=aW seen a.data.toList:=by unfold kW;split <;> simp [*]
 rw [hlist] at hls
 unfold goL
 by_cases h1:aW seen a.data.toList=0
 ·rw [if_neg (not_not_intro h1)]
  rw [h1] at hls
  have hcc:c=1→bs=[]:=fun e=>by
   have:=k.cap
   rw [List.length_cons] at this
   exact List.eq_nil_of_length_eq_zero (by omega)
  by_cases h2:x.data.toList=[46,46]
  ·rw [if_pos h2]
   by_cases hc:c=1
   ·obtain rfl:=hcc hc
    subst hc
    exact JH W B a p x h ps _ sc follow k _ hls (by omega) h2
   ·exact JI W B a p x bs c h ps _ sc follow k _ hls (by omega) (by omega) hc h2
  ·rw [if_neg h2]
   have hjl:=yY a.data.toList x.data.toList
   have hgt:∀ (z:Ent) (bb:Bool),(getL seen (joinL a.data.toList x.data.toList)).getD zeroE=z→(getL seen (joinL a.data.toList x.data.toList)).isSome=bb→GtD W B (.slice ps seen.length sc) (joinL a.data.toList x.data.toList) z.path z.kind z.text z.opq bb:=fun z bb hz hbb X d hd hX=>by
    have hds:d.size=d.data.toList.length:=rfl
    rw [hd] at hds
    have hLX:Lies X ps seen:=by
     rcases hX with hX | ⟨Y,hY,i,v,rfl⟩
     ·exact hL.kept hX
     ·rcases hfar with hf | hf
      ·exact .inl hf
      ·rcases hL.kept hY with h0 | ⟨b,off,hp,hb,hc⟩
       ·exact .inl h0
       ·refine .inr ⟨b,off,hp,by simpa [World.setCell] using hb,fun j e hj i' u hu=>?_⟩
        rw [World.cell?_setCell_other (h:=fun e=>hf b off none hp (congrArg Addr.block e).symm)]
        exact hc j e hj i' u hu
    have:=ny seen d ps sc X hLX hfit (by omega) (by unfold maxLen;omega) hr.sorted z bb (by rw [hd];exact hz) (by rw [hd];exact hbb)
    exact this
   have htx:=yR hr (joinL a.data.toList x.data.toList)
   obtain ⟨⟨ep,ek,et,eo⟩,hz⟩:∃ z,(getL seen (joinL a.data.toList x.data.toList)).getD zeroE=z:=⟨_,rfl⟩
   have hg:=hgt _ _ hz rfl
   simp only at hg
   rw [hz] at htx ⊢
   simp only at htx ⊢
   have hhp:∀ bs:List ByteArray,bs.length≤1000→HpC W B a bs h et (if 8<h+1 then 12 else (aI et.data.toList).2) (if 8<h+1 then a.data.toList else if ¬ (aI et.data.toList).2=0 then a.data.toList else if slash et.data.toList then [] else a.data.toList)
     (if 8<h+1 then bs.map (·.data.toList) else if ¬ (aI et.data.toList).2=0 then bs.map (·.data.toList) else (aI et.data.toList).1++bs.map (·.data.toList)):=fun bs hb X p' c' hk hG =>
    Iu X B a p' bs c' h et m hk hh8 hB0 hb htx (by rw [gN hG (a:=⟨0,0,none⟩) (block_lt_of_cell hm) (Ne.symm hB0)];exact hm)
   have hres:∀ bs:List ByteArray,∀ r:Ending,∀ w':World,bV B (if 8<h+1 then 12 else (aI et.data.toList).2) (if 8<h+1 then a.data.toList else if ¬ (aI et.data.toList).2=0 then a.data.toList else if slash et.data.toList then [] else a.data.toList)
     (if 8<h+1 then bs.map (·.data.toList) else if ¬ (aI et.data.toList).2=0 then bs.map (·.data.toList) else (aI et.data.toList).1++bs.map (·.data.toList)) (h+1) W r w' →
     bV B (if 8<h+1 then (12,a.data.toList,bs.map (·.data.toList),h+1) else if ¬ (aI et.data.toList).2=0 then ((aI et.data.toList).2,a.data.toList,bs.map (·.data.toList),h+1) else (0,if slash et.data.toList then [] else a.data.toList,(aI et.data.toList).1++bs.map (·.data.toList),h+1):Int × List UInt8 × List (List UInt8) × Nat).1
      (if 8<h+1 then (12,a.data.toList,bs.map (·.data.toList),h+1) else if ¬ (aI et.data.toList).2=0 then ((aI et.data.toList).2,a.data.toList,bs.map (·.data.toList),h+1) else (0,if slash et.data.toList then [] else a.data.toList,(aI et.data.toList).1++bs.map (·.data.toList),h+1):Int × List UInt8 × List (List UInt8) × Nat).2.1
      (if 8<h+1 then (12,a.data.toList,bs.map (·.data.toList),h+1) else if ¬ (aI et.data.toList).2=0 then ((aI et.data.toList).2,a.data.toList,bs.map (·.data.toList),h+1) else (0,if slash et.data.toList then [] else a.data.toList,(aI et.data.toList).1++bs.map (·.data.toList),h+1):Int × List UInt8 × List (List UInt8) × Nat).2.2.1
      (if 8<h+1 then (12,a.data.toList,bs.map (·.data.toList),h+1) else if ¬ (aI et.data.toList).2=0 then ((aI et.data.toList).2,a.data.toList,bs.map (·.data.toList),h+1) else (0,if slash et.data.toList then [] else a.data.toList,(aI et.data.toList).1++bs.map (·.data.toList),h+1):Int × List UInt8 × List (List UInt8) × Nat).2.2.2 W r w':=fun bs r w' hh=>by
    by_cases g1:8<h+1
    ·simp only [if_pos g1] at hh ⊢;exact hh
    ·by_cases g2:(aI et.data.toList).2=0
     ·simp only [if_neg g1,g2] at hh ⊢;exact hh
     ·simp only [if_neg g1,if_pos g2] at hh ⊢;exact hh
   by_cases h3:ek=3∧(bs.map (·.data.toList)≠[]∨follow=true)
   ·rw [if_pos h3]
    obtain ⟨rfl,h4⟩:=h3
    by_cases hb0:bs=[]
    ·subst hb0
     obtain rfl:follow=true:=by rcases h4 with h4 | h4;exact absurd rfl h4;exact h4
     by_cases hc:c=1
     ·subst hc
      exact (Jk W B a p x h ps _ sc k _ hls (by omega) h2 (by omega) ep et eo _ hg _ _ _ (hhp [] (by simp))).mono (hres [])
     ·exact (Jl W B a p x c h ps _ sc k _ hls (by omega) hc h2 (by omega) ep et eo _ hg _ _ _ (hhp [] (by simp))).mono (hres [])
    ·have hc:¬ c=1:=fun e=>hb0 (hcc e)
     have hb1:0<bs.length:=List.length_pos_iff.2 hb0
     exact (Jj W B a p x bs c h ps _ sc follow k _ hls (by omega) (by omega) hc h2 (by omega) ep et eo _ hg hb1 _ _ _ (hhp bs (by omega))).mono (hres bs)
   ·rw [if_neg h3]
    by_cases h5:ek=3
    ·subst h5
     have hb0:bs=[]:=by
      cases bs with
      | nil=>rfl
      | cons y r=>exact absurd ⟨rfl,.inl (by simp)⟩ h3
     subst hb0
     obtain rfl:follow=false:=by
      cases follow with
      | false=>rfl
      | true=>exact absurd ⟨rfl,.inr rfl⟩ h3
     by_cases hc:c=1
     ·subst hc
      exact Jp W B a p x h ps _ sc k _ hls (by omega) h2 (by omega) ep et eo _ hg
     ·exact Jq W B a p x c h ps _ sc k _ hls (by omega) hc h2 (by omega) ep et eo _ hg
    ·by_cases hc:c=1
     ·obtain rfl:=hcc hc
      subst hc
      exact Jm W B a p x h ps _ sc follow k _ hls (by omega) h2 (by omega) ep et ek eo _ hg h5
     ·exact Jo W B a p x bs c h ps _ sc follow k _ hls (by omega) (by omega) hc h2 (by omega) ep et ek eo _ hg h5
 ·rw [if_pos h1]
  exact go_1 W B a p (x::bs) c h ps _ sc follow k _ _ h1 hls
def lI (e:Int) (l:List UInt8) (W:World) (r:Ending) (W':World):Prop:=∃ q:ByteArray,r=.returned (.tuple #[.string q,.int .i64 e])∧q.data.toList=l∧Below W.heap.size W W'
theorem JD (W:World) (p:Option Addr) (bs:List ByteArray) (k c:Nat) (hk:k=bs.length) (hL:fI W p bs) (hc:bs.length≤c) (hn:p=none→c=0):WkAt (W.alloc (.cells #[.string ⟨#[]⟩,.slice p k c,.int .i64 0] 200)) W.heap.size ⟨#[]⟩ p bs c 0:=by
 subst hk
 have hb:(W.alloc (.cells #[.string ⟨#[]⟩,.slice p bs.length c,.int .i64 0] 200)).heap[W.heap.size]?=some (.cells #[.string ⟨#[]⟩,.slice p bs.length c,.int .i64 0] 200):=by show (W.heap.push _)[W.heap.size]?=_;simp
 refine ⟨by simp,by simp,by simp,by simp,by simp,by simp,hL.kept ((Grown.refl W).alloc _).below,fun h0 b off s e=>?_,hc,hn⟩
 rcases hL with h | ⟨b',off',hp,hb',_⟩
 ·exact absurd h h0
 ·rw [hp] at e;cases e;omega
theorem EB (seen:List Ent) (follow:Bool) (g:Nat) (a:List UInt8) (h:Nat):eD seen follow g a [] h=(0,a):=by cases g <;> rfl
theorem vG (seen:List Ent) (follow:Bool) (g:Nat) (a n:List UInt8) (r:List (List UInt8)) (h:Nat):eD seen follow (g+1) a (n::r) h=if (goL seen follow a n r h).1=0 then eD seen follow g (goL seen follow a n r h).2.1 (goL seen follow a n r h).2.2.1 (goL seen follow a n r h).2.2.2 else ((goL seen follow a n r h).1,[]):=rfl
structure nV (seen:List Ent) (follow:Bool) (W:World) (B:Nat) (R:Int × List UInt8) (a:ByteArray) (p:Option Addr) (bs:List ByteArray) (c h:Nat) (X:World):Prop where
 at':WkAt X B a p bs c h
 ok:xY a.data.toList (bs.map (·.data.toList)) h
 eq:∃ g,(9-h)*100+bs.length≤g∧R=eD seen follow g a.data.toList (bs.map (·.data.toList)) h
 below:Below W.heap.size W X
theorem Bg {W X Y:World} {B:Nat} (h:Below W.heap.size W X) (hG:X.grownBy Y (some B)) (hB:W.heap.size≤B):Below W.heap.size W Y:=h.grown hG h.size (fun k hk=>by cases hk;exact hB)
theorem nV.next {seen:List Ent} (hr:Right false seen) {follow:Bool} {W:World} {B:Nat} {R:Int × List UInt8} {a:ByteArray} {p:Option Addr} {x:ByteArray} {bs:List ByteArray} {c h:Nat} {X Y:World} (I:nV seen follow W B R a p (x::bs) c h X) (hB:W.heap.size≤B)
  {a':ByteArray} {p':Option Addr} {bs':List ByteArray} {c':Nat} (hk:WkAt Y B a' p' bs' c' (goL seen follow a.data.toList x.data.toList (bs.map (·.data.toList)) h).2.2.2) (ha:a'.data.toList=(goL seen follow a.data.toList x.data.toList (bs.map (·.data.toList)) h).2.1) (hb:bs'.map (·.data.toList)=(goL seen follow a.data.toList x.data.toList (bs.map (·.data.toList)) h).2.2.1) (hG:X.grownBy Y (some B))
  (hz:(goL seen follow a.data.toList x.data.toList (bs.map (·.data.toList)) h).1=0) :
  nV seen follow W B R a' p' bs' c' (goL seen follow a.data.toList x.data.toList (bs.map (·.data.toList)) h).2.2.2 Y∧(9-(goL seen follow a.data.toList x.data.toList (bs.map (·.data.toList)) h).2.2.2)*100+bs'.length<(9-h)*100+(bs.length+1):=by
 obtain ⟨o1,o2⟩:=go_ok hr (follow:=follow) I.ok hz
 have hl:bs'.length=(goL seen follow a.data.toList x.data.toList (bs.map (·.data.toList)) h).2.2.1.length:=by rw [← hb,List.length_map]
 rw [← hl] at o2
 simp only [List.length_cons,List.length_map] at o2
 obtain ⟨g,hg,hR⟩:=I.eq
 rw [List.length_cons] at hg
 refine ⟨⟨hk,?_,?_,Bg I.below hG hB⟩,o2⟩
 ·rw [ha,hb];exact o1
 ·obtain ⟨g',rfl⟩:∃ g',g=g'+1:=⟨g-1,by omega⟩
  rw [List.map_cons,vG,if_pos hz] at hR
  exact ⟨g',by omega,by rw [ha,hb];exact hR⟩
theorem nV.bad {seen:List Ent} {follow:Bool} {W:World} {B:Nat} {R:Int × List UInt8} {a:ByteArray} {p:Option Addr} {x:ByteArray} {bs:List ByteArray} {c h:Nat} {X:World} (I:nV seen follow W B R a p (x::bs) c h X) (hz:¬ (goL seen follow a.data.toList x.data.toList (bs.map (·.data.toList)) h).1=0):R.1=(goL seen follow a.data.toList x.data.toList (bs.map (·.data.toList)) h).1:=by
 obtain ⟨g,hg,hR⟩:=I.eq
 rw [List.length_cons] at hg
 obtain ⟨g',rfl⟩:∃ g',g=g'+1:=⟨g-1,by omega⟩
 rw [List.map_cons,vG,if_neg hz] at hR
 rw [hR]
theorem G6 {W:World} {ps:Option Addr} {seen:List Ent} (hL:Lies W ps seen) {B:Nat} (hB:W.heap.size≤B):seen=[]∨∀ b off s,ps=some ⟨b,off,s⟩→b≠B:=by
 rcases hL with h | ⟨b,off,hp,hb,_⟩
 ·exact .inl h
 ·exact .inr (fun b' off' s e=>by rw [hp] at e;cases e;omega)
theorem Gq (seen:List Ent) (way:ByteArray) (follow:Bool) (W:World) (S:Nat) (e:Int) (he:¬ e=0) (l:List (List UInt8)) (hps:Calls Tryz.prog 170 #[.string way] W (dG W l e)) :
  Calls Tryz.prog 121 #[.pointer (some ⟨S,0,none⟩),.string way,.bool follow] W (lI e [] W):=by
 have he':(e == 0)=false:=beq_eq_false_iff_ne.2 he
 go_enter Tryz.func121,Tryz.ntmps121
 go_wp2_with (go_at_call 170;refine hps.mono ?_;clear hps;intro e w1 hE;obtain ⟨p1,k1,cc1,bs1,rfl,HS1,HB1⟩:=bH hE;clear hE)
 go_loopg [9] 1 (fun gg s9 wr=>s9=.int .i64 e∧Aside (Below W.heap.size W wr))
 case atStart=>exact ⟨rfl,Below.onto HB1.out ((Grown.refl w1).alloc _).below⟩
 case round =>
  obtain ⟨rfl,BW⟩:=hrel
  go_wp2
  go_ret2
  exact ⟨⟨#[]⟩,rfl,rfl,BW.out⟩
def LdSt (seen:List Ent) (follow:Bool) (W:World) (B:Nat) (R:Int × List UInt8) (gg:Nat) (s9:Value) (X:World):Prop :=
 ∃ e:Int,s9=.int .i64 e∧((¬ e=0∧Aside (R.1=e∧Below W.heap.size W X))∨(e=0∧∃ (a:ByteArray) (p:Option Addr) (bs:List ByteArray) (c h:Nat),(9-h)*100+bs.length+1≤gg∧Aside (nV seen follow W B R a p bs c h X)))
set_option maxHeartbeats 1000000 in
theorem IC (seen:List Ent) (way:ByteArray) (follow:Bool) (W:World) (S:Nat) (ps:Option Addr) (sn sc:Nat) (hsn:sn=seen.length) (m:Int) (hS:W.cell? ⟨S,2,none⟩=some (.slice ps sn sc)) (hL:Lies W ps seen) (hr:Right false seen) (hm:W.cell? ⟨0,0,none⟩=some (.int .i64 m))
  (l:List (List UInt8)) (hl81:l.length≤81) (hl12:∀ n∈l,n.length≤12) (hps:Calls Tryz.prog 170 #[.string way] W (dG W l 0)) (R:Int × List UInt8) (hR:R=eD seen follow 1100 [] l 0) :
  Calls Tryz.prog 121 #[.pointer (some ⟨S,0,none⟩),.string way,.bool follow] W (lI (if ¬ R.1=0 then R.1 else if 80<R.2.length then 4 else 0) (if ¬ R.1=0 then [] else if 80<R.2.length then [] else R.2) W):=by
 have HL:Aside (Lies W ps seen∧Right false seen∧sn=seen.length∧W.cell? ⟨0,0,none⟩=some (.int .i64 m)):=⟨hL,hr,hsn,hm⟩
 have H0:Aside (R=eD seen follow 1100 [] l 0∧l.length≤81∧∀ n∈l,n.length≤12):=⟨hR,hl81,hl12⟩
 have hSlt:=block_lt_of_cell hS
 simp only at hSlt
 have HS:Aside (W.cell? ⟨S,2,none⟩=some (.slice ps sn sc)):=hS
 clear hL hr hsn hm hR hl81 hl12 hS
 obtain ⟨re,hre⟩:∃ re,re=if ¬ R.1=0 then R.1 else if 80<R.2.length then 4 else 0:=⟨_,rfl⟩
 obtain ⟨rl,hrl⟩:∃ rl,rl=if ¬ R.1=0 then [] else if 80<R.2.length then [] else R.2:=⟨_,rfl⟩
 have HRE:Aside ((re=if ¬ R.1=0 then R.1 else if 80<R.2.length then 4 else 0)∧(rl=if ¬ R.1=0 then [] else if 80<R.2.length then [] else R.2)):=⟨hre,hrl⟩
 rw [← hre,← hrl]
 clear hre hrl
 go_enter Tryz.func121,Tryz.ntmps121
 go_wp2_with (go_at_call 170;refine hps.mono ?_;clear hps;intro e w1 hE;obtain ⟨p1,k1,cc1,bs1,rfl,HS1,HB1⟩:=bH hE;clear hE)
 have HI0:Aside (nV seen follow W w1.heap.size R ⟨#[]⟩ p1 bs1 cc1 0 (w1.alloc (.cells #[.string ⟨#[]⟩,.slice p1 k1 cc1,.int .i64 0] 200))):=by
  obtain ⟨h1,h2,h3⟩:=HS1.out
  obtain ⟨p',c',e,hL',hc',hn',_⟩:=h2.vC
  injection e with e1 e2 e3
  subst e1 e3
  have hlen:bs1.length=l.length:=by rw [← h3,List.length_map]
  refine ⟨JD w1 p1 bs1 k1 cc1 h1 hL' hc' hn',⟨by decide,fun n hn=>H0.out.2.2 n (by rw [← h3];exact hn),by rw [List.length_map];have:=H0.out.2.1;omega,by omega⟩,⟨1100,by have:=H0.out.2.1;omega,by rw [h3];exact H0.out.1⟩,Below.onto HB1.out ((Grown.refl w1).alloc _).below⟩
 have hBw:=HB1.out.size
 have hb81:bs1.length≤81:=by
  have h3:=congrArg List.length HS1.out.2.2
  rw [List.length_map] at h3
  have:=H0.out.2.1
  omega
 clear HS1 HB1
 go_loopg [9] 1200 (fun gg s9 wr=>LdSt seen follow W w1.heap.size R gg s9 wr)
 case atStart=>exact ⟨0,rfl,.inr ⟨rfl,⟨#[]⟩,p1,bs1,cc1,0,by omega,HI0.out⟩⟩
 case round =>
  obtain ⟨e,rfl,⟨he,HE⟩ | ⟨rfl,a,p,bs,c,h,hgg,HI⟩⟩:=hrel
  ·have he':(e == 0)=false:=beq_eq_false_iff_ne.2 he
   go_wp2
   go_ret2
   refine ⟨⟨#[]⟩,?_,?_,HE.out.2⟩
   ·rw [HRE.out.1,HE.out.1,if_pos he];rfl
   ·rw [HRE.out.2,HE.out.1,if_pos he]
  ·cases bs with
   | nil =>
    have HR:Aside (R=(0,a.data.toList)):=by obtain ⟨g,_,hR⟩:=HI.out.eq;show _=_;rw [hR];exact EB _ _ _ _ _
    obtain ⟨c0,c1,c2,f0,f1,f2,_⟩:=HI.out.at'
    have c1:wr.cell? ⟨w1.heap.size,1,none⟩=some (.slice p 0 c):=c1
    have HB:Aside (Below W.heap.size W wr):=HI.out.below
    have HSZ:Aside (a.size=a.data.toList.length):=rfl
    have ha100:a.size≤100:=HI.out.ok.len
    clear hgg
    by_cases h80:(80:Int)<(a.size:Int)
    ·go_wp2
     go_ret2
     refine ⟨⟨#[]⟩,?_,?_,HB.out⟩
     ·rw [HRE.out.1,HR.out,if_neg (by simp),if_pos (by simp only;have:=HSZ.out;omega)];rfl
     ·rw [HRE.out.2,HR.out,if_neg (by simp),if_pos (by simp only;have:=HSZ.out;omega)]
    ·go_wp2
     go_ret2
     refine ⟨a,?_,?_,HB.out⟩
     ·rw [HRE.out.1,HR.out,if_neg (by simp),if_neg (by simp only;have:=HSZ.out;omega)];rfl
     ·rw [HRE.out.2,HR.out,if_neg (by simp),if_neg (by simp only;have:=HSZ.out;omega)]
   | cons x bs =>
    have hgo:=Gi seen wr w1.heap.size a p x bs c h ps sc follow m HI.out.at' (HL.out.1.kept HI.out.below) HL.out.2.1 (G6 HL.out.1 hBw) HI.out.ok (by have:=block_lt_of_cell HL.out.2.2.2;simp only at this;omega) ((HI.out.below.cell (p:=⟨0,0,none⟩) (block_lt_of_cell HL.out.2.2.2)).trans HL.out.2.2.2)
    rw [← HL.out.2.2.1] at hgo
    obtain ⟨c0,c1,c2,f0,f1,f2,_⟩:=HI.out.at'
    rw [List.length_cons] at c1
    have hs2:wr.cell? ⟨S,2,none⟩=some (.slice ps sn sc):=(HI.out.below.cell (p:=⟨S,2,none⟩) hSlt).trans HS.out
    rw [List.length_cons] at hgg
    obtain ⟨b1,hb1⟩:∃ b1,b1=bs.length:=⟨_,rfl⟩
    rw [← hb1] at c1 hgg
    have HB1:Aside (b1=bs.length):=hb1
    clear hb1
    have hpos:(0:Int)<(b1:Int)+1:=by omega
    by_cases hz:(goL seen follow a.data.toList x.data.toList (bs.map (·.data.toList)) h).1=0
    ·have HZ:Aside ((goL seen follow a.data.toList x.data.toList (bs.map (·.data.toList)) h).1=0):=hz
     rw [hz] at hgo
     clear hz
     go_wp2_with (go_at_call 171;refine hgo.mono ?_;clear hgo;rintro r w2 ⟨a2,p2,bs2,c2',rfl,hk2,ha2,hb2,hg2⟩;have HN:=nV.next HL.out.2.1 HI.out hBw hk2 ha2 hb2 hg2 HZ.out;have HN2:Aside _:=HN;clear HN hk2 ha2 hb2 hg2)
     go_roundg ((9-(goL seen follow a.data.toList x.data.toList (bs.map (·.data.toList)) h).2.2.2)*100+bs2.length+1)
     case measure=>have:=HN2.out.2;have:=HB1.out;omega
     case rel=>exact ⟨0,rfl,.inr ⟨rfl,a2,p2,bs2,c2',_,Nat.le_refl _,HN2.out.1⟩⟩
    ·have HZ:Aside (R.1=(goL seen follow a.data.toList x.data.toList (bs.map (·.data.toList)) h).1):=HI.out.bad hz
     generalize (goL seen follow a.data.toList x.data.toList (bs.map (·.data.toList)) h).1=e2 at hgo hz HZ
     go_wp2_with (go_at_call 171;refine hgo.mono ?_;clear hgo;rintro r w2 ⟨a2,p2,bs2,c2',rfl,hk2,ha2,hb2,hg2⟩;have HN2:Aside (Below W.heap.size W w2):=Bg HI.out.below hg2 hBw;clear hk2 ha2 hb2 hg2)
     go_roundg 0
     case measure=>omega
     case rel=>exact ⟨e2,rfl,.inl ⟨hz,HZ.out,HN2.out⟩⟩
theorem kG (seen:List Ent) (way:ByteArray) (follow:Bool) (W:World) (S:Nat) (ps:Option Addr) (sc:Nat) (m:Int) (hS:W.cell? ⟨S,2,none⟩=some (.slice ps seen.length sc)) (hL:Lies W ps seen) (hr:Right false seen) (hw:way.size≤maxLen) (hm:W.cell? ⟨0,0,none⟩=some (.int .i64 m)) :
  Calls Tryz.prog 121 #[.pointer (some ⟨S,0,none⟩),.string way,.bool follow] W (lI (aP seen follow way.data.toList).1 (aP seen follow way.data.toList).2 W):=by
 have hps:=xw way m W hw hm
 obtain ⟨p1,p2⟩:=rU way.data.toList
 unfold aP
 by_cases h1:(aI way.data.toList).2=0
 ·rw [if_neg (not_not_intro h1)]
  rw [h1] at hps
  have:=IC seen way follow W S ps _ sc rfl m hS hL hr hm _ p1 p2 hps _ rfl
  by_cases h2:(eD seen follow 1100 [] (aI way.data.toList).1 0).1=0
  ·rw [if_neg (not_not_intro h2)] at this ⊢
   rw [if_neg (not_not_intro h2)] at this
   by_cases h3:80<(eD seen follow 1100 [] (aI way.data.toList).1 0).2.length
   ·rw [if_pos h3] at this ⊢
    rw [if_pos h3] at this
    exact this
   ·rw [if_neg h3] at this ⊢
    rw [if_neg h3] at this
    exact this
  ·rw [if_pos h2] at this ⊢
   rw [if_pos h2] at this
   exact this
 ·rw [if_pos h1]
  exact Gq seen way follow W S _ h1 _ hps
end Go.Proofs.YthfeoiffoeagkaaGreatDoor
