/-
  union.layers, merged, Wrong, Seen, within, upperOf, copies; how an upper layer lies in memory.
-/
import Derived.Test.YthfeoiffoeagkaaGreatDoorZA7
import Derived.Test.YthfeoiffoeagkaaGreatDoorZA9
import Derived.Deep.QuietTactic
import Derived.Deep.RegionHeld3
import Derived.Deep.RegionWith
namespace Go.Proofs.YthfeoiffoeagkaaGreatDoor
open Go.RowKit PM Go.Sort
set_option linter.unusedVariables false
namespace PM
def dB (i:Nat):List (List Ent)→Int × Nat
 | []=>(0,0)
 | x::r=>if (aD true x).1=0 then dB (i+1) r else ((aD true x).1,i)
def ay (ls:List (List Ent)):Int × Nat:=if 5<ls.length then (5,0) else if (dB 0 ls).1=0 then ((au ls).1,0) else dB 0 ls
def aB (ls:List (List Ent)):List Ent:=if (ay ls).1=0 then (au ls).2 else []
theorem kS:∀ (ls:List (List Ent)) (i:Nat),(dB i ls).1=0↔∀ x∈ls,Right true x
 | [],i=>by simp [dB]
 | x::r,i=>by
  rw [dB]
  by_cases h:(aD true x).1=0
  ·rw [if_pos h,kS r (i+1)]
   simp [bM.1 h]
  ·rw [if_neg h]
   constructor
   ·intro g;exact absurd g h
   ·intro g;exact absurd (bM.2 (g x (by simp))) h
theorem eG {ls:List (List Ent)}:(ay ls).1=0↔ls.length≤5∧(au ls).1=0∧∀ x∈ls,Right true x:=by
 unfold ay
 by_cases h5:5<ls.length
 ·rw [if_pos h5]
  exact ⟨fun h=>absurd h (by decide),fun h=>by omega⟩
 ·rw [if_neg h5]
  by_cases hb:(dB 0 ls).1=0
  ·rw [if_pos hb]
   exact ⟨fun h=>⟨by omega,h,(kS ls 0).1 hb⟩,fun h=>h.2.1⟩
  ·rw [if_neg hb]
   exact ⟨fun h=>absurd h hb,fun h=>absurd ((kS ls 0).2 h.2.2) hb⟩
theorem aK (ls:List (List Ent)):Right false (aB ls):=by
 unfold aB
 by_cases h:(ay ls).1=0
 ·rw [if_pos h];exact iU (eG.1 h).2.1
 ·rw [if_neg h];exact xD _
theorem mV:∀ {ls:List (List Ent)},(au ls).1=0→∀ x∈ls,Right true x
 | [],_,x,hx=>by simp at hx
 | y::r,h,x,hx=>by
  obtain ⟨h1,h2,_⟩:=jB h
  rcases List.mem_cons.1 hx with rfl | hx
  ·exact (kZ.1 h2).1
  ·exact mV h1 x hx
end PM
theorem aX.one (w:World) (y:Lay) (H:Nat) (hH:H=w.heap.size):aX (w.alloc (.cells #[.slice y.ad y.es.length y.cap] 23)) H (.slice (some ⟨H,0,none⟩) 1 1) [y]:=by
 subst hH
 exact ⟨rfl,.inr ⟨w.heap.size,1,#[.slice y.ad y.es.length y.cap],rfl,Nat.le_refl _,(by show (w.heap.push _)[w.heap.size]?=_;simp),Nat.le_refl _,by decide,rfl,rfl⟩⟩
theorem aX.mono {w:World} {base base':Nat} {v:Value} {ls:List Lay} (h:aX w base v ls) (hb:base'≤base):aX w base' v ls:=by
 refine ⟨h.1,h.2.imp id ?_⟩
 rintro ⟨g,cap,cur,e,hg,r⟩
 exact ⟨g,cap,cur,e,Nat.le_trans hb hg,r⟩
theorem dw.adds {w W:World} {p:Option Addr} {t:List Lay} (h:dw w p t) (hB:Below w.heap.size w W):t=[]∨∃ ad,p=some ad∧∀ j y,t[j]?=some y→W.cell? (ad.add j)=some y.v:=by
 rcases h.kept hB with h | ⟨b,off,rfl,hb,hc⟩
 ·exact .inl h
 ·exact .inr ⟨_,rfl,fun j y hy=>by rw [Addr.add_lit];exact hc j y hy⟩
set_option maxHeartbeats 1000000 in
set_option maxRecDepth 100000 in
theorem CF (y:Lay) (ls:List Lay) (pl:Option Addr) (cl:Nat) (w:World) (hT:dw w pl ls) (hn:ls.length≤80) (hnil:pl=none→cl=0) :
  Calls Tryz.prog 75 #[.agg #[.slice y.ad y.es.length y.cap,.slice pl ls.length cl]] w fun e w'=>(∃ v,e=.returned v∧aX w' w.heap.size v (y::ls))∧Below w.heap.size w w':=by
 have HT:Aside (dw w pl ls):=hT
 have hone:=aX.one (w.alloc (.cells #[.slice y.ad y.es.length y.cap,.slice pl ls.length cl] 26)) y (w.heap.size+1) (by simp)
 have HB:Aside (Below w.heap.size w ((w.alloc (.cells #[.slice y.ad y.es.length y.cap,.slice pl ls.length cl] 26)).alloc (.cells #[.slice y.ad y.es.length y.cap] 23))):=((Below.refl _ _).alloc (Nat.le_refl _) _).alloc (by simp) _
 obtain ⟨n,hnl⟩:∃ n,n=ls.length:=⟨_,rfl⟩
 have HN:Aside (n=ls.length):=hnl
 rw [← hnl] at hn hone HB ⊢
 obtain ⟨k,hk⟩:∃ k,k=y.es.length:=⟨_,rfl⟩
 rw [← hk] at hone HB ⊢
 have HO:Aside _:=hone
 clear hT hnl hk hone
 go_enter Tryz.func75,Tryz.ntmps75
 go_wp2_with (at_builtin;refine zY _ rfl _ _ rfl (w.heap.size+1) _ [y] rfl HO.out (by simp) (by simp) pl n cl ls rfl HN.out (HT.out.adds HB.out) hnil hn ?_;intro v5 w5 hR5 hB5;have HR:Aside (aX w5 w.heap.size v5 (y::ls)):=aX.mono hR5 (by omega);have HB5:Aside (Below w.heap.size w w5):=HB.out.trans (hB5.mono (by omega));clear hR5 hB5)
 go_ret
 exact ⟨⟨_,rfl,HR.out⟩,HB5.out⟩
/-! two boxes at the door -/
theorem up2 {w W W2:World} {o o2:Obj} (h:Below (w.heap.size+2) ((w.alloc o).alloc o2) W) (g:Below W.heap.size W W2):Below (w.heap.size+2) ((w.alloc o).alloc o2) W2:=h.trans (g.mono (by have:=h.size;simpa using this))
theorem gG {w W:World} {o o2:Obj} (h:Below (w.heap.size+2) ((w.alloc o).alloc o2) W):Below w.heap.size w W:=(((Below.refl _ _).alloc (Nat.le_refl _) _).alloc (by simp) _).trans (h.mono (by omega))
theorem res2 {w W:World} {o:Obj} {a b:Value} {t:TypeId} (h:Below (w.heap.size+2) ((w.alloc o).alloc (.cells #[a,b] t)) W) :
  (W.cell? ⟨w.heap.size+1,0,none⟩=some a∧W.cell? ⟨w.heap.size+1,1,none⟩=some b)∧(W.frozen? ⟨w.heap.size+1,0,none⟩=false∧W.frozen? ⟨w.heap.size+1,1,none⟩=false):=by
 have:=new2 (w:=w.alloc o) (B:=w.heap.size+2) (by simp) h
 simpa using this
theorem box2 {w W:World} {o2:Obj} {a b:Value} {t:TypeId} (h:Below (w.heap.size+2) ((w.alloc (.cells #[a,b] t)).alloc o2) W) :
  (W.cell? ⟨w.heap.size,0,none⟩=some a∧W.cell? ⟨w.heap.size,1,none⟩=some b)∧(W.frozen? ⟨w.heap.size,0,none⟩=false∧W.frozen? ⟨w.heap.size,1,none⟩=false):=by
 have h2:Below (w.heap.size+1) (w.alloc (.cells #[a,b] t)) W:=((Below.refl _ _).alloc (by simp) _).trans (h.mono (by omega))
 exact new2 (Nat.lt_succ_self _) h2
theorem lG {w W:World} {o o2:Obj} (h:Below (w.heap.size+2) ((w.alloc o).alloc o2) W) (a b:Value):Below w.heap.size w ((W.setCell ⟨w.heap.size+1,0,none⟩ a).setCell ⟨w.heap.size+1,1,none⟩ b) :=
 ((gG h).setCell (p:=⟨w.heap.size+1,0,none⟩) (by simp) _).setCell (p:=⟨w.heap.size+1,1,none⟩) (by simp) _
def mX (er:Int) (at':Int) (l:List Ent) (w:World) (e:Ending) (w':World):Prop :=
 ∃ p c,e=.returned (.tuple #[.slice p l.length c,.agg #[.int .i64 er,.int .i64 at']])∧Lies w' p l∧l.length≤c∧(p=none→c=0)∧Below w.heap.size w w'∧∀ b off s,p=some ⟨b,off,s⟩→w.heap.size≤b
set_option maxHeartbeats 1000000 in
set_option maxRecDepth 100000 in
theorem Ag (a:Option Addr) (k c:Nat) (n:Nat) (pl:Option Addr) (cl:Nat) (w:World) (h:4<n) :
  Calls Tryz.prog 48 #[.agg #[.slice a k c,.slice pl n cl]] w (mX 5 0 [] w):=by
 have h4:(4:Int)<(n:Int):=by omega
 go_enter Tryz.func48,Tryz.ntmps48
 go_wp2
 refine bodyPost_ret (v:=.tuple #[.slice none 0 0,.agg #[.int .i64 5,.int .i64 0]]) (by simp [results,Tryz.results48,go_sem]) rfl ?_
 exact ⟨none,0,rfl,Lies.nil _ _,Nat.le_refl _,fun _=>rfl,((Below.refl _ _).alloc (Nat.le_refl _) _).alloc (by simp) _,nofun⟩
theorem yB {all:List (List Ent)} {k:Nat} {x:List Ent} (hx:all[k]?=some x):dB k (all.drop k)=if (aD true x).1=0 then dB (k+1) (all.drop (k+1)) else ((aD true x).1,k):=by
 obtain ⟨h1,h2⟩:=List.getElem?_eq_some_iff.1 hx
 rw [List.drop_eq_getElem_cons h1,h2,dB]
set_option maxHeartbeats 4000000 in
set_option maxRecDepth 100000 in
theorem CQ (y:Lay) (ls:List Lay) (m:Int) (pl:Option Addr) (cl:Nat) (w:World) (hT:dw w pl ls) (hOK:∀ x∈y::ls,fQ w x) (hnil:pl=none→cl=0) (h4:ls.length≤4)
  (hm:w.cell? ⟨0,0,none⟩=some (.int .i64 m)) :
  Calls Tryz.prog 48 #[.agg #[.slice y.ad y.es.length y.cap,.slice pl ls.length cl]] w (mX (ay ((y::ls).map (·.es))).1 ((ay ((y::ls).map (·.es))).2:Nat) (aB ((y::ls).map (·.es))) w):=by
 have hly:=fun W (hB:Below w.heap.size w W)=>CF y ls pl cl W (hT.kept hB) (by omega) hnil
 obtain ⟨n,hnl⟩:∃ n,n=ls.length:=⟨_,rfl⟩
 have HN:Aside (n=ls.length):=hnl
 have h4z:¬ (4:Int)<(n:Int):=by omega
 obtain ⟨k0,hk0⟩:∃ k0,k0=y.es.length:=⟨_,rfl⟩
 rw [← hnl,← hk0] at hly ⊢
 have HB2:Aside (Below (w.heap.size+2) ((w.alloc (.cells #[.slice y.ad k0 y.cap,.slice pl n cl] 26)).alloc (.cells #[.int .i64 0,.int .i64 0] 46)) ((w.alloc (.cells #[.slice y.ad k0 y.cap,.slice pl n cl] 26)).alloc (.cells #[.int .i64 0,.int .i64 0] 46))):=Below.refl _ _
 have HOK:Aside (∀ x∈y::ls,fQ w x):=hOK
 obtain ⟨all,hall⟩:∃ all,all=y::ls:=⟨_,rfl⟩
 rw [← hall] at HOK ⊢
 have HAL:Aside (all=y::ls):=hall
 obtain ⟨N,hal⟩:∃ N,all.length=N:=⟨_,rfl⟩
 have hN5:N≤5:=by rw [← hal,hall,List.length_cons];omega
 have HLN:Aside (all.length=N):=hal
 obtain ⟨er,her⟩:∃ er,er=(ay (all.map (·.es))).1:=⟨_,rfl⟩
 obtain ⟨ea,hea⟩:∃ ea:Int,ea=((ay (all.map (·.es))).2:Nat):=⟨_,rfl⟩
 obtain ⟨sl,hsl⟩:∃ sl,sl=aB (all.map (·.es)):=⟨_,rfl⟩
 rw [← her,← hea,← hsl]
 have HER:Aside (er=(ay (all.map (·.es))).1∧ea=((ay (all.map (·.es))).2:Nat)∧sl=aB (all.map (·.es))):=⟨her,hea,hsl⟩
 have HWU:Aside (ay (all.map (·.es))=if (dB 0 (all.map (·.es))).1=0 then ((au (all.map (·.es))).1,0) else dB 0 (all.map (·.es))):=by
  show _=_
  unfold ay
  rw [if_neg (by rw [List.length_map,hal];omega)]
 clear hT hOK hnl hk0 hall hal her hea hsl
 go_enter Tryz.func48,Tryz.ntmps48
 go_wp2_with (go_at_call 75;refine (hly _ (gG HB2.out)).mono ?_;clear hly;rintro e w3 ⟨⟨v3,rfl,hR3⟩,hN3⟩;have HB3:Aside (Below (w.heap.size+2) _ w3):=up2 HB2.out hN3;rw [← HAL.out] at hR3;obtain ⟨p3,c3,rfl,hL3⟩:=hR3.form;rw [HLN.out];have HL3:Aside (dw w3 p3 all):=hL3;clear hR3 hN3 HB2 hL3)
 go_loopg [19] N (fun gg s19 wr=>∃ k:Nat,k≤N∧N-k≤gg∧s19=.int .i64 k∧Aside (Below w3.heap.size w3 wr)∧Aside (dB k ((all.map (·.es)).drop k)=dB 0 (all.map (·.es))))
 case atStart=>exact ⟨0,Nat.zero_le _,by omega,rfl,Below.refl _ _,rfl⟩
 case round =>
  obtain ⟨k,hk,hgg,rfl,BW,HE⟩:=hrel
  have HB4:Aside (Below (w.heap.size+2) ((w.alloc (.cells #[.slice y.ad k0 y.cap,.slice pl n cl] 26)).alloc (.cells #[.int .i64 0,.int .i64 0] 46)) wr):=up2 HB3.out BW.out
  by_cases hlt:k<N
  ·have hltz:(k:Int)<(N:Int):=by omega
   obtain ⟨x,hx⟩:∃ x,all[k]?=some x:=⟨_,List.getElem?_eq_getElem (by have:=HLN.out;omega)⟩
   have HX:Aside ((all.map (·.es))[k]?=some x.es):=by show _=_;rw [List.getElem?_map,hx];rfl
   have hok:=(HOK.out x (List.mem_of_getElem? hx)).kept (gG HB4.out)
   have hwr:=pF x.es m x.ad x.cap wr hok.lies hok.fits hok.small hok.cap (held (gG HB4.out) hm)
   rcases HL3.out with h0 | ⟨b,off,rfl,hb,hc⟩
   ·rw [h0] at hx;simp at hx
   have c0:wr.cell? ⟨b,off+k,none⟩=some (.slice x.ad x.es.length x.cap):=(BW.out.cell (p:=⟨b,off+k,none⟩) hb).trans (hc k x hx)
   have HS:=yB HX.out
   have HST:Aside (dB k ((all.map (·.es)).drop k)=if (aD true x.es).1=0 then dB (k+1) ((all.map (·.es)).drop (k+1)) else ((aD true x.es).1,k)):=HS
   clear HS hc hx hok HX
   generalize x.es.length=xl at c0 hwr
   generalize (aD true x.es).1=f1 at hwr HST
   generalize ((aD true x.es).2:Int)=f2 at hwr
   have hfld:=lQ
   by_cases hf:f1=0
   ·have HST':Aside (dB (k+1) ((all.map (·.es)).drop (k+1))=dB 0 (all.map (·.es))):=by show _=_;rw [← HE.out,HST.out,if_pos hf]
    subst hf
    go_wp2_with (go_at_call 76;refine hwr.mono ?_;clear hwr;rintro rr w5 ⟨rfl,hN5⟩;have HB5:Aside (Below w3.heap.size w3 w5):=Below.onto BW.out hN5;clear hN5)
    go_roundg (N-(k+1))
    case measure=>omega
    case rel=>exact ⟨k+1,by omega,by omega,by go_num,HB5.out,HST'.out⟩
   ·have HZ:Aside (er=f1∧ea=(k:Int)∧sl=[]):=by
     have h1:dB 0 (all.map (·.es))=(f1,k):=by rw [← HE.out,HST.out,if_neg hf]
     have h2:ay (all.map (·.es))=(f1,k):=by rw [HWU.out,h1,if_neg hf]
     obtain ⟨h3,h4,h5⟩:=HER.out
     rw [h2] at h3 h4
     refine ⟨h3,h4,?_⟩
     rw [h5,aB,h2,if_neg hf]
    go_wp2_with (go_at_call 76;refine hwr.mono ?_;clear hwr;rintro rr w5 ⟨rfl,hN5⟩;have HB5:Aside (Below (w.heap.size+2) ((w.alloc (.cells #[.slice y.ad k0 y.cap,.slice pl n cl] 26)).alloc (.cells #[.int .i64 0,.int .i64 0] 46)) w5):=up2 HB4.out hN5;obtain ⟨⟨r0,r1⟩,⟨g0,g1⟩⟩:=res2 HB5.out;clear hN5)
    refine bodyPost_ret (v:=.tuple #[.slice none 0 0,.agg #[.int .i64 f1,.int .i64 k]]) (by simp [results,Tryz.results48,go_sem,r0,r1]) rfl ?_
    obtain ⟨h1,h2,h3⟩:=HZ.out
    rw [h1,h2,h3]
    exact ⟨none,0,rfl,Lies.nil _ _,Nat.le_refl _,fun _=>rfl,lG HB5.out _ _,nofun⟩
  ·obtain rfl:k=N:=by omega
   have hltz:¬ (k:Int)<(k:Int):=by omega
   have hmg:=xg all m p3 c3 wr (HL3.out.kept BW.out) (fun x hx=>(HOK.out x hx).kept (gG HB4.out)) (held (gG HB4.out) hm)
   rw [HLN.out] at hmg
   have h0:dB 0 (all.map (·.es))=(0,0):=by rw [← HE.out,List.drop_of_length_le (by rw [List.length_map,HLN.out];exact Nat.le_refl _)];rfl
   have hmL:kX (all.map (·.es))=au (all.map (·.es)):=by rw [kX,if_neg (by rw [List.length_map,HLN.out];omega)]
   rw [hmL] at hmg
   have HZ:Aside (er=(au (all.map (·.es))).1∧ea=0∧sl=(au (all.map (·.es))).2):=by
    have h2:ay (all.map (·.es))=((au (all.map (·.es))).1,0):=by rw [HWU.out,h0,if_pos rfl]
    obtain ⟨h3,h4,h5⟩:=HER.out
    rw [h2] at h3 h4
    refine ⟨h3,h4,?_⟩
    rw [h5,aB,h2]
    by_cases hz:(au (all.map (·.es))).1=0
    ·rw [if_pos hz]
    ·rw [if_neg hz,tQ hz]
   obtain ⟨z1,z2,z3⟩:=HZ.out
   rw [← z1,← z3] at hmg
   subst z2
   clear h0 hmL z1 z3
   go_wp2_with (go_at_call 77;refine hmg.mono ?_;clear hmg;rintro rr w5 ⟨p5,c5,rfl,hL5,hc5,hn5,hN5,hw5⟩;have HB5:Aside (Below (w.heap.size+2) ((w.alloc (.cells #[.slice y.ad k0 y.cap,.slice pl n cl] 26)).alloc (.cells #[.int .i64 0,.int .i64 0] 46)) w5):=up2 HB4.out hN5;obtain ⟨⟨r0,r1⟩,⟨g0,g1⟩⟩:=res2 HB5.out;have HL5:Aside (Lies w5 p5 sl):=hL5;have HW5:Aside _:=hw5;clear hN5 hL5 hw5)
   refine bodyPost_ret (v:=.tuple #[.slice p5 sl.length c5,.agg #[.int .i64 er,.int .i64 0]]) (by simp [results,Tryz.results48,go_sem,r0,r1]) rfl ?_
   have hfar:∀ b off s,p5=some ⟨b,off,s⟩→w.heap.size+1≠b:=fun b off s h=>by
    have h1:=HW5.out b off s h
    have h2:=HB4.out.size
    simp at h2
    omega
   exact ⟨p5,c5,rfl,(HL5.out.gQ _ _ hfar).gQ _ _ hfar,hc5,hn5,lG HB5.out _ _,fun b off s h=>by have:=HW5.out b off s h;have h2:=HB4.out.size;simp at h2;omega⟩
theorem vK (y:Lay) (ls:List Lay) (m:Int) (pl:Option Addr) (cl:Nat) (w:World) (hT:dw w pl ls) (hOK:∀ x∈y::ls,fQ w x) (hnil:pl=none→cl=0)
  (hm:w.cell? ⟨0,0,none⟩=some (.int .i64 m)) :
  Calls Tryz.prog 48 #[.agg #[.slice y.ad y.es.length y.cap,.slice pl ls.length cl]] w (mX (ay ((y::ls).map (·.es))).1 ((ay ((y::ls).map (·.es))).2:Nat) (aB ((y::ls).map (·.es))) w):=by
 by_cases h4:ls.length≤4
 ·exact CQ y ls m pl cl w hT hOK hnil h4 hm
 ·have h1:ay ((y::ls).map (·.es))=(5,0):=by
   unfold ay
   rw [if_pos (by rw [List.length_map,List.length_cons];omega)]
  have h2:aB ((y::ls).map (·.es))=[]:=by rw [aB,h1];rfl
  rw [h1,h2]
  exact Ag _ _ _ _ _ _ _ (by omega)
end Go.Proofs.YthfeoiffoeagkaaGreatDoor
namespace Go.Proofs.YthfeoiffoeagkaaGreatDoor
open Go.RowKit PM Go.Sort
set_option linter.unusedVariables false
theorem qH (s d:ByteArray) (w:World) (hs:s.size≤maxLen) (hd:d.size≤maxLen) :
  Calls Tryz.prog 222 #[.string s,.string d] w fun e w'=>e=.returned (.bool (inW d.data.toList s.data.toList))∧w'=w:=by
 have hun:=fun W=>kR s d W hs hd
 have HH:Aside (inW d.data.toList s.data.toList=(decide (s.data.toList=d.data.toList) || under s.data.toList d.data.toList)):=rfl
 generalize under s.data.toList d.data.toList=u at hun HH
 by_cases h:s.data.toList=d.data.toList
 ·obtain ⟨e1,e2⟩:=jJ h
  have HR:Aside (inW d.data.toList s.data.toList=true):=by show _=_;rw [HH.out,h];simp
  clear hun h
  go_enter Tryz.func222,Tryz.ntmps222
  go_wp2
  go_ret
  exact ⟨aR HR.out.symm,rfl⟩
 ·obtain ⟨e1,e2⟩:=ji h
  have HR:Aside (inW d.data.toList s.data.toList=u):=by show _=_;rw [HH.out];simp [h]
  clear h
  go_enter Tryz.func222,Tryz.ntmps222
  go_wp2_with (go_at_call 186;refine (hun _).mono ?_;rintro r w' ⟨rfl,rfl⟩)
  go_ret
  exact ⟨aR HR.out.symm,rfl⟩
theorem Ef (e:Ent) (q:ByteArray) (B:Nat) (w:World) (he:e.path.size≤maxLen) (hq:q.size≤maxLen) (hB:B<w.heap.size) (hc:w.cell? ⟨B,0,none⟩=some (.string q)) :
  Calls Tryz.prog 221 #[.agg #[.string e.path, .int .i64 e.kind, .string e.text, .bool e.opq],.pointer (some ⟨B,0,none⟩)] w fun r w'=>r=.returned (.bool (inW q.data.toList e.p))∧Grown w w':=by
 have hne:B≠w.heap.size:=by omega
 go_enter Tryz.func221,Tryz.ntmps221
 go_wp2_with (go_at_call 222;refine (qH _ _ _ he hq).mono ?_;rintro r w' ⟨rfl,rfl⟩)
 go_ret
 exact ⟨rfl,(Grown.refl w).alloc _⟩
set_option maxHeartbeats 4000000 in
set_option maxRecDepth 100000 in
theorem Az (t:List Ent) (e:Ent) (p:Option Addr) (cap:Nat) (w:World) (hL:Lies w p t) (hF:Fits t) (hn:t.length<4611686018427387904) (hq:e.path.size≤maxLen) :
  Calls Tryz.prog 216 #[.slice p t.length cap,.agg #[.string e.path, .int .i64 e.kind, .string e.text, .bool e.opq],.func (.func 161) #[] #[]] w (uF t e.p w):=by
 have HF:Aside (Fits t):=hF
 have HL:Aside (Lies w p t):=hL
 clear hL hF
 obtain ⟨n,hnl⟩:∃ n,n=t.length:=⟨_,rfl⟩
 have HN:Aside (n=t.length):=hnl
 rw [← hnl] at hn ⊢
 clear hnl
 have HG0:Aside (Grown (w.alloc (.cells #[.string e.path, .int .i64 e.kind, .string e.text, .bool e.opq] 53)) (w.alloc (.cells #[.string e.path, .int .i64 e.kind, .string e.text, .bool e.opq] 53))):=Grown.refl _
 go_enter Tryz.func216,Tryz.ntmps216
 go_wp2
 go_loopg [9,10] n (fun kx s9 s10 wr=>∃ lo hi:Nat,s9=.int .i64 lo∧s10=.int .i64 hi∧lo≤hi∧hi≤n∧hi-lo≤kx∧Aside (Grown (w.alloc (.cells #[.string e.path, .int .i64 e.kind, .string e.text, .bool e.opq] 53)) wr) ∧
  Aside ((∀ (h:0<lo) (h':lo-1<t.length),cmp (t[lo-1]'h').p e.p<0)∧(∀ (h:hi<t.length),0≤cmp (t[hi]'h).p e.p)))
 case atStart=>exact ⟨0,n,rfl,rfl,Nat.zero_le _,Nat.le_refl _,by omega,HG0.out,(⟨fun h=>absurd h (Nat.not_lt_zero _),fun h=>by have:=HN.out;omega⟩:(∀ (h:0<0) (h':0-1<t.length),cmp (t[0-1]'h').p e.p<0)∧(∀ (h:n<t.length),0≤cmp (t[n]'h).p e.p))⟩
 case round =>
  obtain ⟨lo,hi,rfl,rfl,hlh,hin,hg,S1,I⟩:=hrel
  have hS:Grown w wr:=((Grown.refl w).alloc _).trans S1.out
  obtain ⟨⟨e0,e1,e2,e3⟩,_⟩:=new4 (Nat.lt_succ_self _) (S1.out.below.mono (by simp))
  have hwr:w.heap.size<wr.heap.size:=block_lt_of_cell e0
  have J0:=fun n os=>cell_grown (w:=wr) (a:=⟨w.heap.size,0,none⟩) hwr e0 n os
  have J1:=fun n os=>cell_grown (w:=wr) (a:=⟨w.heap.size,1,none⟩) hwr e1 n os
  have J2:=fun n os=>cell_grown (w:=wr) (a:=⟨w.heap.size,2,none⟩) hwr e2 n os
  have J3:=fun n os=>cell_grown (w:=wr) (a:=⟨w.heap.size,3,none⟩) hwr e3 n os
  have mixed:Tryz.prog.follows .mixedOrders=true:=by kernel_rfl
  by_cases hlt:lo<hi
  ·obtain ⟨md,hmd⟩:∃ md:Nat,(lo+hi) / 2=md:=⟨_,rfl⟩
   have hmz:((lo:Int)+(hi:Int)) / 2=(md:Int):=by omega
   have hml:lo≤md:=by omega
   have hmh:md<hi:=by omega
   have hmn:(md:Int)<(n:Int):=by omega
   have hmn':md<n:=by omega
   clear hmd
   obtain ⟨y,hy⟩:∃ y,t[md]?=some y:=⟨_,List.getElem?_eq_getElem (by have:=HN.out;omega)⟩
   have Y:Aside (t[md]?=some y):=hy
   rcases HL.out with h0 | ⟨b,off,rfl,hb,hc⟩
   ·rw [h0] at hy;simp at hy
   obtain ⟨c0,c1,c2,c3⟩:=Lies.cells hc hb hS.below hy
   have hb':b<wr.heap.size:=block_lt_of_cell c0
   have G0:=fun n os=>cell_grown (w:=wr) (a:=⟨b,off+md*4,none⟩) hb' c0 n os
   have G1:=fun n os=>cell_grown (w:=wr) (a:=⟨b,off+md*4+1,none⟩) hb' c1 n os
   have G2:=fun n os=>cell_grown (w:=wr) (a:=⟨b,off+md*4+2,none⟩) hb' c2 n os
   have G3:=fun n os=>cell_grown (w:=wr) (a:=⟨b,off+md*4+3,none⟩) hb' c3 n os
   have hyp:=(HF.out.at hy).1
   clear hc hy c0 c1 c2 c3 e0 e1 e2 e3
   have hcl:∀ W,Calls Tryz.prog 161 #[.agg #[.string y.path, .int .i64 y.kind, .string y.text, .bool y.opq],.agg #[.string e.path, .int .i64 e.kind, .string e.text, .bool e.opq]] W fun r w'=>r=.returned (.int .i64 (cmp y.p e.p))∧∃ q os',w'=grow (W.drewN q) os':=fun W=>nD y e W hyp hq
   have HI1:Aside (cmp y.p e.p<0→∀ (h:0<md+1) (h':md+1-1<t.length),cmp (t[md+1-1]'h').p e.p<0):=fun h1 _ h'=>by
    have:=(List.getElem?_eq_some_iff.1 Y.out).2;simp only [Nat.add_sub_cancel] at h' ⊢;rw [this];exact h1
   have HI2:Aside (¬ cmp y.p e.p<0→∀ (h:md<t.length),0≤cmp (t[md]'h).p e.p):=fun h1 h=>by
    have:=(List.getElem?_eq_some_iff.1 Y.out).2;rw [this];omega
   generalize cmp y.p e.p=c at hcl HI1 HI2
   by_cases hyx:c<0
   ·go_wp2
    go_quiet_grown (exact Calls.grown_of (hcl _))
    go_wp2
    go_roundg (hi-(md+1))
    case measure=>omega
    case rel =>
     exact ⟨md+1,hi,by go_num,rfl,by omega,hin,Nat.le_refl _,S1.out.trans ⟨_,_,rfl⟩,(⟨HI1.out hyx,I.out.2⟩:_∧_)⟩
   ·go_wp2
    go_quiet_grown (exact Calls.grown_of (hcl _))
    go_wp2
    go_roundg (md-lo)
    case measure=>omega
    case rel =>
     exact ⟨lo,md,rfl,rfl,by omega,by omega,Nat.le_refl _,S1.out.trans ⟨_,_,rfl⟩,(⟨I.out.1,HI2.out hyx⟩:_∧_)⟩
  ·obtain rfl:hi=lo:=by omega
   have PL:Aside (aU t e.p hi):=⟨by have:=HN.out;omega,I.out.1,I.out.2⟩
   by_cases hlen:hi<n
   ·obtain ⟨y,hy⟩:∃ y,t[hi]?=some y:=⟨_,List.getElem?_eq_getElem (by have:=HN.out;omega)⟩
    have Y:Aside (t[hi]?=some y):=hy
    rcases HL.out with h0 | ⟨b,off,rfl,hb,hc⟩
    ·rw [h0] at hy;simp at hy
    obtain ⟨c0,c1,c2,c3⟩:=Lies.cells hc hb hS.below hy
    have hb':b<wr.heap.size:=block_lt_of_cell c0
    have G0:=fun n os=>cell_grown (w:=wr) (a:=⟨b,off+hi*4,none⟩) hb' c0 n os
    have G1:=fun n os=>cell_grown (w:=wr) (a:=⟨b,off+hi*4+1,none⟩) hb' c1 n os
    have G2:=fun n os=>cell_grown (w:=wr) (a:=⟨b,off+hi*4+2,none⟩) hb' c2 n os
    have G3:=fun n os=>cell_grown (w:=wr) (a:=⟨b,off+hi*4+3,none⟩) hb' c3 n os
    have hyp:=(HF.out.at hy).1
    clear hc hy c0 c1 c2 c3 e0 e1 e2 e3
    have hcl:∀ W,Calls Tryz.prog 161 #[.agg #[.string y.path, .int .i64 y.kind, .string y.text, .bool y.opq],.agg #[.string e.path, .int .i64 e.kind, .string e.text, .bool e.opq]] W fun r w'=>r=.returned (.int .i64 (cmp y.p e.p))∧∃ q os',w'=grow (W.drewN q) os':=fun W=>nD y e W hyp hq
    have HA:Aside (isAt t e.p hi=decide (cmp y.p e.p=0)):=by
     obtain ⟨h1,h2⟩:=List.getElem?_eq_some_iff.1 Y.out
     show _=_
     rw [isAt,dif_pos h1,h2,Bool.eq_iff_iff];simp [iJ]
    generalize cmp y.p e.p=c at hcl HA
    have hlz:(hi:Int)<(n:Int):=by omega
    by_cases hyx:c=0
    ·go_wp2
     go_quiet_grown (exact Calls.grown_of (hcl _))
     go_wp2
     go_ret2
     exact ⟨hi,by rw [HA.out];simp [hyx],PL.out,hS.trans ⟨_,_,rfl⟩⟩
    ·go_wp2
     go_quiet_grown (exact Calls.grown_of (hcl _))
     go_wp2
     go_ret2
     exact ⟨hi,by rw [HA.out];simp [hyx],PL.out,hS.trans ⟨_,_,rfl⟩⟩
   ·have hlz:¬ (hi:Int)<(n:Int):=by omega
    have HA:Aside (isAt t e.p hi=false):=by show _=_;rw [isAt,dif_neg];have:=HN.out;omega
    go_wp2
    go_quiet (fail)
    go_wp2
    go_ret2
    exact ⟨hi,by rw [HA.out];first | rfl | (simp;omega) | (simp [hlz];done) | simp,PL.out,hS.drewN _⟩
end Go.Proofs.YthfeoiffoeagkaaGreatDoor
namespace Go.Proofs.YthfeoiffoeagkaaGreatDoor
open Go.RowKit PM Go.Sort
set_option linter.unusedVariables false
structure Moved (U g:Nat) (W W':World):Prop where
 os:W'.os=W.os
 tape:W'.tape=W.tape
 output:W'.output=W.output
 size:W.heap.size≤W'.heap.size
 block:∀ k,k<W.heap.size→k≠U→k≠g→W'.heap[k]?=W.heap[k]?
theorem Moved.fH {U g:Nat} {W W':World} (h:Below W.heap.size W W'):Moved U g W W':=⟨h.os,h.tape,h.output,h.size,fun k hk _ _=>h.block k hk⟩
theorem Moved.refl (U g:Nat) (W:World):Moved U g W W:=Moved.fH (Below.refl _ _)
theorem Moved.Bv {U g:Nat} {W W':World} (h:W.grownBy W' (some g)):Moved U g W W':=⟨h.os,h.tape,h.output,h.size,fun k hk _ hn=>h.block k hk (by simpa using hn)⟩
theorem Moved.set {U g:Nat} {W:World} (o:Nat) (v:Value):Moved U g W (W.setCell ⟨U,o,none⟩ v):=⟨rfl,rfl,rfl,by simp [World.setCell],fun k hk h1 h2=>Below.heap_setCell _ _ _ _ (by intro e;exact h1 (by rw [e]))⟩
theorem Moved.trans {U g g':Nat} {A B C:World} (h:Moved U g A B) (k:Moved U g' B C) (hg:g'=g∨A.heap.size≤g'):Moved U g A C :=
 ⟨k.os.trans h.os,k.tape.trans h.tape,k.output.trans h.output,Nat.le_trans h.size k.size,fun i hi h1 h2=>(k.block i (Nat.lt_of_lt_of_le hi h.size) h1 (by rcases hg with e | e <;> omega)).trans (h.block i hi h1 h2)⟩
theorem Moved.below {U g base:Nat} {W W':World} (h:Moved U g W W') (hU:base≤U) (hg:base≤g) (hb:base≤W.heap.size):Below base W W' :=
 ⟨h.os,h.tape,h.output,h.size,fun k hk=>h.block k (by omega) (by omega) (by omega)⟩
theorem Moved.cell {U g:Nat} {W W':World} (h:Moved U g W W') {a:Addr} (ha:a.block<W.heap.size) (h1:a.block≠U) (h2:a.block≠g):W'.cell? a=W.cell? a:=World.cell?_of_block (h.block _ ha h1 h2)
theorem Moved.frozen {U g:Nat} {W W':World} (h:Moved U g W W') {a:Addr} (ha:a.block<W.heap.size) (h1:a.block≠U) (h2:a.block≠g):W'.frozen? a=W.frozen? a:=World.frozen?_of_block (h.block _ ha h1 h2)
structure UpAt (W:World) (base U:Nat) (own:List Ent) (g c:Nat) (vb:Value):Prop where
 c0:W.cell? ⟨U,0,none⟩=some (.slice (some ⟨g,0,none⟩) own.length c)
 f0:W.frozen? ⟨U,0,none⟩=false
 c1:W.cell? ⟨U,1,none⟩=some vb
 own:Own W g c own
 ne:g≠U
 gb:base≤g
 ub:base≤U
section
variable {W W':World} {base U g c:Nat} {own:List Ent} {vb:Value}
theorem UpAt.ult (h:UpAt W base U own g c vb):U<W.heap.size:=block_lt_of_cell h.c0
theorem UpAt.kept (h:UpAt W base U own g c vb) (hB:Below W.heap.size W W'):UpAt W' base U own g c vb :=
 ⟨(hB.cell (p:=⟨U,0,none⟩) h.ult).trans h.c0,(hB.frozen (p:=⟨U,0,none⟩) h.ult).trans h.f0,(hB.cell (p:=⟨U,1,none⟩) h.ult).trans h.c1,h.own.below hB h.own.lt,h.ne,h.gb,h.ub⟩
end
def bQ (l:List Ent) (base U g:Nat) (vb:Value) (W:World) (r:Ending) (W':World):Prop :=
 r=.returned (.tuple #[])∧(∃ g' c',UpAt W' base U l g' c' vb∧(g'=g∨W.heap.size≤g'))∧Moved U g W W'
theorem jL {b:Bool} {t:List Ent} (h:PM.Good b t):Fits t:=fun e he=>by
 have hw:=h.each e he
 have h1:=bL (bq hw)
 have h2:e.text.size≤100:=by
  unfold aG at hw
  split at hw
  ·cases hw
  ·split at hw
   ·cases hw
   ·split at hw
    ·cases hw
    ·omega
 unfold maxLen
 omega
theorem ng {own:List Ent} {e:Ent} (h:Fits own) (hp:e.path.size≤80) (ht:e.text.size≤maxLen):Fits (bJ own e):=fun x hx=>by
 rcases dZ.1 hx with rfl | ⟨hx,_⟩
 ·have h1:(fixE own e).path=e.path:=by unfold fixE;split <;> rfl
  rw [h1,Ji]
  exact ⟨by unfold maxLen;omega,ht⟩
 ·exact h x hx
theorem xJ {own:List Ent} {e:Ent} {i:Nat} (hp:aU own e.p i) (hs:Sorted own) (hne:e.p≠[]) (hat:isAt own e.p i=false):own.take i++e::own.drop i=bJ own e:=by
 have hno:getL own e.p=none:=bn hne fun x hx hxp=>by have:=(hp.there hs).2 ⟨x,hx,hxp⟩;rw [hat] at this;cases this
 unfold bJ fixE
 rw [hno]
 exact hp.insert hs hat
theorem He {own:List Ent} {e y:Ent} {i:Nat} (hp:aU own e.p i) (hs:Sorted own) (hne:e.p≠[]) (hy:own[i]?=some y) (hyp:y.p=e.p):own.set i { e with opq:=e.kind == 2 && (y.opq || y.kind == 4) }=bJ own e:=by
 obtain ⟨h1,h2⟩:=List.getElem?_eq_some_iff.1 hy
 have hg:getL own e.p=some y:=fM hs (List.mem_of_getElem? hy) hyp hne
 have hat:isAt own e.p i=true:=kD.2 ⟨h1,by rw [h2];exact hyp⟩
 unfold bJ fixE
 rw [hg]
 exact aU.set (e:={ e with opq:=e.kind == 2 && (y.opq || y.kind == 4) }) hp hs hat
theorem uR:∀ (t:List Ent) (q:List UInt8),∃ i,aU t q i
 | [],q=>⟨0,Nat.le_refl _,fun h=>absurd h (Nat.lt_irrefl _),fun h=>absurd h (Nat.not_lt_zero _)⟩
 | x::t,q=>by
  by_cases hx:cmp x.p q<0
  ·obtain ⟨i,h⟩:=uR t q
   refine ⟨i+1,by have:=h.le;simp;omega,fun _ h'=>?_,fun h'=>?_⟩
   ·cases i with
    | zero=>exact hx
    | succ i=>exact h.lo (Nat.succ_pos _) (by simp at h';simpa using h')
   ·exact h.hi (by simpa using h')
  ·exact ⟨0,Nat.zero_le _,fun h=>absurd h (Nat.lt_irrefl _),fun _=>by show 0≤cmp x.p q;omega⟩
theorem PM.aU.uniq {t:List Ent} {q:List UInt8} {i j:Nat} (h:aU t q i) (k:aU t q j) (hs:Sorted t):i=j:=by
 have key:∀ {i j:Nat},aU t q i→aU t q j→¬ i<j:=fun {i j} h k hij=>by
  have hi:i<t.length:=by have:=k.le;omega
  have h1:=h.hi hi
  have h2:=k.below hs hi hij
  omega
 have h1:=key h k
 have h2:=key k h
 omega
theorem uj (t:List Ent) (e:Ent) (i:Nat) (p:Option Addr) (cap:Nat) (w:World) (hL:Lies w p t) (hF:Fits t) (hn:t.length<4611686018427387904) (hq:e.path.size≤maxLen) (hs:Sorted t) (hi:aU t e.p i) :
  Calls Tryz.prog 216 #[.slice p t.length cap,.agg #[.string e.path, .int .i64 e.kind, .string e.text, .bool e.opq],.func (.func 161) #[] #[]] w fun r w'=>r=.returned (.tuple #[.int .i64 i,.bool (isAt t e.p i)])∧∃ q os',w'=grow (w.drewN q) os':=by
 refine (Az t e p cap w hL hF hn hq).mono ?_
 rintro r w' ⟨j,rfl,hj,hG⟩
 rw [hj.uniq hi hs]
 exact ⟨rfl,hG⟩
theorem fu {W6 w7:World} {g:Nat} {o:Obj} (h:(W6.drew.alloc o).grownBy w7 (some g)) {a:Addr} {v:Value} (hc:W6.cell? a=some v) (hn:a.block≠g):w7.cell? a=some v:=by
 have ha:=block_lt_of_cell hc
 rw [gN h (by have h2:(W6.drew.alloc o).heap.size=W6.heap.size+1:=World.size_alloc _ _;omega) hn]
 exact (((Grown.refl W6.drew).alloc o).cell (p:=a) ha).trans hc
theorem qd {W6 w7:World} {g:Nat} {o:Obj} (h:(W6.drew.alloc o).grownBy w7 (some g)) {a:Addr} {v:Value} {b:Bool} (hc:W6.cell? a=some v) (hf:W6.frozen? a=b) (hn:a.block≠g):w7.frozen? a=b:=by
 have ha:=block_lt_of_cell hc
 have h1:w7.frozen? a=(W6.drew.alloc o).frozen? a:=World.frozen?_of_block (h.block _ (by have h2:(W6.drew.alloc o).heap.size=W6.heap.size+1:=World.size_alloc _ _;omega) (by simpa using hn))
 rw [h1]
 exact (((Grown.refl W6.drew).alloc o).below.frozen (p:=a) ha).trans hf
theorem Bj {W W6 w7:World} {base U g g1 c1 g7 c7:Nat} {o tl:List Ent} {vb:Value} {ob:Obj} (hU6:UpAt W6 base U o g1 c1 vb) (hM6:Moved U g W W6) (hG:g1=g∨W.heap.size<g1) (hg7:g7=g1∨(W6.drew.alloc ob).heap.size≤g7) (hO7:Own w7 g7 c7 tl) (hgb7:(W6.drew.alloc ob).grownBy w7 (some g1)) :
  bQ tl base U g vb W (.returned (.tuple #[])) (w7.setCell ⟨U,0,none⟩ (.slice (some ⟨g7,0,none⟩) tl.length c7)):=by
 have hlt:=hU6.ult
 have hs6:(W6.drew.alloc ob).heap.size=W6.heap.size+1:=World.size_alloc _ _
 have hsM:=hM6.size
 have hg1:=hU6.own.lt
 have hne7:g7≠U:=by
  rcases hg7 with h | h
  ·rw [h];exact hU6.ne
  ·omega
 have k0:=fu hgb7 hU6.c0 (Ne.symm hU6.ne)
 have k1:=fu hgb7 hU6.c1 (Ne.symm hU6.ne)
 have f0:=qd hgb7 hU6.c0 hU6.f0 (Ne.symm hU6.ne)
 refine ⟨rfl,⟨g7,c7,⟨World.cell?_setCell_same' _ _ _ (by rw [k0];rfl),by rw [World.frozen?_setCell];exact f0,?_,hO7.kept ?_,hne7,?_,hU6.ub⟩,?_⟩,?_⟩
 ·rw [World.cell?_setCell_other w7 ⟨U,0,none⟩ ⟨U,1,none⟩ _ (fun h=>by cases h)];exact k1
 ·exact Below.heap_setCell _ _ _ _ (by simpa using hne7)
 ·rcases hg7 with h | h
  ·rw [h];exact hU6.gb
  ·have:=hU6.gb;omega
 ·rcases hg7 with h | h
  ·rcases hG with e | e
   ·exact .inl (h.trans e)
   ·exact .inr (by omega)
  ·exact .inr (by omega)
 ·have hM7:Moved U g1 W6 w7:=(Moved.fH (g:=g1) ((((Below.refl _ W6).drew).alloc (Nat.le_refl _) ob))).trans (Moved.Bv hgb7) (.inl rfl)
  have hM8:Moved U g W w7:=hM6.trans hM7 (by rcases hG with e | e;exact .inl e;exact .inr (by omega))
  exact hM8.trans (Moved.set (g:=g) 0 _) (.inl rfl)
structure Two (A B:Nat) (W W':World):Prop where
 os:W'.os=W.os
 tape:W'.tape=W.tape
 output:W'.output=W.output
 size:W'.heap.size=W.heap.size
 block:∀ k,k≠A→k≠B→W'.heap[k]?=W.heap[k]?
theorem Two.set {A B:Nat} {W X:World} (h:Two A B W X) (a:Addr) (v:Value) (ha:a.block=A∨a.block=B):Two A B W (X.setCell a v) :=
 ⟨h.os,h.tape,h.output,by rw [← h.size];simp [World.setCell],fun k h1 h2=>(Below.heap_setCell _ _ _ _ (by intro e;rcases ha with g | g <;> omega)).trans (h.block k h1 h2)⟩
theorem Two.refl (A B:Nat) (W:World):Two A B W W:=⟨rfl,rfl,rfl,rfl,fun _ _ _=>rfl⟩
theorem I5 {W W6 X:World} {base U g g1 c1:Nat} {o l:List Ent} {vb:Value} (ob:Obj) (hU6:UpAt W6 base U o g1 c1 vb) (hM6:Moved U g W W6) (hG:g1=g∨W.heap.size<g1) (hEU:W.heap.size≠U) (hO8:Own X g1 c1 l) (hll:l.length=o.length) (hX:Two W.heap.size g1 W6 X) :
  bQ l base U g vb W (.returned (.tuple #[])) (X.alloc ob).drew:=by
 have hUlt:=hU6.ult
 have hgU:=hU6.ne
 have hB:Below X.heap.size X (X.alloc ob).drew:=((Below.refl _ _).alloc (Nat.le_refl _) _).drew
 have hXU:U<X.heap.size:=by rw [hX.size];exact hUlt
 have hkU:=hX.block U (Ne.symm hEU) (Ne.symm hgU)
 refine ⟨rfl,⟨g1,c1,⟨?_,?_,?_,hO8.below hB hO8.lt,hgU,hU6.gb,hU6.ub⟩,?_⟩,?_⟩
 ·rw [hB.cell (p:=⟨U,0,none⟩) hXU,World.cell?_of_block (w:=W6) hkU,hll];exact hU6.c0
 ·rw [hB.frozen (p:=⟨U,0,none⟩) hXU,World.frozen?_of_block (w:=W6) hkU];exact hU6.f0
 ·rw [hB.cell (p:=⟨U,1,none⟩) hXU,World.cell?_of_block (w:=W6) hkU];exact hU6.c1
 ·rcases hG with h | h
  ·exact .inl h
  ·exact .inr (Nat.le_of_lt h)
 ·have hM7:Moved U g W X:=⟨hX.os.trans hM6.os,hX.tape.trans hM6.tape,hX.output.trans hM6.output,by rw [hX.size];exact hM6.size,fun k hk k1 k2=>(hX.block k (by omega) (by rcases hG with h | h <;> omega)).trans (hM6.block k hk k1 k2)⟩
  exact hM7.trans (Moved.fH (g:=g) hB) (.inl rfl)
theorem nA {W W6:World} {base U g g1 c1 i:Nat} {o:List Ent} {vb:Value} (ob:Obj) (e y:Ent) (b:Bool) (hb:b=(e.kind == 2 && (y.opq || y.kind == 4))) (hU6:UpAt W6 base U o g1 c1 vb) (hM6:Moved U g W W6) (hG:g1=g∨W.heap.size<g1) (hEU:W.heap.size≠U) (hEg:W.heap.size≠g1) (hp:aU o e.p i) (hs:Sorted o) (hne:e.p≠[]) (hy:o[i]?=some y∧y.p=e.p) :
  bQ (bJ o e) base U g vb W (.returned (.tuple #[])) ((((((W6.setCell ⟨W.heap.size,3,none⟩ (.bool b)).setCell ⟨g1,i*4,none⟩ (.string e.path)).setCell ⟨g1,i*4+1,none⟩ (.int .i64 e.kind)).setCell ⟨g1,i*4+2,none⟩ (.string e.text)).setCell ⟨g1,i*4+3,none⟩ (.bool b)).alloc ob).drew:=by
 obtain ⟨h1,_⟩:=List.getElem?_eq_some_iff.1 hy.1
 have hst:=He hp hs hne hy.1 hy.2
 rw [← hb] at hst
 have hO7:Own (W6.setCell ⟨W.heap.size,3,none⟩ (.bool b)) g1 c1 o:=hU6.own.kept (Below.heap_setCell _ _ _ _ (by simpa using Ne.symm hEg))
 have hO8:=hO7.set h1 { e with opq:=b }
 rw [hst] at hO8
 have hT:=((((((Two.refl W.heap.size g1 W6).set ⟨W.heap.size,3,none⟩ (.bool b) (.inl rfl)).set ⟨g1,i*4,none⟩ (.string e.path) (.inr rfl)).set ⟨g1,i*4+1,none⟩ (.int .i64 e.kind) (.inr rfl)).set ⟨g1,i*4+2,none⟩ (.string e.text) (.inr rfl)).set ⟨g1,i*4+3,none⟩ (.bool b) (.inr rfl))
 exact I5 ob hU6 hM6 hG hEU hO8 (by rw [← hst,List.length_set]) hT
theorem rA:∀ (n:Nat) {own:List Ent} (q:List UInt8),q.length≤n→Fits own→q.length≤80→Fits (aC own (mkE (baL q) 2))
 | n,own,q,hn,hF,h80=>by
  have hp:(mkE (baL q) 2).p=q:=fU q 2
  have hsz:(mkE (baL q) 2).path.size=q.length:=by show (baL q).size=_;simp [baL,ByteArray.size]
  have ht:(mkE (baL q) 2).text.size≤maxLen:=by show (ByteArray.mk #[]).size≤maxLen;unfold maxLen;decide
  by_cases h:eT own (aA (mkE (baL q) 2).p)=true
  ·rw [mM h]
   exact ng hF (by rw [hsz];exact h80) ht
  ·rw [nH h]
   have hne:q≠[]:=by
    intro h0
    apply h
    rw [hp,h0]
    exact iy own
   have hsh:=cO hne
   refine ng ?_ (by rw [hsz];exact h80) ht
   rw [hp]
   cases n with
   | zero=>omega
   | succ n=>exact rA n (aA q) (by omega) hF (by omega)
end Go.Proofs.YthfeoiffoeagkaaGreatDoor
namespace Go.Proofs.YthfeoiffoeagkaaGreatDoor
open Go.RowKit PM Go.Sort
set_option linter.unusedVariables false
abbrev MdC (w:World) (a:Option Addr) (k c:Nat) (pl:Option Addr) (n cl:Nat) (er ea:Int) (sl:List Ent):Prop:=∀ W,Below w.heap.size w W→Calls Tryz.prog 48 #[.agg #[.slice a k c,.slice pl n cl]] W (mX er ea sl W)
theorem Fx {w3:World} {B:Nat} {x y:Value} (a b:Value) (r0:w3.cell? ⟨B,0,none⟩=some x) (r1:w3.cell? ⟨B,1,none⟩=some y) (o:Obj) :
  (((w3.setCell ⟨B,0,none⟩ a).setCell ⟨B,1,none⟩ b).alloc o).cell? ⟨B,0,none⟩=some a∧(((w3.setCell ⟨B,0,none⟩ a).setCell ⟨B,1,none⟩ b).alloc o).cell? ⟨B,1,none⟩=some b:=by
 have hlt:=block_lt_of_cell r0
 have h1:((w3.setCell ⟨B,0,none⟩ a).setCell ⟨B,1,none⟩ b).cell? ⟨B,0,none⟩=some a:=by
  rw [World.cell?_setCell_other _ ⟨B,1,none⟩ ⟨B,0,none⟩ _ (fun h=>by cases h)]
  exact World.cell?_setCell_same' _ _ _ (by rw [r0];rfl)
 have h2:((w3.setCell ⟨B,0,none⟩ a).setCell ⟨B,1,none⟩ b).cell? ⟨B,1,none⟩=some b:=by
  refine World.cell?_setCell_same' _ _ _ ?_
  rw [World.cell?_setCell_other _ ⟨B,0,none⟩ ⟨B,1,none⟩ _ (fun h=>by cases h),r1];rfl
 exact ⟨Lib.cell?_alloc_some o h1,Lib.cell?_alloc_some o h2⟩
set_option maxHeartbeats 1000000 in
set_option maxRecDepth 100000 in
theorem zQ (w:World) (a:Option Addr) (k c:Nat) (pl:Option Addr) (n cl:Nat) (er ea:Int) (sl:List Ent) (hmd:MdC w a k c pl n cl er ea sl) :
  Calls Tryz.prog 21 #[.agg #[.slice a k c,.slice pl n cl]] w (eZ er sl w):=by
 have HB1:Aside (Below w.heap.size w (w.alloc (.cells #[.slice a k c,.slice pl n cl] 26))):=(Below.refl _ _).alloc (Nat.le_refl _) _
 go_enter Tryz.func21,Tryz.ntmps21
 go_wp2_with (go_at_call 48;refine (hmd _ HB1.out).mono ?_;clear hmd;rintro e w3 ⟨p3,c3,rfl,hL3,hc3,hn3,hN3,hw3⟩;have HB3:Aside (Below w.heap.size w w3):=Below.onto HB1.out hN3;have HL3:Aside (Lies w3 p3 sl):=hL3;have HW3:Aside (∀ b off s,p3=some ⟨b,off,s⟩→w.heap.size≤b):=(fun b off s h=>by have:=hw3 b off s h;simp at this;omega);clear hN3 hL3 hw3;obtain ⟨sn,hsn⟩:∃ sn,sn=sl.length:=⟨_,rfl⟩;have HSN:Aside (sn=sl.length):=hsn;rw [← hsn] at hc3 ⊢;clear hsn)
 go_quiet (fail)
 go_wp2
 go_ret2
 exact ⟨p3,c3,by rw [← HSN.out];rfl,HL3.out.kept (below_drewN ((Grown.refl w3).alloc _).below _),by rw [← HSN.out];exact hc3,hn3,below_drewN (HB3.out.alloc HB3.out.size _) _,HW3.out⟩
def pX (up B:List Ent) (w:World) (r:Ending) (w':World):Prop :=
 ∃ U g c pB cB base,r=.returned (.pointer (some ⟨U,0,none⟩))∧UpAt w' base U up g c (.slice pB B.length cB)∧w.heap.size≤base∧base≤w'.heap.size∧(∀ X,Below base w' X→Lies X pB B)∧B.length≤cB∧Below w.heap.size w w'
theorem E8 {w:World} {g c:Nat} {up:List Ent} (h:Own w g c up) (a b:Value) (t:TypeId):UpAt (w.alloc (.cells #[.slice (some ⟨g,0,none⟩) up.length c,b] t)) 0 w.heap.size up g c b :=
 ⟨by simp,(new2 (w:=w) (Nat.lt_succ_self _) (Below.refl _ _)).2.1,by simp,h.grown ((Grown.refl w).alloc _),by have:=h.lt;omega,Nat.zero_le _,Nat.zero_le _⟩
set_option maxHeartbeats 2000000 in
set_option maxRecDepth 100000 in
theorem oQ (y:Lay) (ls:List Lay) (m:Int) (pl:Option Addr) (cl:Nat) (w:World) (hy:fQ w y) (hyn:y.ad=none→y.cap=0) (hy80:y.es.length≤80) (hT:dw w pl ls) (hOK:∀ x∈ls,fQ w x) (h4:ls.length≤4) (hz:(au (ls.map (·.es))).1=0)
  (hm:w.cell? ⟨0,0,none⟩=some (.int .i64 m)) :
  Calls Tryz.prog 215 #[.agg #[.slice y.ad y.es.length y.cap,.slice pl ls.length cl]] w (pX y.es (au (ls.map (·.es))).2 w):=by
 have hmg:=fun W (hB:Below w.heap.size w W)=>EJ ls m pl cl W (hT.kept hB) (fun x hx=>(hOK x hx).kept hB) (held hB hm)
 have hmL:kX (ls.map (·.es))=au (ls.map (·.es)):=by rw [kX,if_neg (by rw [List.length_map];omega)]
 rw [hmL,hz] at hmg
 have HY:Aside (∀ W,Below w.heap.size w W→Lies W y.ad y.es):=fun W hB=>hy.lies.kept hB
 have HB1:Aside (Below w.heap.size w (w.alloc (.cells #[.slice y.ad y.es.length y.cap,.slice pl ls.length cl] 26))):=(Below.refl _ _).alloc (Nat.le_refl _) _
 obtain ⟨Bl,hBl⟩:∃ Bl,Bl=(au (ls.map (·.es))).2:=⟨_,rfl⟩
 rw [← hBl] at hmg ⊢
 obtain ⟨a,cc,es⟩:=y
 simp only at hyn hy80 HY HB1 ⊢
 obtain ⟨k,hk⟩:∃ k,k=es.length:=⟨_,rfl⟩
 have HK:Aside (k=es.length):=hk
 rw [← hk] at HB1 hy80 ⊢
 generalize ls.length=n at hmg HB1 h4 ⊢
 obtain ⟨nb,hnb⟩:∃ nb,nb=Bl.length:=⟨_,rfl⟩
 have HNB:Aside (nb=Bl.length):=hnb
 clear hmL hk hnb hy hT hOK hm hBl hz
 go_enter Tryz.func215,Tryz.ntmps215
 go_wp2_with (first
  | (go_at_call 77;refine (hmg _ HB1.out).mono ?_;clear hmg;rintro e w3 ⟨p3,c3,rfl,hL3,hc3,hn3,hN3⟩;have HB3:Aside (Below w.heap.size w w3):=Below.onto HB1.out hN3;have HL3:Aside (Lies w3 p3 Bl):=hL3;rw [← HNB.out] at hc3 ⊢;obtain ⟨⟨u0,u1⟩,_⟩:=new2 (w:=w) (Nat.lt_succ_self _) (hN3.mono (by simp));have hlt:w.heap.size<w3.heap.size:=block_lt_of_cell u0;have hne:w.heap.size≠w3.heap.size:=(by omega);clear hN3 hL3)
  | (at_builtin;refine iH _ rfl _ _ rfl w3.heap.size rfl (iY w3 _ rfl) a k cc es rfl HK.out ((HY.out w3 HB3.out).grown ((Grown.refl _).alloc _)) hyn hy80 (by simp) ?_;intro g c w4 hO hg hB4;have HO:Aside (Own w4 g c es):=hO;have HG:Aside (w3.heap.size≤g):=hg;have HB4:Aside (Below w3.heap.size w3 w4):=((Below.refl _ _).alloc (Nat.le_refl _) _).trans hB4;have hgl:=hO.lt;clear hO hg hB4))
 go_ret
 have hU:=E8 HO.out (.int .i64 0) (.slice p3 nb c3) 228
 rw [← HK.out] at hU
 have hX:Below w3.heap.size w3 (w4.alloc (.cells #[.slice (some ⟨g,0,none⟩) k c,.slice p3 nb c3] 228)):=HB4.out.alloc HB4.out.size _
 refine ⟨w4.heap.size,g,c,p3,c3,w3.heap.size,rfl,⟨?_,hU.f0,?_,hU.own,hU.ne,HG.out,HB4.out.size⟩,HB3.out.size,hX.size,fun X hB=>HL3.out.kept (hX.trans hB),by rw [← HNB.out];exact hc3,Below.onto HB3.out hX⟩
 ·rw [hU.c0,← HK.out]
 ·rw [← HNB.out];exact hU.c1
end Go.Proofs.YthfeoiffoeagkaaGreatDoor
namespace Go.Proofs.YthfeoiffoeagkaaGreatDoor
open Go.RowKit PM Go.Sort
set_option linter.unusedVariables false
theorem yw {ops:Array Oper} {rest:List Oper} {o:Oper} {a:Act} {Q:Exit→Act→World→Prop} (X:World) (hgd:o.guard=none) (s x:Operand)
  (ho:o.op=.call { callee:=.builtin .append,args:=#[s,x],argTypes:=#[24,24] }) (base:Nat) (v:Value) (l:List Lay) (hs:a.eval s=v) (hrow:aX X base v l) (hlen:l.length≤80) (hbase:base≤X.heap.size)
  (ad:Addr) (n cap:Nat) (t:List Lay) (hx:a.eval x=.slice (some ad) n cap) (hn:n=t.length) (hL:∀ j y,t[j]?=some y→X.cell? (ad.add j)=some y.v) (h80:n≤80)
  (h:∀ v' w',aX w' base v' (l++t)→Below base X w'→X.heap.size≤w'.heap.size→(∀ b,b<X.heap.size→v.ownBlock≠some b→w'.heap[b]?=X.heap[b]?)→wpList Tryz.prog ops Q rest (a.put o.dst v') w') :
  wpList Tryz.prog ops Q (o::rest) a X:=by
 obtain ⟨i0,hi,hz0,hz1,hz2⟩:=Ic
 refine wpList_append_own X hgd s x 24 ho base 23 i0 _ 1 24 Tryz.underlying24 hi hz0 hz1 hz2 rfl (by decide) v l.length (l.map Lay.v) hs hrow ad n cap (t.map Lay.v) hx (by rw [List.length_map,hn];omega) (fun j u hu=>?_) (fun u hu=>?_) (by unfold maxLen;omega) (by omega) hbase ?_
 ·rw [List.getElem?_map] at hu
  obtain ⟨y,hy,rfl⟩:=Option.map_eq_some_iff.1 hu
  exact hL j y hy
 ·obtain ⟨y,_,rfl⟩:=List.mem_map.1 hu
  rfl
 ·intro v' w' hown hg _
  refine h v' w' ?_ ((Below.refl base X).grown hg hbase (fun j hj=>(World.ownsRow.lt hrow j hj).1)) hg.size (fun b hb hne=>hg.block b hb (fun e=>hne e.symm))
  unfold aX
  rw [List.length_append,List.map_append,← hn]
  exact hown
def jo (base:Nat) (W:World) (x:Lay):Prop:=∃ b,x.ad=some ⟨b,0,none⟩∧Own W b x.cap x.es∧base≤b
theorem Dm {X:World} {base b c:Nat} {v:Value} {l:List Lay} {es:List Ent} (h:aX X base v l) (hO:Own X b c es):v.ownBlock≠some b:=by
 obtain ⟨_,⟨h2,_⟩ | ⟨g,cap,cur,hv',hg,hh,_⟩⟩:=h
 ·rw [h2];simp [Value.ownBlock]
 ·rw [hv']
  intro e
  simp [Value.ownBlock] at e
  obtain ⟨cur',hc,_⟩:=hO
  rw [← e,hh] at hc
  have:=Option.some.inj hc
  injection this with _ ht _
  exact absurd ht (by decide)
theorem jo.ok {base:Nat} {W:World} {x:Lay} (h:jo base W x) (hF:Fits x.es) (hl:x.es.length≤80):fQ W x∧(x.ad=none→x.cap=0):=by
 obtain ⟨b,hb,hO,_⟩:=h
 exact ⟨⟨by rw [hb];exact hO.lies,hF,hO.len,by omega⟩,fun h=>by rw [hb] at h;cases h⟩
theorem aX.below {w w':World} {base:Nat} {v:Value} {l:List Lay} (h:aX w base v l) (hb:Below w.heap.size w w'):aX w' base v l:=by
 refine ⟨h.1,h.2.imp id ?_⟩
 rintro ⟨g,cap,cur,e,hg,hh,r⟩
 have hlt:g<w.heap.size:=by
  rcases Nat.lt_or_ge g w.heap.size with h' | h'
  ·exact h'
  ·rw [Array.getElem?_eq_none h'] at hh;cases hh
 exact ⟨g,cap,cur,e,hg,by rw [hb.block g hlt];exact hh,r⟩
theorem aX.nil (w:World) (base:Nat):aX w base (.slice none 0 0) []:=World.ownsRow_nil _ _ _ _
def pR (els:List (List Ent)) (w:World) (r:Ending) (w':World):Prop :=
 (∃ v lo,r=.returned v∧aX w' w.heap.size v lo∧lo.map (·.es)=els∧∀ x∈lo,jo w.heap.size w' x)∧Below w.heap.size w w'
theorem Gx (W:World) (y:Lay) (H:Nat) (hH:H=W.heap.size):∀ j z,[y][j]?=some z→(W.alloc (.cells #[.slice y.ad y.es.length y.cap] 23)).cell? ((⟨H,0,none⟩:Addr).add j)=some z.v:=by
 subst hH
 intro j z hz
 cases j with
 | zero=>simp at hz;subst hz;rw [Addr.add_lit];simp [Lay.v]
 | succ j=>simp at hz
set_option maxHeartbeats 4000000 in
set_option maxRecDepth 100000 in
theorem vo (ls:List Lay) (pl:Option Addr) (cl:Nat) (w:World) (hT:dw w pl ls) (hOK:∀ x∈ls,Lies w x.ad x.es∧(x.ad=none→x.cap=0)∧x.es.length≤80) (h4:ls.length≤4) :
  Calls Tryz.prog 57 #[.slice pl ls.length cl] w (pR (ls.map (·.es)) w):=by
 have HT:Aside (dw w pl ls):=hT
 have HOK:Aside (∀ x∈ls,Lies w x.ad x.es∧(x.ad=none→x.cap=0)∧x.es.length≤80):=hOK
 obtain ⟨n,hn⟩:∃ n,n=ls.length:=⟨_,rfl⟩
 have HN:Aside (n=ls.length):=hn
 rw [← hn] at h4 ⊢
 clear hT hOK hn
 go_enter Tryz.func57,Tryz.ntmps57
 go_wp2
 go_loopg [3,8] n (fun gg v i wr=>∃ (k:Nat) (lo:List Lay),k≤n∧n-k≤gg∧i=.int .i64 k∧lo.length=k∧Aside (aX wr w.heap.size v lo)∧Aside (Below w.heap.size w wr)∧Aside (lo.map (·.es)=(ls.take k).map (·.es)∧∀ x∈lo,jo w.heap.size wr x))
 case atStart=>exact ⟨0,[],Nat.zero_le _,by omega,rfl,rfl,aX.nil _ _,Below.refl _ _,(⟨rfl,fun x hx=>by simp at hx⟩:_∧_)⟩
 case round =>
  obtain ⟨k,lo,hk,hgg,rfl,hlo,ST,BW,NM⟩:=hrel
  by_cases hlt:k<n
  ·have hltz:(k:Int)<(n:Int):=by omega
   obtain ⟨x,hx⟩:∃ x,ls[k]?=some x:=⟨_,List.getElem?_eq_getElem (by have:=HN.out;omega)⟩
   obtain ⟨hx1,hx2,hx3⟩:=HOK.out x (List.mem_of_getElem? hx)
   rcases HT.out with h0 | ⟨b,off,rfl,hb,hc⟩
   ·rw [h0] at hx;simp at hx
   have c0:wr.cell? ⟨b,off+k,none⟩=some (.slice x.ad x.es.length x.cap):=(BW.out.cell (p:=⟨b,off+k,none⟩) hb).trans (hc k x hx)
   have HX:Aside (ls[k]?=some x∧Lies wr x.ad x.es):=⟨hx,hx1.kept BW.out⟩
   have hws:=BW.out.size
   clear hc hx hx1
   obtain ⟨xa,xc,xs⟩:=x
   simp only at c0 hx2 hx3
   obtain ⟨xn,hxn⟩:∃ xn,xn=xs.length:=⟨_,rfl⟩
   have HXN:Aside (xn=xs.length):=hxn
   rw [← hxn] at c0 hx3
   clear hxn
   have hgo4:True:=trivial
   go_wp2_with (first
    | (at_builtin;clear hgo4;refine iH (wr.alloc (.cells #[] 53)) rfl _ _ rfl wr.heap.size rfl (iY wr _ rfl) xa xn xc xs rfl HXN.out (HX.out.2.grown ((Grown.refl _).alloc _)) hx2 hx3 (by simp) ?_;intro g c w4 hO hg hB4;have HO:Aside (Own w4 g c xs):=hO;have HB4:Aside (Below wr.heap.size wr w4):=((Below.refl _ _).alloc (Nat.le_refl _) _).trans hB4;have hs4:=HB4.out.size;have hgw:w.heap.size≤g:=Nat.le_trans hws hg;clear hO hg hB4;have hgo5:True:=trivial)
    | (at_builtin;clear hgo5;refine yw (w4.alloc (.cells #[.slice (some ⟨g,0,none⟩) xn c] 23)) rfl _ _ rfl w.heap.size _ lo rfl ((ST.out.below HB4.out).alloc _) (by omega) (by simp;omega) ⟨w4.heap.size,0,none⟩ 1 1 [⟨some ⟨g,0,none⟩,c,xs⟩] rfl rfl (HXN.out ▸ Gx w4 ⟨some ⟨g,0,none⟩,c,xs⟩ _ rfl) (by omega) ?_;intro v5 w5 hR5 hB5 hs5 hK5;have HR5:Aside (aX w5 w.heap.size v5 (lo++[⟨some ⟨g,0,none⟩,c,xs⟩])):=hR5;have HB5:Aside (Below w.heap.size w w5):=((Below.onto BW.out HB4.out).alloc (Below.onto BW.out HB4.out).size _).trans hB5;have HK5:Aside _:=hK5;clear hR5 hB5 hK5))
   go_roundg (n-(k+1))
   case measure=>omega
   case rel =>
    have hA:(lo++[(Lay.mk (some ⟨g,0,none⟩) c xs)]).map (·.es)=(ls.take (k+1)).map (·.es):=by
     obtain ⟨h1,h2⟩:=List.getElem?_eq_some_iff.1 HX.out.1
     rw [List.take_succ_eq_append_getElem h1,List.map_append,List.map_append,NM.out.1,h2]
     rfl
    have key:∀ (b c':Nat) (es:List Ent),Own w4 b c' es→Own w5 b c' es:=fun b c' es hO=>by
     have hO':Own (w4.alloc (.cells #[.slice (some ⟨g,0,none⟩) xn c] 23)) b c' es:=hO.grown ((Grown.refl _).alloc _)
     exact hO'.kept (HK5.out b hO'.lt (Dm ((ST.out.below HB4.out).alloc _) hO'))
    have hL:∀ x∈lo++[(Lay.mk (some ⟨g,0,none⟩) c xs)],jo w.heap.size w5 x:=fun x hx=>by
     rcases List.mem_append.1 hx with hx | hx
     ·obtain ⟨b',hb',hO',hbb⟩:=NM.out.2 x hx
      exact ⟨b',hb',key _ _ _ (hO'.below HB4.out hO'.lt),hbb⟩
     ·rw [List.mem_singleton] at hx
      subst hx
      exact ⟨g,rfl,key _ _ _ HO.out,hgw⟩
    exact ⟨k+1,lo++[(Lay.mk (some ⟨g,0,none⟩) c xs)],by omega,by omega,by go_num,by simp [hlo],HR5.out,HB5.out,(⟨hA,hL⟩:_∧_)⟩
  ·obtain rfl:k=n:=by omega
   have hltz:¬ (k:Int)<(k:Int):=by omega
   go_wp2
   go_ret
   refine ⟨⟨_,lo,rfl,ST.out,?_,NM.out.2⟩,BW.out⟩
   rw [NM.out.1,List.take_of_length_le (by have:=HN.out;omega)]
end Go.Proofs.YthfeoiffoeagkaaGreatDoor
