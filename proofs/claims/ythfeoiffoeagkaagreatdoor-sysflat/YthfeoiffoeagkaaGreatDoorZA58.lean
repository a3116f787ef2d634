/-
  SysFlat: was there no room for something?
-/
import Derived.Test.YthfeoiffoeagkaaGreatDoorZA55
import Derived.Test.YthfeoiffoeagkaaGreatDoorZA57
namespace Go.Proofs.YthfeoiffoeagkaaGreatDoor
open Go.RowKit PM Go.Sort
set_option linter.unusedVariables false
def five (a:An):Bool:=decide (a.err=5)
set_option maxRecDepth 100000 in
set_option maxHeartbeats 1000000 in
theorem Kn (al:List An) (pa:Option Addr) (n ac:Nat) (hn:n=al.length) (hn80:n≤80) (w:World) (h:pU w pa al) :
  Calls Tryz.prog 22 #[.slice pa n ac] w (fun r w'=>r=.returned (.bool (al.any five))∧Below w.heap.size w w'):=by
 have HN:Aside (n=al.length∧pU w pa al):=⟨hn,h⟩
 clear hn h
 go_enter Tryz.func22,Tryz.ntmps22
 go_wp2
 go_loopg [7] n (fun gg i wr=>∃ k:Nat,k≤n∧n-k≤gg∧i=.int .i64 k∧Aside (Below w.heap.size w wr)∧Aside ((al.take k).any five=false))
 case atStart=>exact ⟨0,Nat.zero_le _,by omega,rfl,Below.refl _ _,rfl⟩
 case round =>
  obtain ⟨k,hk,hgg,rfl,HB,HA⟩:=hrel
  by_cases hlt:k<n
  ·have hltz:(k:Int)<(n:Int):=by omega
   obtain ⟨a,ha⟩:∃ a,al[k]?=some a:=⟨_,List.getElem?_eq_getElem (by have:=HN.out.1;omega)⟩
   have hcells:∃ b q c bl,pa=some ⟨b,0,none⟩∧wr.cell? ⟨b,k*4,none⟩=some (.int .i64 a.err)∧wr.cell? ⟨b,k*4+1,none⟩=some (.int .i64 a.n)∧wr.cell? ⟨b,k*4+2,none⟩=some (.string a.text)∧wr.cell? ⟨b,k*4+3,none⟩=some (.slice q bl c):=by
    rcases HN.out.2 with e | ⟨b,e,hb,hh⟩
    ·rw [e] at ha;simp at ha
    ·obtain ⟨q,c,bs,c0,c1,c2,c3,_⟩:=hh k a ha
     exact ⟨b,q,c,_,e,(HB.out.cell (p:=⟨b,k*4,none⟩) hb).trans c0,(HB.out.cell (p:=⟨b,k*4+1,none⟩) hb).trans c1,(HB.out.cell (p:=⟨b,k*4+2,none⟩) hb).trans c2,(HB.out.cell (p:=⟨b,k*4+3,none⟩) hb).trans c3⟩
   obtain ⟨b,q,c,bl,rfl,q0,q1,q2,q3⟩:=hcells
   have HK:Aside (al.take (k+1)=al.take k++[a]):=by show _=_;rw [List.take_add_one,ha];rfl
   have HM:Aside (a∈al):=List.mem_of_getElem? ha
   clear ha
   by_cases h5:a.err=5
   ·have z5:(a.err == 5)=true:=by simp [h5]
    have HT:Aside (al.any five=true):=List.any_eq_true.2 ⟨a,HM.out,by simp [five,h5]⟩
    rw [h5] at q0
    clear h5
    go_wp2
    go_ret
    exact ⟨by rw [HT.out];rfl,HB.out.alloc HB.out.size _⟩
   ·have z5:(a.err == 5)=false:=by simpa using h5
    have HZ:Aside ((al.take (k+1)).any five=false):=by show _=_;rw [HK.out,List.any_append,HA.out];simp [five,h5]
    clear h5
    go_wp2
    go_roundg (n-(k+1))
    case measure=>omega
    case rel=>exact ⟨k+1,by omega,by omega,by go_num,HB.out.alloc HB.out.size _,HZ.out⟩
  ·have hltz:¬ (k:Int)<(n:Int):=by omega
   obtain rfl:k=n:=by omega
   have HT:Aside (al.any five=false):=by show _=_;rw [← List.take_length (l:=al),← HN.out.1];exact HA.out
   go_wp2
   go_ret
   exact ⟨by rw [HT.out];rfl,HB.out⟩
theorem LH {w:World} {p:Option Addr} {c:Nat} {es:List Ent} (h1:Lies w p es) (h2:es.length≤c) (h3:p=none→c=0) (hf:Fits es) (hn:es.length≤80):UnOK w ⟨p,c,es⟩ [] none 0 :=
 ⟨⟨h1,hf,h2,by show es.length<_;omega⟩,h3,.inl rfl,fun x hx=>(by simp at hx),fun _=>rfl,Nat.le_refl _⟩
def LV (es:List Ent) (n:Nat) (Y:World) (r:Ending) (w':World):Prop:=∃ p c,r=.returned (.tuple #[.slice p n c,.int .i64 0])∧Aside (UnOK w' ⟨p,c,es⟩ [] none 0)∧Below Y.heap.size Y w'
structure Lf (W:World) (y:Lay) (lo:List Lay) (pl:Option Addr) (cl:Nat) (pc:Option Addr) (n cc yn ln sn m1 o1 m2 o2:Nat) (sl:List Ent) (s1 s2:Sy) (al bl:List An):Prop where
 see:∀ Y,Below W.heap.size W Y→Calls Tryz.prog 21 #[.agg #[.slice y.ad yn y.cap,.slice pl ln cl]] Y (LV sl sn Y)
 one:∀ Y,Below W.heap.size W Y→Calls Tryz.prog 16 #[.agg #[.slice y.ad yn y.cap,.slice pl ln cl],.slice pc n cc] Y (Lh s1 al n m1 o1 Y)
 two:∀ Y p c,Below W.heap.size W Y→UnOK Y ⟨p,c,sl⟩ [] none 0→Calls Tryz.prog 16 #[.agg #[.slice p sn c,.slice none 0 0],.slice pc n cc] Y (Lh s2 bl n m2 o2 Y)
 n80:n≤80
theorem Ll (y:Lay) (lo:List Lay) (pl:Option Addr) (cl:Nat) (pc:Option Addr) (cc:Nat) (l:List Cl) (W:World) (hU:UnOK W y lo pl cl) (hg:Gl W.heap.size W) (h0:(ay (y.es::lo.map (·.es))).1=0) (hn:l.length≤80) (hC:fC W pc l) (hs:∀ c∈l,c.Small) :
  Lf W y lo pl cl pc l.length cc y.es.length lo.length (aB (y.es::lo.map (·.es))).length ((aO y.es (lo.map (·.es))).run l).1.seen.length ((aO y.es (lo.map (·.es))).run l).1.reach.length ((aO (aB (y.es::lo.map (·.es))) []).run l).1.seen.length ((aO (aB (y.es::lo.map (·.es))) []).run l).1.reach.length (aB (y.es::lo.map (·.es))) ((aO y.es (lo.map (·.es))).run l).1 ((aO (aB (y.es::lo.map (·.es))) []).run l).1 ((aO y.es (lo.map (·.es))).run l).2 ((aO (aB (y.es::lo.map (·.es))) []).run l).2:=by
 have hr:Right false (aB (y.es::lo.map (·.es))):=aK _
 have h1:=fun Y (hY:Below W.heap.size W Y)=>uS y lo pl cl pc cc l Y (hU.kept hY) (hg.up hY) h0 hn (hC.kept hY) hs
 have h2:=fun Y (hY:Below W.heap.size W Y)=>(hg.up hY).2.elim fun m hm=>qD y lo m pl cl Y (hU.kept hY) hm
 rw [h0] at h2
 generalize aB (y.es::lo.map (·.es))=sl at hr h2 ⊢
 refine ⟨fun Y hY=>(h2 Y hY).mono fun r w' ⟨p,c,e,a1,a2,a3,a4,a5⟩=>⟨p,c,e,LH a1 a2 a3 (qC hr) hr.len,a4⟩,fun Y hY=>(h1 Y hY).mono fun r w' hp=>hp.n (wK _ _).symm rfl rfl,fun Y p c hY hV=>?_,hn⟩
 have h3:=uS ⟨p,c,sl⟩ [] none 0 pc cc l Y hV (hg.up hY)
 simp only [List.map_nil] at h3
 exact (h3 (Kq hr).1 hn (hC.kept hY) hs).mono fun r w' hp=>hp.n (wK _ _).symm rfl rfl
set_option maxRecDepth 100000 in
set_option maxHeartbeats 800000 in
theorem LB (y:Lay) (lo:List Lay) (pl:Option Addr) (cl:Nat) (pc:Option Addr) (cc n yn ln sn m1 o1:Nat) (sl:List Ent) (s1 s2:Sy) (al:List An) (W:World) (hg:Gl W.heap.size W) (hF:Lf W y lo pl cl pc n cc yn ln sn m1 o1 m1 o1 sl s1 s2 al al) (hna:al.any five=false) (hla:n=al.length) (hm:∀ a∈al,a.names.length≤80) (hse:s1.seen=s2.seen) (hm1:m1=s1.seen.length) :
  sH 4 #[.agg #[.slice y.ad yn y.cap,.slice pl ln cl],.slice pc n cc] W:=by
 have hB1:Below W.heap.size W (W.alloc (.cells #[.slice y.ad yn y.cap,.slice pl ln cl] 26)):=((Grown.refl W).alloc _).below
 have hal:=mY _ (hg.up hB1)
 have HB1:Aside (Below W.heap.size W (W.alloc (.cells #[.slice y.ad yn y.cap,.slice pl ln cl] 26))):=hB1
 have HM:Aside (al.any five=false∧(∀ a∈al,a.names.length≤80)∧s1.seen=s2.seen∧m1=s1.seen.length∧n=al.length):=⟨hna,hm,hse,hm1,hla⟩
 have hsn:=hF.see
 have hp1:=hF.one
 have hp2:=hF.two
 have hn80:=hF.n80
 have hfl:=fun pa ac Y (h:pU Y pa al)=>Kn al pa n ac hla hn80 Y h
 rw [hna] at hfl
 clear hF hB1 hg hna hm hse hm1 hla
 have hgoF:True:=trivial
 go_enter Tryz.func4,Tryz.ntmps4
 go_wp2_with (first
  | (go_at_call 20;refine hal.mono ?_;clear hal;rintro r w2 ⟨rfl,hB2⟩;have H2:Aside (Below W.heap.size W w2):=Below.onto HB1.out hB2;have c0:=(hB2.cell (p:=⟨W.heap.size,0,none⟩) (by simp)).trans (by simp:(W.alloc (.cells #[.slice y.ad yn y.cap,.slice pl ln cl] 26)).cell? ⟨W.heap.size,0,none⟩=some (.slice y.ad yn y.cap));have c1:=(hB2.cell (p:=⟨W.heap.size,1,none⟩) (by simp)).trans (by simp:(W.alloc (.cells #[.slice y.ad yn y.cap,.slice pl ln cl] 26)).cell? ⟨W.heap.size,1,none⟩=some (.slice pl ln cl));have l2:W.heap.size<w2.heap.size:=block_lt_of_cell c0;clear hB2)
  | (go_at_call 21;refine (hsn _ H2.out).mono ?_;clear hsn;rintro r w3 ⟨p,c,rfl,HV,hB3⟩;have H3:Aside (Below W.heap.size W w3):=Below.onto H2.out hB3;have d0:=(hB3.cell (p:=⟨W.heap.size,0,none⟩) l2).trans c0;have d1:=(hB3.cell (p:=⟨W.heap.size,1,none⟩) l2).trans c1;clear hB3 c0 c1)
  | (go_at_call 16;refine (hp1 _ H3.out).mono ?_;clear hp1;rintro r w4 ⟨y4,lo4,pl4,cl4,ps4,sc4,yn4,ln4,pa4,ac4,rfl,hB4,HP4⟩;have H4:Aside (Below W.heap.size W w4∧UnOK w4 ⟨p,c,sl⟩ [] none 0):=⟨Below.onto H3.out hB4,HV.out.kept hB4⟩;clear hB4)
  | (go_at_call 16;have HB5:Aside (Below w4.heap.size w4 (w4.alloc (.cells #[.slice y4.ad yn4 y4.cap,.slice pl4 ln4 cl4,.slice ps4 m1 sc4,.int .i64 o1] 29))):=((Grown.refl w4).alloc _).below;have x2:(w4.alloc (.cells #[.slice y4.ad yn4 y4.cap,.slice pl4 ln4 cl4,.slice ps4 m1 sc4,.int .i64 o1] 29)).cell? ⟨w4.heap.size,2,none⟩=some (.slice ps4 m1 sc4):=(by simp);have x3:(w4.alloc (.cells #[.slice y4.ad yn4 y4.cap,.slice pl4 ln4 cl4,.slice ps4 m1 sc4,.int .i64 o1] 29)).cell? ⟨w4.heap.size,3,none⟩=some (.int .i64 o1):=(by simp);refine (hp2 _ p c (Below.onto H4.out.1 HB5.out) (H4.out.2.kept HB5.out)).mono ?_;clear hp2;rintro r w6 ⟨y6,lo6,pl6,cl6,ps6,sc6,yn6,ln6,pa6,ac6,rfl,hB6,HP6⟩;have l4:=block_lt_of_cell x2;replace x2:=(hB6.cell (p:=⟨w4.heap.size,2,none⟩) l4).trans x2;replace x3:=(hB6.cell (p:=⟨w4.heap.size,3,none⟩) l4).trans x3;have H6:Aside (Below W.heap.size W w6∧pU w6 pa4 al∧Lies w6 ps4 s1.seen∧pU w6 pa6 al∧Lies w6 ps6 s1.seen):=⟨Below.onto (Below.onto H4.out.1 HB5.out) hB6,HP4.out.2.2.2.2.2.2.kept (Below.onto HB5.out hB6),HP4.out.2.2.2.2.2.1.kept (Below.onto HB5.out hB6),HP6.out.2.2.2.2.2.2,by rw [HM.out.2.2.1];exact HP6.out.2.2.2.2.2.1⟩;clear hB6 HP4 HP6 HB5)
  | (clear hgoF;go_at_call 22;have HB7:Aside (Below w6.heap.size w6 (w6.alloc (.cells #[.slice y6.ad yn6 y6.cap,.slice pl6 ln6 cl6,.slice ps6 m1 sc6,.int .i64 o1] 29))):=((Grown.refl w6).alloc _).below;have y2:(w6.alloc (.cells #[.slice y6.ad yn6 y6.cap,.slice pl6 ln6 cl6,.slice ps6 m1 sc6,.int .i64 o1] 29)).cell? ⟨w6.heap.size,2,none⟩=some (.slice ps6 m1 sc6):=(by simp);have y3:(w6.alloc (.cells #[.slice y6.ad yn6 y6.cap,.slice pl6 ln6 cl6,.slice ps6 m1 sc6,.int .i64 o1] 29)).cell? ⟨w6.heap.size,3,none⟩=some (.int .i64 o1):=(by simp);refine (hfl pa4 ac4 _ (H6.out.2.1.kept HB7.out)).mono ?_;rintro r w7 ⟨rfl,hB7⟩;have l5:=block_lt_of_cell y2;replace y2:=(hB7.cell (p:=⟨w6.heap.size,2,none⟩) l5).trans y2;replace y3:=(hB7.cell (p:=⟨w6.heap.size,3,none⟩) l5).trans y3;have H7:Aside (Below w6.heap.size w6 w7):=Below.onto HB7.out hB7;clear hB7 HB7)
  | (go_at_call 22;refine (hfl pa6 ac6 _ (H6.out.2.2.2.1.kept H7.out)).mono ?_;clear hfl;rintro r w8 ⟨rfl,hB8⟩;have l6:=block_lt_of_cell y2;replace y2:=(hB8.cell (p:=⟨w6.heap.size,2,none⟩) l6).trans y2;replace y3:=(hB8.cell (p:=⟨w6.heap.size,3,none⟩) l6).trans y3;have H8:Aside (Below w6.heap.size w6 w8):=Below.onto H7.out hB8;clear hB8 H7 l6))
 have lx:=block_lt_of_cell x2
 replace x2:=(H8.out.cell (p:=⟨w4.heap.size,2,none⟩) lx).trans x2
 replace x3:=(H8.out.cell (p:=⟨w4.heap.size,3,none⟩) lx).trans x3
 have HA:Aside (Below W.heap.size W w8∧pU w8 pa4 al∧Lies w8 ps4 s1.seen∧pU w8 pa6 al∧Lies w8 ps6 s1.seen):=⟨Below.onto H6.out.1 H8.out,H6.out.2.1.kept H8.out,H6.out.2.2.1.kept H8.out,H6.out.2.2.2.1.kept H8.out,H6.out.2.2.2.2.kept H8.out⟩
 have hly:=block_lt_of_cell y2
 replace lx:=block_lt_of_cell x2
 clear H6 H8
 generalize w6.heap.size=Y6 at y2 y3 hly ⊢
 generalize w4.heap.size=X4 at x2 x3 lx ⊢
 go_loopg [55] n (fun gg i wr=>∃ k:Nat,k≤n∧n-k≤gg∧i=.int .i64 k∧Aside (Below w8.heap.size w8 wr))
 case atStart=>exact ⟨0,Nat.zero_le _,by omega,rfl,Below.refl _ _⟩
 case round =>
  obtain ⟨k,hk,hgg,rfl,HI⟩:=hrel
  by_cases hlt:k<n
  ·have hltz:(k:Int)<(n:Int):=by omega
   obtain ⟨b,b',er,nn,tx,q,q',c,c',m,e1,e2,g0,g1,g2,g3,h0,h1,h2,h3,HS⟩:=Kv (HA.out.2.1.kept HI.out) (HA.out.2.2.2.1.kept HI.out) (k:=k) (by rw [← HM.out.2.2.2.2];exact hlt) HM.out.2.1
   subst e1 e2
   have lb:=block_lt_of_cell g0
   have lb':=block_lt_of_cell h0
   clear x2 x3 y2 y3
   go_wp2
   go_region_held3 (fun w'=>(w'.cell? ⟨b,k*4,none⟩=some (.int .i64 er)∧w'.cell? ⟨b,k*4+1,none⟩=some (.int .i64 nn)∧w'.cell? ⟨b,k*4+2,none⟩=some (.string tx)∧w'.cell? ⟨b,k*4+3,none⟩=some (.slice q m c))∧(w'.cell? ⟨b',k*4,none⟩=some (.int .i64 er)∧w'.cell? ⟨b',k*4+1,none⟩=some (.int .i64 nn)∧w'.cell? ⟨b',k*4+2,none⟩=some (.string tx)∧w'.cell? ⟨b',k*4+3,none⟩=some (.slice q' m c'))) (go_keep) (first
    | (go_at_call 19;refine (HS.out _ (Below.refl _ _).drew).mono ?_;rintro r w9 ⟨rfl,hB9⟩;have HB9:Aside (Below wr.heap.size wr w9):=((Below.refl _ _).drew).trans hB9;have z0:=(HB9.out.cell (p:=⟨b,k*4,none⟩) lb).trans g0;have z1:=(HB9.out.cell (p:=⟨b,k*4+1,none⟩) lb).trans g1;have z2:=(HB9.out.cell (p:=⟨b,k*4+2,none⟩) lb).trans g2;have z3:=(HB9.out.cell (p:=⟨b,k*4+3,none⟩) lb).trans g3;have z4:=(HB9.out.cell (p:=⟨b',k*4,none⟩) lb').trans h0;have z5:=(HB9.out.cell (p:=⟨b',k*4+1,none⟩) lb').trans h1;have z6:=(HB9.out.cell (p:=⟨b',k*4+2,none⟩) lb').trans h2;have z7:=(HB9.out.cell (p:=⟨b',k*4+3,none⟩) lb').trans h3;clear hB9))
   all_goals
    go_wp2
    go_roundg (n-(k+1))
    case measure=>omega
    case rel=>exact ⟨k+1,by omega,by omega,by go_num,Below.onto HI.out HB9.out⟩
  ·have hltz:¬ (k:Int)<(n:Int):=by omega
   obtain rfl:k=n:=by omega
   replace x2:=(HI.out.cell (p:=⟨X4,2,none⟩) lx).trans x2
   replace x3:=(HI.out.cell (p:=⟨X4,3,none⟩) lx).trans x3
   replace y2:=(HI.out.cell (p:=⟨Y6,2,none⟩) hly).trans y2
   replace y3:=(HI.out.cell (p:=⟨Y6,3,none⟩) hly).trans y3
   have hsm:=Kc s1.seen ps4 ps6 sc4 sc6 wr (HA.out.2.2.1.kept HI.out) (HA.out.2.2.2.2.kept HI.out) (by have:=(aK s1.all).len;have:s1.seen.length≤80:=this;omega)
   rw [← HM.out.2.2.2.1] at hsm
   have l8:=block_lt_of_cell x3
   have l9:=block_lt_of_cell y3
   go_wp2_with (first
    | (go_at_call 23;refine hsm.mono ?_;clear hsm;rintro r w9 ⟨rfl,hB9⟩;have H9:Aside (Below wr.heap.size wr w9):=hB9;have u3:=(hB9.cell (p:=⟨X4,3,none⟩) l8).trans x3;have v3:=(hB9.cell (p:=⟨Y6,3,none⟩) l9).trans y3;clear hB9))
   go_ret
   exact ⟨by simp,Below.onto (Below.onto HA.out.1 HI.out) H9.out⟩
set_option maxRecDepth 100000 in
set_option maxHeartbeats 800000 in
theorem KO (y:Lay) (lo:List Lay) (pl:Option Addr) (cl:Nat) (pc:Option Addr) (cc n yn ln sn m1 o1 m2 o2:Nat) (sl:List Ent) (s1 s2:Sy) (al bl:List An) (W:World) (hg:Gl W.heap.size W) (hF:Lf W y lo pl cl pc n cc yn ln sn m1 o1 m2 o2 sl s1 s2 al bl) (F:Bool) (hna:al.any five=F) (hnb:F=false→bl.any five=true) (hla:n=al.length) (hlb:n=bl.length) :
  sH 4 #[.agg #[.slice y.ad yn y.cap,.slice pl ln cl],.slice pc n cc] W:=by
 have hB1:Below W.heap.size W (W.alloc (.cells #[.slice y.ad yn y.cap,.slice pl ln cl] 26)):=((Grown.refl W).alloc _).below
 have hal:=mY _ (hg.up hB1)
 have HB1:Aside (Below W.heap.size W (W.alloc (.cells #[.slice y.ad yn y.cap,.slice pl ln cl] 26))):=hB1
 have hsn:=hF.see
 have hp1:=hF.one
 have hp2:=hF.two
 have hn80:=hF.n80
 have hfl:=fun pa ac Y (h:pU Y pa al)=>Kn al pa n ac hla hn80 Y h
 have hfb:=fun pa ac Y (h:pU Y pa bl)=>Kn bl pa n ac hlb hn80 Y h
 rw [hna] at hfl
 clear hF hB1 hg hna hla hlb
 have hgoF:True:=trivial
 obtain ⟨B,hB⟩:∃ B,bl.any five=B:=⟨_,rfl⟩
 rw [hB] at hfb hnb
 have hc:F=true∨F=false∧B=true:=by
  cases F with
  | true=>exact .inl rfl
  | false=>exact .inr ⟨rfl,hnb rfl⟩
 clear hnb hB
 rcases hc with rfl | ⟨rfl,rfl⟩
 all_goals
  go_enter Tryz.func4,Tryz.ntmps4
  go_wp2_with (first
   | (go_at_call 20;refine hal.mono ?_;clear hal;rintro r w2 ⟨rfl,hB2⟩;have H2:Aside (Below W.heap.size W w2):=Below.onto HB1.out hB2;have c0:=(hB2.cell (p:=⟨W.heap.size,0,none⟩) (by simp)).trans (by simp:(W.alloc (.cells #[.slice y.ad yn y.cap,.slice pl ln cl] 26)).cell? ⟨W.heap.size,0,none⟩=some (.slice y.ad yn y.cap));have c1:=(hB2.cell (p:=⟨W.heap.size,1,none⟩) (by simp)).trans (by simp:(W.alloc (.cells #[.slice y.ad yn y.cap,.slice pl ln cl] 26)).cell? ⟨W.heap.size,1,none⟩=some (.slice pl ln cl));have l2:W.heap.size<w2.heap.size:=block_lt_of_cell c0;clear hB2)
   | (go_at_call 21;refine (hsn _ H2.out).mono ?_;clear hsn;rintro r w3 ⟨p,c,rfl,HV,hB3⟩;have H3:Aside (Below W.heap.size W w3):=Below.onto H2.out hB3;have d0:=(hB3.cell (p:=⟨W.heap.size,0,none⟩) l2).trans c0;have d1:=(hB3.cell (p:=⟨W.heap.size,1,none⟩) l2).trans c1;clear hB3 c0 c1)
   | (go_at_call 16;refine (hp1 _ H3.out).mono ?_;clear hp1;rintro r w4 ⟨y4,lo4,pl4,cl4,ps4,sc4,yn4,ln4,pa4,ac4,rfl,hB4,HP4⟩;have H4:Aside (Below W.heap.size W w4∧UnOK w4 ⟨p,c,sl⟩ [] none 0):=⟨Below.onto H3.out hB4,HV.out.kept hB4⟩;clear hB4)
   | (go_at_call 16;have HB5:Aside (Below w4.heap.size w4 (w4.alloc (.cells #[.slice y4.ad yn4 y4.cap,.slice pl4 ln4 cl4,.slice ps4 m1 sc4,.int .i64 o1] 29))):=((Grown.refl w4).alloc _).below;refine (hp2 _ p c (Below.onto H4.out.1 HB5.out) (H4.out.2.kept HB5.out)).mono ?_;clear hp2;rintro r w6 ⟨y6,lo6,pl6,cl6,ps6,sc6,yn6,ln6,pa6,ac6,rfl,hB6,HP6⟩;have H6:Aside (Below W.heap.size W w6∧pU w6 pa4 al∧pU w6 pa6 bl):=⟨Below.onto (Below.onto H4.out.1 HB5.out) hB6,HP4.out.2.2.2.2.2.2.kept (Below.onto HB5.out hB6),HP6.out.2.2.2.2.2.2⟩;clear hB6 HP4 HP6 HB5)
   | (clear hgoF;go_at_call 22;have HB7:Aside (Below w6.heap.size w6 (w6.alloc (.cells #[.slice y6.ad yn6 y6.cap,.slice pl6 ln6 cl6,.slice ps6 m2 sc6,.int .i64 o2] 29))):=((Grown.refl w6).alloc _).below;refine (hfl pa4 ac4 _ (H6.out.2.1.kept HB7.out)).mono ?_;rintro r w7 ⟨rfl,hB7⟩;have H7:Aside (Below w6.heap.size w6 w7):=Below.onto HB7.out hB7;clear hB7 HB7)
   | (go_at_call 22;refine (hfb pa6 ac6 _ (H6.out.2.2.kept H7.out)).mono ?_;clear hfb;rintro r w8 ⟨rfl,hB8⟩;have H8:Aside (Below w6.heap.size w6 w8):=Below.onto H7.out hB8;clear hB8))
  go_ret
  first
   | exact ⟨rfl,Below.onto H6.out.1 H8.out⟩
   | exact ⟨rfl,Below.onto H6.out.1 H7.out⟩
set_option maxRecDepth 100000 in
set_option maxHeartbeats 800000 in
theorem LA (y:Lay) (lo:List Lay) (pl:Option Addr) (cl:Nat) (pc:Option Addr) (n cc yn ln sn:Nat) (sl:List Ent) (W:World) (hg:Gl W.heap.size W) (hsn:∀ Y,Below W.heap.size W Y→Calls Tryz.prog 21 #[.agg #[.slice y.ad yn y.cap,.slice pl ln cl]] Y (LV sl sn Y)) (hp1:∀ Y,Below W.heap.size W Y→Calls Tryz.prog 16 #[.agg #[.slice y.ad yn y.cap,.slice pl ln cl],.slice pc n cc] Y (Kl 5 Y)) (hp2:∀ Y p c,Below W.heap.size W Y→UnOK Y ⟨p,c,sl⟩ [] none 0→Calls Tryz.prog 16 #[.agg #[.slice p sn c,.slice none 0 0],.slice pc n cc] Y (Kl 5 Y)) :
  sH 4 #[.agg #[.slice y.ad yn y.cap,.slice pl ln cl],.slice pc n cc] W:=by
 have hB1:Below W.heap.size W (W.alloc (.cells #[.slice y.ad yn y.cap,.slice pl ln cl] 26)):=((Grown.refl W).alloc _).below
 have hal:=mY _ (hg.up hB1)
 have HB1:Aside (Below W.heap.size W (W.alloc (.cells #[.slice y.ad yn y.cap,.slice pl ln cl] 26))):=hB1
 have hfl:=fun Y=>Kn [] none 0 0 rfl (by decide) Y (.inl rfl)
 have hsm:=fun Y=>Kc [] none none 0 0 Y (Lies.nil _ _) (Lies.nil _ _) (by decide)
 have hgoF:True:=trivial
 clear hB1 hg
 go_enter Tryz.func4,Tryz.ntmps4
 go_wp2_with (first
  | (go_at_call 20;refine hal.mono ?_;clear hal;rintro r w2 ⟨rfl,hB2⟩;have H2:Aside (Below W.heap.size W w2):=Below.onto HB1.out hB2;have c0:=(hB2.cell (p:=⟨W.heap.size,0,none⟩) (by simp)).trans (by simp:(W.alloc (.cells #[.slice y.ad yn y.cap,.slice pl ln cl] 26)).cell? ⟨W.heap.size,0,none⟩=some (.slice y.ad yn y.cap));have c1:=(hB2.cell (p:=⟨W.heap.size,1,none⟩) (by simp)).trans (by simp:(W.alloc (.cells #[.slice y.ad yn y.cap,.slice pl ln cl] 26)).cell? ⟨W.heap.size,1,none⟩=some (.slice pl ln cl));have l2:W.heap.size<w2.heap.size:=block_lt_of_cell c0;clear hB2)
  | (go_at_call 21;refine (hsn _ H2.out).mono ?_;clear hsn;rintro r w3 ⟨p,c,rfl,HV,hB3⟩;have H3:Aside (Below W.heap.size W w3):=Below.onto H2.out hB3;have d0:=(hB3.cell (p:=⟨W.heap.size,0,none⟩) l2).trans c0;have d1:=(hB3.cell (p:=⟨W.heap.size,1,none⟩) l2).trans c1;clear hB3 c0 c1)
  | (go_at_call 16;refine (hp1 _ H3.out).mono ?_;clear hp1;rintro r w4 ⟨rfl,hB4⟩;have H4:Aside (Below W.heap.size W w4∧UnOK w4 ⟨p,c,sl⟩ [] none 0):=⟨Below.onto H3.out hB4,HV.out.kept hB4⟩;clear hB4)
  | (go_at_call 16;have HB5:Aside (Below w4.heap.size w4 (w4.alloc (.cells #[.slice none 0 0,.slice none 0 0,.slice none 0 0,.int .i64 0] 29))):=((Grown.refl w4).alloc _).below;have x2:(w4.alloc (.cells #[.slice none 0 0,.slice none 0 0,.slice none 0 0,.int .i64 0] 29)).cell? ⟨w4.heap.size,2,none⟩=some (.slice none 0 0):=(by simp);have x3:(w4.alloc (.cells #[.slice none 0 0,.slice none 0 0,.slice none 0 0,.int .i64 0] 29)).cell? ⟨w4.heap.size,3,none⟩=some (.int .i64 0):=(by simp);refine (hp2 _ p c (Below.onto H4.out.1 HB5.out) (H4.out.2.kept HB5.out)).mono ?_;clear hp2;rintro r w6 ⟨rfl,hB6⟩;have l4:=block_lt_of_cell x2;replace x2:=(hB6.cell (p:=⟨w4.heap.size,2,none⟩) l4).trans x2;replace x3:=(hB6.cell (p:=⟨w4.heap.size,3,none⟩) l4).trans x3;have H6:Aside (Below W.heap.size W w6):=Below.onto (Below.onto H4.out.1 HB5.out) hB6;clear hB6 HB5 l4)
  | (clear hgoF;go_at_call 22;have HB7:Aside (Below w6.heap.size w6 (w6.alloc (.cells #[.slice none 0 0,.slice none 0 0,.slice none 0 0,.int .i64 0] 29))):=((Grown.refl w6).alloc _).below;have y2:(w6.alloc (.cells #[.slice none 0 0,.slice none 0 0,.slice none 0 0,.int .i64 0] 29)).cell? ⟨w6.heap.size,2,none⟩=some (.slice none 0 0):=(by simp);have y3:(w6.alloc (.cells #[.slice none 0 0,.slice none 0 0,.slice none 0 0,.int .i64 0] 29)).cell? ⟨w6.heap.size,3,none⟩=some (.int .i64 0):=(by simp);refine (hfl _).mono ?_;rintro r w7 ⟨rfl,hB7⟩;have l5:=block_lt_of_cell y2;replace y2:=(hB7.cell (p:=⟨w6.heap.size,2,none⟩) l5).trans y2;replace y3:=(hB7.cell (p:=⟨w6.heap.size,3,none⟩) l5).trans y3;have H7:Aside (Below w6.heap.size w6 w7):=Below.onto HB7.out hB7;clear hB7 HB7 l5)
  | (go_at_call 22;refine (hfl _).mono ?_;clear hfl;rintro r w8 ⟨rfl,hB8⟩;have l6:=block_lt_of_cell y2;replace y2:=(hB8.cell (p:=⟨w6.heap.size,2,none⟩) l6).trans y2;replace y3:=(hB8.cell (p:=⟨w6.heap.size,3,none⟩) l6).trans y3;have H8:Aside (Below w6.heap.size w6 w8):=Below.onto H7.out hB8;clear hB8 H7 l6))
 have lx:=block_lt_of_cell x2
 replace x2:=(H8.out.cell (p:=⟨w4.heap.size,2,none⟩) lx).trans x2
 replace x3:=(H8.out.cell (p:=⟨w4.heap.size,3,none⟩) lx).trans x3
 refine wp_loop_rounds 1 ?_
 rw [rounds_succ]
 go_wp2_with (first
  | (go_at_call 23;refine (hsm _).mono ?_;clear hsm;rintro r w9 ⟨rfl,hB9⟩;have H9:Aside (Below w8.heap.size w8 w9):=hB9;have l8:=block_lt_of_cell x3;have l9:=block_lt_of_cell y3;have u3:=(hB9.cell (p:=⟨w4.heap.size,3,none⟩) l8).trans x3;have v3:=(hB9.cell (p:=⟨w6.heap.size,3,none⟩) l9).trans y3;clear hB9))
 go_ret
 exact ⟨by simp,Below.onto (Below.onto H6.out H8.out) H9.out⟩
set_option maxRecDepth 100000 in
set_option maxHeartbeats 800000 in
theorem Lp (e:Int) (he:¬ e=0) (u1 u2:Option Addr) (k1 k2 q1 q2:Nat) (pc:Option Addr) (n cc m:Nat) (W:World) (hg:Gl W.heap.size W) (hsn:∀ Y,Below W.heap.size W Y→Calls Tryz.prog 21 #[.agg #[.slice u1 k1 q1,.slice u2 k2 q2]] Y (fun r w'=>∃ p c,r=.returned (.tuple #[.slice p m c,.int .i64 e])∧Below Y.heap.size Y w')) :
  sH 4 #[.agg #[.slice u1 k1 q1,.slice u2 k2 q2],.slice pc n cc] W:=by
 have hB1:Below W.heap.size W (W.alloc (.cells #[.slice u1 k1 q1,.slice u2 k2 q2] 26)):=((Grown.refl W).alloc _).below
 have hal:=mY _ (hg.up hB1)
 have HB1:Aside (Below W.heap.size W (W.alloc (.cells #[.slice u1 k1 q1,.slice u2 k2 q2] 26))):=hB1
 have hne:(e != 0)=true:=by simpa using he
 clear hB1 hg
 go_enter Tryz.func4,Tryz.ntmps4
 go_wp2_with (first
  | (go_at_call 20;refine hal.mono ?_;clear hal;rintro r w2 ⟨rfl,hB2⟩;have H2:Aside (Below W.heap.size W w2):=Below.onto HB1.out hB2;have c0:=(hB2.cell (p:=⟨W.heap.size,0,none⟩) (by simp)).trans (by simp:(W.alloc (.cells #[.slice u1 k1 q1,.slice u2 k2 q2] 26)).cell? ⟨W.heap.size,0,none⟩=some (.slice u1 k1 q1));have c1:=(hB2.cell (p:=⟨W.heap.size,1,none⟩) (by simp)).trans (by simp:(W.alloc (.cells #[.slice u1 k1 q1,.slice u2 k2 q2] 26)).cell? ⟨W.heap.size,1,none⟩=some (.slice u2 k2 q2));clear hB2)
  | (go_at_call 21;refine (hsn _ H2.out).mono ?_;clear hsn;rintro r w3 ⟨p,c,rfl,hB3⟩;have H3:Aside (Below W.heap.size W w3):=Below.onto H2.out hB3;clear hB3))
 go_ret
 exact ⟨rfl,H3.out⟩
theorem Le (y:Lay) (lo:List Lay) (pl:Option Addr) (cl:Nat) (pc:Option Addr) (cc:Nat) (l:List Cl) (W:World) (hU:UnOK W y lo pl cl) (hg:Gl W.heap.size W) (hC:fC W pc l) (hs:∀ c∈l,c.Small) :
  sH 4 #[.agg #[.slice y.ad y.es.length y.cap,.slice pl lo.length cl],.slice pc l.length cc] W:=by
 have hr:Right false (aB (y.es::lo.map (·.es))):=aK _
 have h2:=fun Y (hY:Below W.heap.size W Y)=>(hg.up hY).2.elim fun m hm=>qD y lo m pl cl Y (hU.kept hY) hm
 by_cases h0:(ay (y.es::lo.map (·.es))).1=0
 ·by_cases hn:l.length≤80
  ·have hF:=Ll y lo pl cl pc cc l W hU hg h0 hn hC hs
   have hfr:=KV l (aO (aB (y.es::lo.map (·.es))) []) y.es (lo.map (·.es)) (Lm h0)
   have hst:(aO (aB (y.es::lo.map (·.es))) []).aJ y.es (lo.map (·.es))=aO y.es (lo.map (·.es)):=rfl
   rw [hst] at hfr
   have hl1:=wK (aO y.es (lo.map (·.es))) l
   have hl2:=wK (aO (aB (y.es::lo.map (·.es))) []) l
   have hnm:=Ko l (aO y.es (lo.map (·.es)))
   generalize (aO y.es (lo.map (·.es))).run l=R1 at hF hfr hl1 hnm
   generalize (aO (aB (y.es::lo.map (·.es))) []).run l=R2 at hF hfr hl2
   cases ha:R1.2.any five with
   | true=>exact KO y lo pl cl pc cc _ _ _ _ _ _ _ _ _ _ _ _ _ W hg hF true ha (fun e=>by cases e) hl1.symm hl2.symm
   | false =>
    cases hb:R2.2.any five with
    | true=>exact KO y lo pl cl pc cc _ _ _ _ _ _ _ _ _ _ _ _ _ W hg hF false ha (fun _=>hb) hl1.symm hl2.symm
    | false =>
     have no:∀ (x:List An),x.any five=false→¬ ∃ a∈x,a.err=5:=fun x hx ⟨a,h1,h3⟩=>by
      have:=List.any_eq_true.2 ⟨a,h1,(by simp [five,h3]:five a=true)⟩
      rw [hx] at this
      cases this
     rcases hfr with h | h | ⟨e,u',l',e1,e2⟩
     ·exact absurd h (no _ ha)
     ·exact absurd h (no _ hb)
     ·have es:R1.1.seen=R2.1.seen:=by rw [e1];exact e2.seen
      have er:R1.1.reach=R2.1.reach:=by rw [e1];rfl
      rw [← es,← er,← e] at hF
      exact LB y lo pl cl pc cc _ _ _ _ _ _ _ R1.1 R2.1 R1.2 W hg hF ha hl1.symm hnm es rfl
  ·rw [h0] at h2
   refine LA y lo pl cl pc l.length cc _ _ _ (aB (y.es::lo.map (·.es))) W hg (fun Y hY=>(h2 Y hY).mono fun r w' ⟨p,c,e,a1,a2,a3,a4,a5⟩=>⟨p,c,e,LH a1 a2 a3 (qC hr) hr.len,a4⟩) (fun Y hY=>Kg y lo pl cl pc l.length cc Y (hU.kept hY) (hg.up hY) h0 (by omega)) (fun Y p c hY hV=>?_)
   have h3:=Kg ⟨p,c,aB (y.es::lo.map (·.es))⟩ [] none 0 pc l.length cc Y hV (hg.up hY)
   simp only [List.map_nil] at h3
   exact h3 (Kq hr).1 (by omega)
 ·exact Lp _ h0 _ _ _ _ _ _ _ _ _ _ W hg (fun Y hY=>(h2 Y hY).mono fun r w' ⟨p,c,e,a1,a2,a3,a4,a5⟩=>⟨p,c,e,a4⟩)
end Go.Proofs.YthfeoiffoeagkaaGreatDoor
