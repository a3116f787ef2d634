/-
  SysOrphan: the law.
-/
import Derived.Test.YthfeoiffoeagkaaGreatDoorZA39
import Derived.Test.YthfeoiffoeagkaaGreatDoorZA40
namespace Go.Proofs.YthfeoiffoeagkaaGreatDoor
open Go.RowKit PM Go.Sort
set_option linter.unusedVariables false
def SeeP (es:List Ent) (e:Int) (n:Nat) (Y:World) (r:Ending) (w':World):Prop:=∃ p c,r=.returned (.tuple #[.slice p n c,.int .i64 e])∧Aside (Lies w' p es)∧Below Y.heap.size Y w'
theorem IZ (y:Lay) (lo:List Lay) (pl:Option Addr) (cl:Nat) (W:World) (hU:UnOK W y lo pl cl) (hg:Gl W.heap.size W) (Y:World) (hY:Below W.heap.size W Y):Calls Tryz.prog 21 #[.agg #[.slice y.ad y.es.length y.cap,.slice pl lo.length cl]] Y (SeeP (aB (y.es::lo.map (·.es))) (ay (y.es::lo.map (·.es))).1 (aB (y.es::lo.map (·.es))).length Y) :=
 (hg.up hY).2.elim fun m hm=>(qD y lo m pl cl Y (hU.kept hY) hm).mono fun r w' ⟨p,c,e,a1,a2,a3,a4,a5⟩=>⟨p,c,e,a1,a4⟩
def othL (l:List Cl) (k:Nat):List Cl:=(l.take k).filter fun c=>c.owner != 3
structure BN (W:World) (u1 u2:Option Addr) (k1 k2 q1 q2 sn:Nat) (p:ByteArray) (l:List Cl) (sl:List Ent) (e:Ent) (s0:Sy):Prop where
 see:∀ Y,Below W.heap.size W Y→Calls Tryz.prog 21 #[.agg #[.slice u1 k1 q1,.slice u2 k2 q2]] Y (SeeP sl 0 sn Y)
 cl:∀ Y,Below W.heap.size W Y→Calls Tryz.prog 26 #[.string p] Y fun r w'=>r=.returned (.bool true)∧Below Y.heap.size Y w'
 get:∀ Y a c,Below W.heap.size W Y→Lies Y a sl→Calls Tryz.prog 27 #[.slice a sn c,.string p] Y fun r w'=>r=.returned (.tuple #[.agg #[.string e.path,.int .i64 1,.string e.text,.bool e.opq],.bool true])∧Below Y.heap.size Y w'
 play:∀ Y (G:List Cl) H cg m,Below W.heap.size W Y→m=G.length→m≤80→(∀ c∈G,c.Small)→fC Y (some ⟨H,0,none⟩) G→Calls Tryz.prog 16 #[.agg #[.slice u1 k1 q1,.slice u2 k2 q2],.slice (some ⟨H,0,none⟩) m cg] Y (nC (s0.run G).1 (s0.run G).2 Y)
 small:∀ c∈l,c.Small
 psize:p.size≤80
 num:l.length+3≤80
 run:∀ r:List Cl,(∀ c∈r,c.owner≠3)→∃ a0 a1 b a,(s0.run ([jG p,gU p]++r++[jH])).2=a0::a1::(b++[a])∧b.length=r.length∧a0.err=0∧(¬ a1.err=0∨a.text=e.text)
theorem EZ {W:World} {u1 u2:Option Addr} {k1 k2 q1 q2 sn:Nat} {p:ByteArray} {l:List Cl} {sl:List Ent} {e:Ent} {s0:Sy} (hF:BN W u1 u2 k1 k2 q1 q2 sn p l sl e s0) (r:List Cl) (hr:∀ c∈r,c∈l) (ho:∀ c∈r,c.owner≠3) (m N:Nat) (hm:m=r.length+2) (hN:N=m+1) (h8:m+1≤80) :
  ∀ Y g5 c5,Below W.heap.size W Y→fC Y (some ⟨g5,0,none⟩) ([jG p,gU p]++r++[jH])→Calls Tryz.prog 16 #[.agg #[.slice u1 k1 q1,.slice u2 k2 q2],.slice (some ⟨g5,0,none⟩) N c5] Y (fun x w'=>∃ a0 k0 c0 a1 k3 c1 ps sn7 sc op b ac e1 tx,x=.returned (.tuple #[.agg #[.slice a0 k0 c0,.slice a1 k3 c1,.slice ps sn7 sc,.int .i64 op],.slice (some ⟨b,0,none⟩) N ac,.int .i64 0])∧Below Y.heap.size Y w'∧w'.cell? ⟨b,0,none⟩=some (.int .i64 0)∧w'.cell? ⟨b,4,none⟩=some (.int .i64 e1)∧w'.cell? ⟨b,m*4+2,none⟩=some (.string tx)∧((e1 != 0)=true∨(e1 != 0)=false∧tx=e.text)):=by
 subst hN
 intro Y g5 c5 hY hC
 have hsm:∀ c∈[jG p,gU p]++r++[jH],c.Small:=fun c hc=>by
  have hp:=hF.psize
  simp only [List.mem_append,List.mem_cons,List.not_mem_nil,or_false] at hc
  rcases hc with ((rfl | rfl) | hc) | rfl
  ·exact ⟨by show p.size≤_;omega,Nat.le_of_ble_eq_true rfl,Nat.le_of_ble_eq_true rfl⟩
  ·exact ⟨by show p.size≤_;omega,Nat.le_of_ble_eq_true rfl,Nat.le_of_ble_eq_true rfl⟩
  ·exact hF.small c (hr c hc)
  ·exact ⟨Nat.le_of_ble_eq_true rfl,Nat.le_of_ble_eq_true rfl,Nat.le_of_ble_eq_true rfl⟩
 refine (hF.play Y ([jG p,gU p]++r++[jH]) g5 c5 (m+1) hY (by simp;omega) h8 hsm hC).mono fun x w' ⟨y,lo,pl,cl,ps,sc,yn,ln,sn',op,pa,na,ac,ex,hB,hx⟩=>?_
 obtain ⟨e1,e2,e3,e4,e5,e6,e7,e8,e9,e10,e11,e12,e13,e14⟩:=hx.out
 obtain ⟨a0,a1,b,a,hrun,hbl,h0,hE⟩:=hF.run r ho
 rw [hrun] at e11 e14
 have hna:na=m+1:=by rw [e11];simp;omega
 subst hna
 rcases e14 with e14 | ⟨b1,hp,_,hc⟩
 ·cases e14
 ·subst hp
  obtain ⟨_,_,_,d0,_⟩:=hc 0 a0 rfl
  obtain ⟨_,_,_,d1,_⟩:=hc 1 a1 rfl
  obtain ⟨_,_,_,_,_,d2,_⟩:=hc m a (by
   rw [hm,← hbl]
   show (b++[a])[b.length]?=some a
   simp)
  rw [h0] at d0
  refine ⟨_,_,_,_,_,_,_,_,_,_,b1,ac,a1.err,a.text,ex,hB,d0,d1,d2,?_⟩
  by_cases h1:a1.err=0
  ·exact .inr ⟨by simp [h1],hE.resolve_left (fun h=>h h1)⟩
  ·exact .inl (by simpa using h1)
theorem far4 {w:World} {N:Nat} {a:Addr} {v0 v1 v2 v3 x:Value} (h:w.cell? a=some x) (hN:N≠a.block):((((w.setCell ⟨N,0,none⟩ v0).setCell ⟨N,1,none⟩ v1).setCell ⟨N,2,none⟩ v2).setCell ⟨N,3,none⟩ v3).cell? a=some x :=
 (World.cell?_setCell_far _ _ _ _ hN).trans ((World.cell?_setCell_far _ _ _ _ hN).trans ((World.cell?_setCell_far _ _ _ _ hN).trans ((World.cell?_setCell_far _ _ _ _ hN).trans h)))
set_option maxRecDepth 100000 in
set_option maxHeartbeats 12000000 in
theorem E5 (W:World) (u1 u2:Option Addr) (k1 k2 z1 z2 sn n cc:Nat) (pc:Option Addr) (p:ByteArray) (l:List Cl) (hln:n=l.length) (hC:fC W pc l) (sl:List Ent) (e:Ent) (s0:Sy) (hg:Gl W.heap.size W) (hF:BN W u1 u2 k1 k2 z1 z2 sn p l sl e s0) :
  sH 8 #[.agg #[.slice u1 k1 z1,.slice u2 k2 z2],.string p,.slice pc n cc] W:=by
 have hB1:Below W.heap.size W (W.alloc (.cells #[.slice u1 k1 z1,.slice u2 k2 z2] 26)):=((Grown.refl W).alloc _).below
 have hal:=mY _ (hg.up hB1)
 have HB1:Aside (Below W.heap.size W (W.alloc (.cells #[.slice u1 k1 z1,.slice u2 k2 z2] 26))):=hB1
 have HF:Aside (BN W u1 u2 k1 k2 z1 z2 sn p l sl e s0):=hF
 have HL:Aside (n=l.length∧fC W pc l):=⟨hln,hC⟩
 have hsn:=hF.see
 have hcl:=hF.cl
 have hgt:=hF.get
 have hn3:n≤77:=by have:=hF.num;omega
 have hwr:IntKind.i64.wrap ((n:Int)+3)=(n:Int)+3:=by rw [IntKind.wrap_i64];omega
 have hnz:¬ (80:Int)<(n:Int)+3:=by omega
 clear hF hB1 hg hln hC
 go_enter Tryz.func8,Tryz.ntmps8
 go_wp2_with (first
  | (go_at_call 20;refine hal.mono ?_;clear hal;rintro r w2 ⟨rfl,hB2⟩;have H2:Aside (Below W.heap.size W w2):=Below.onto HB1.out hB2;have c0:=(hB2.cell (p:=⟨W.heap.size,0,none⟩) (by simp)).trans (by simp:(W.alloc (.cells #[.slice u1 k1 z1,.slice u2 k2 z2] 26)).cell? ⟨W.heap.size,0,none⟩=some (.slice u1 k1 z1));have c1:=(hB2.cell (p:=⟨W.heap.size,1,none⟩) (by simp)).trans (by simp:(W.alloc (.cells #[.slice u1 k1 z1,.slice u2 k2 z2] 26)).cell? ⟨W.heap.size,1,none⟩=some (.slice u2 k2 z2));have l2:W.heap.size<w2.heap.size:=block_lt_of_cell c0;clear hB2)
  | (go_at_call 21;refine (hsn _ H2.out).mono ?_;clear hsn;rintro r w3 ⟨pt,ct,rfl,HV,hB3⟩;have H3:Aside (Below W.heap.size W w3):=Below.onto H2.out hB3;have d0:=(hB3.cell (p:=⟨W.heap.size,0,none⟩) l2).trans c0;have d1:=(hB3.cell (p:=⟨W.heap.size,1,none⟩) l2).trans c1;have l3:=Nat.lt_of_lt_of_le l2 hB3.size;clear hB3 c0 c1)
  | (go_at_call 26;refine (hcl _ H3.out).mono ?_;clear hcl;rintro r w4 ⟨rfl,hB4⟩;have H4:Aside (Below W.heap.size W w4∧Lies w4 pt sl):=⟨Below.onto H3.out hB4,HV.out.kept hB4⟩;have e0:=(hB4.cell (p:=⟨W.heap.size,0,none⟩) l3).trans d0;have e1:=(hB4.cell (p:=⟨W.heap.size,1,none⟩) l3).trans d1;have l4:=Nat.lt_of_lt_of_le l3 hB4.size;clear hB4 d0 d1)
  | (go_at_call 27;refine (hgt _ pt ct H4.out.1 H4.out.2).mono ?_;clear hgt;rintro r w5 ⟨rfl,hB5⟩;have H5:Aside (Below W.heap.size W w5):=Below.onto H4.out.1 hB5;have f0:=(hB5.cell (p:=⟨W.heap.size,0,none⟩) l4).trans e0;have f1:=(hB5.cell (p:=⟨W.heap.size,1,none⟩) l4).trans e1;have l5:=Nat.lt_of_lt_of_le l4 hB5.size;clear hB5 e0 e1))
 have hb6:Below w5.heap.size w5 ((w5.alloc (.cells #[.string e.path,.int .i64 1,.string e.text,.bool e.opq] 53)).alloc (.cells #[.int .i64 1,.int .i64 3,.int .i64 0,.int .i64 1,.int .i64 0,.string p,.string ⟨#[]⟩,.string ⟨#[]⟩,.bool false,.int .i64 8,.int .i64 0,.int .i64 0,.int .i64 0,.int .i64 0,.string p,.string ⟨#[]⟩,.string ⟨#[]⟩,.bool false] 50)):=((Below.refl _ _).alloc (Nat.le_refl _) _).alloc (by simp) _
 have g2:((w5.alloc (.cells #[.string e.path,.int .i64 1,.string e.text,.bool e.opq] 53)).alloc (.cells #[.int .i64 1,.int .i64 3,.int .i64 0,.int .i64 1,.int .i64 0,.string p,.string ⟨#[]⟩,.string ⟨#[]⟩,.bool false,.int .i64 8,.int .i64 0,.int .i64 0,.int .i64 0,.int .i64 0,.string p,.string ⟨#[]⟩,.string ⟨#[]⟩,.bool false] 50)).cell? ⟨w5.heap.size,2,none⟩=some (.string e.text):=Lib.cell?_alloc_some _ (by simp)
 have HR:Aside (dK ((w5.alloc (.cells #[.string e.path,.int .i64 1,.string e.text,.bool e.opq] 53)).alloc (.cells #[.int .i64 1,.int .i64 3,.int .i64 0,.int .i64 1,.int .i64 0,.string p,.string ⟨#[]⟩,.string ⟨#[]⟩,.bool false,.int .i64 8,.int .i64 0,.int .i64 0,.int .i64 0,.int .i64 0,.string p,.string ⟨#[]⟩,.string ⟨#[]⟩,.bool false] 50)) (w5.heap.size+1) (.slice (some ⟨w5.heap.size+1,0,none⟩) 2 2) ([jG p,gU p]++othL l 0)):=by
  have:=Dl (w5.alloc (.cells #[.string e.path,.int .i64 1,.string e.text,.bool e.opq] 53)) [jG p,gU p] 2 rfl (by show 2≤100;decide) (w5.heap.size+1) (by simp) _ rfl
  rw [show (w5.alloc (.cells #[.string e.path,.int .i64 1,.string e.text,.bool e.opq] 53)).heap.size=w5.heap.size+1 from World.size_alloc w5 _] at this
  show dK _ _ _ ([jG p,gU p]++othL l 0)
  rw [show othL l 0=[] from rfl,List.append_nil]
  exact this
 have H6:Aside (Below W.heap.size W ((w5.alloc (.cells #[.string e.path,.int .i64 1,.string e.text,.bool e.opq] 53)).alloc (.cells #[.int .i64 1,.int .i64 3,.int .i64 0,.int .i64 1,.int .i64 0,.string p,.string ⟨#[]⟩,.string ⟨#[]⟩,.bool false,.int .i64 8,.int .i64 0,.int .i64 0,.int .i64 0,.int .i64 0,.string p,.string ⟨#[]⟩,.string ⟨#[]⟩,.bool false] 50))):=Below.onto H5.out hb6
 replace f0:=(hb6.cell (p:=⟨W.heap.size,0,none⟩) l5).trans f0
 replace f1:=(hb6.cell (p:=⟨W.heap.size,1,none⟩) l5).trans f1
 have hB5:w5.heap.size+1≤((w5.alloc (.cells #[.string e.path,.int .i64 1,.string e.text,.bool e.opq] 53)).alloc (.cells #[.int .i64 1,.int .i64 3,.int .i64 0,.int .i64 1,.int .i64 0,.string p,.string ⟨#[]⟩,.string ⟨#[]⟩,.bool false,.int .i64 8,.int .i64 0,.int .i64 0,.int .i64 0,.int .i64 0,.string p,.string ⟨#[]⟩,.string ⟨#[]⟩,.bool false] 50)).heap.size:=by simp
 clear hb6 H5
 generalize (w5.alloc (.cells #[.string e.path,.int .i64 1,.string e.text,.bool e.opq] 53)).alloc (.cells #[.int .i64 1,.int .i64 3,.int .i64 0,.int .i64 1,.int .i64 0,.string p,.string ⟨#[]⟩,.string ⟨#[]⟩,.bool false,.int .i64 8,.int .i64 0,.int .i64 0,.int .i64 0,.int .i64 0,.string p,.string ⟨#[]⟩,.string ⟨#[]⟩,.bool false] 50)=W6 at g2 HR H6 f0 f1 hB5 ⊢
 have HBase:Aside (W.heap.size<w5.heap.size+1):=by show _<_;omega
 obtain ⟨B,hB⟩:∃ B,B=w5.heap.size+1:=⟨_,rfl⟩
 obtain ⟨Fb,hFb⟩:∃ Fb,Fb=w5.heap.size:=⟨_,rfl⟩
 have HBF:Aside (Fb<B):=by show _<_;omega
 rw [← hB] at HR HBase hB5 ⊢
 rw [← hFb] at g2 ⊢
 clear hB hFb
 go_loopg [11,56] n (fun gg v i wr=>∃ k:Nat,k≤n∧n-k≤gg∧i=.int .i64 k∧Aside (dK wr B v ([jG p,gU p]++othL l k)∧Below B W6 wr∧B≤wr.heap.size))
 case atStart=>exact ⟨0,Nat.zero_le _,by omega,rfl,HR.out,Below.refl _ _,hB5⟩
 case round =>
  obtain ⟨k,hk,hgg,rfl,HI⟩:=hrel
  by_cases hlt:k<n
  ·have hltz:(k:Int)<(n:Int):=by omega
   obtain ⟨c,hc⟩:∃ c,l[k]?=some c:=⟨_,List.getElem?_eq_getElem (by have:=HL.out.1;omega)⟩
   have hcells:∃ b off,pc=some ⟨b,off,none⟩∧∀ j v,(encC c)[j]?=some v→wr.cell? ⟨b,off+k*9+j,none⟩=some v:=by
    rcases HL.out.2 with e | ⟨b,off,e,hb,hh⟩
    ·rw [e] at hc;simp at hc
    ·exact ⟨b,off,e,fun j v hv=>(HI.out.2.1.cell (p:=⟨b,off+k*9+j,none⟩) (Nat.lt_trans hb HBase.out)).trans ((H6.out.cell (p:=⟨b,off+k*9+j,none⟩) hb).trans (hh k c hc j v hv))⟩
   obtain ⟨bc,off,rfl,hcc⟩:=hcells
   have HK:Aside (othL l (k+1)=othL l k++if (c.owner != 3)=true then [c] else []):=by
    show othL l (k+1)=_
    unfold othL
    rw [List.take_add_one,hc,List.filter_append]
    cases h:(c.owner != 3) <;> simp [h]
   have hlen:([jG p,gU p]++othL l k).length≤20000:=by
    have h1:(othL l k).length≤k:=by
     unfold othL
     refine Nat.le_trans (List.length_filter_le _ _) ?_
     rw [List.length_take]
     omega
    rw [List.length_append]
    show 2+_≤_
    omega
   generalize othL l k=O at HI HK hlen
   obtain ⟨ck,co,cf,cn,cm,cp,ct,cx,ca⟩:=c
   have q0:wr.cell? ⟨bc,off+k*9,none⟩=some (.int .i64 ck):=hcc 0 _ rfl
   have q1:wr.cell? ⟨bc,off+k*9+1,none⟩=some (.int .i64 co):=hcc 1 _ rfl
   have q2:wr.cell? ⟨bc,off+k*9+2,none⟩=some (.int .i64 cf):=hcc 2 _ rfl
   have q3:wr.cell? ⟨bc,off+k*9+3,none⟩=some (.int .i64 cn):=hcc 3 _ rfl
   have q4:wr.cell? ⟨bc,off+k*9+4,none⟩=some (.int .i64 cm):=hcc 4 _ rfl
   have q5:wr.cell? ⟨bc,off+k*9+5,none⟩=some (.string cp):=hcc 5 _ rfl
   have q6:wr.cell? ⟨bc,off+k*9+6,none⟩=some (.string ct):=hcc 6 _ rfl
   have q7:wr.cell? ⟨bc,off+k*9+7,none⟩=some (.string cx):=hcc 7 _ rfl
   have q8:wr.cell? ⟨bc,off+k*9+8,none⟩=some (.bool ca):=hcc 8 _ rfl
   have hBA:Below wr.heap.size wr (wr.alloc (.cells #[.int .i64 ck,.int .i64 co,.int .i64 cf,.int .i64 cn,.int .i64 cm,.string cp,.string ct,.string cx,.bool ca] 50)):=((Grown.refl wr).alloc _).below
   clear hcc hc
   have hTT:(co != 3)=true∨(co != 3)=false:=by cases (co != 3) <;> simp
   rcases hTT with hT | hT
   all_goals have HT:Aside (_):=hT
   ·go_wp2_with (first
     | (at_builtin;refine yu _ (wr.heap.size+1) [⟨ck,co,cf,cn,cm,cp,ct,cx,ca⟩] 1 rfl (by decide) (by decide) rfl _ _ rfl B _ ([jG p,gU p]++O) rfl (HI.out.1.below (((Below.refl _ _).alloc (Nat.le_refl _) _).alloc (by simp) _)) hlen (Nat.le_trans HI.out.2.2 (by simp;omega)) rfl (sP (blk2 wr _ _)) ?_;intro v9 w9 hR9 hs9 hk9 hg9 hB9;have HH9:Aside (dK w9 B v9 ([jG p,gU p]++othL l (k+1))∧Below B W6 w9∧B≤w9.heap.size):=⟨by rw [HK.out,if_pos HT.out,← List.append_assoc];exact hR9,HI.out.2.1.trans ((Below.mono (show Below wr.heap.size wr _ from (((Below.refl _ _).alloc (Nat.le_refl _) _).alloc (by simp) _)) HI.out.2.2).trans hB9),Nat.le_trans HI.out.2.2 (by simp at hs9;omega)⟩;clear hR9 hs9 hk9 hg9 hB9))
    go_roundg (n-(k+1))
    case measure=>omega
    case rel=>exact ⟨k+1,by omega,by omega,by go_num,HH9.out⟩
   ·go_wp2
    go_roundg (n-(k+1))
    case measure=>omega
    case rel=>exact ⟨k+1,by omega,by omega,by go_num,by rw [HK.out,if_neg (by show ¬ (co != 3)=true;rw [HT.out];simp),List.append_nil];exact HI.out.1.below hBA,HI.out.2.1.trans (hBA.mono HI.out.2.2),Nat.le_trans HI.out.2.2 hBA.size⟩
  ·have hltz:¬ (k:Int)<(n:Int):=by omega
   obtain rfl:k=n:=by omega
   obtain ⟨M,hM⟩:∃ M,M=[jG p,gU p]++othL l k:=⟨_,rfl⟩
   obtain ⟨m,hm⟩:∃ m,m=M.length:=⟨_,rfl⟩
   have HRM:Aside (dK wr B u11 M):=by rw [hM];exact HI.out.1
   obtain ⟨g,cg,hu,hCM⟩:=oC HRM.out (by rw [hM];simp)
   rw [← hm] at hu
   subst hu
   have hgw:g<wr.heap.size:=by obtain ⟨_,cur,hh⟩:=HRM.out.own (g:=g) rfl;exact (Array.getElem?_eq_some_iff.1 hh).1
   have hol:(othL l k).length≤k:=by
    unfold othL
    refine Nat.le_trans (List.length_filter_le _ _) ?_
    rw [List.length_take]
    omega
   have hm2:m=(othL l k).length+2:=by rw [hm,hM,List.length_append,Nat.add_comm];rfl
   have hMl:M.length≤20000:=by omega
   obtain ⟨N1,hN1⟩:∃ N1,N1=m+1:=⟨_,rfl⟩
   have HN1:Aside (N1=m+1):=hN1
   have hpl:=EZ HF.out (othL l k) (fun c hc=>List.mem_of_mem_take (List.mem_filter.1 hc).1) (fun c hc=>by have:=(List.mem_filter.1 hc).2;simpa using this) m N1 hm2 hN1 (by omega)
   rw [← hM] at hpl
   have HM:Aside (m=M.length):=hm
   have hBr:B≤wr.heap.size:=HI.out.2.2
   have HWB:∀ w5,Below B wr w5→Below W.heap.size W w5:=fun w5 h=>(H6.out.trans ((HI.out.2.1.trans h).mono (Nat.le_of_lt HBase.out)))
   have u0:=(HI.out.2.1.cell (p:=⟨W.heap.size,0,none⟩) HBase.out).trans f0
   have u9:=(HI.out.2.1.cell (p:=⟨W.heap.size,1,none⟩) HBase.out).trans f1
   have g4:=(HI.out.2.1.cell (p:=⟨Fb,2,none⟩) HBF.out).trans g2
   have ua0:=fun o=>Lib.cell?_alloc_some o u0
   have ua1:=fun o=>Lib.cell?_alloc_some o u9
   have ub0:=fun o o'=>Lib.cell?_alloc_some o' (ua0 o)
   have ub1:=fun o o'=>Lib.cell?_alloc_some o' (ua1 o)
   have x0m:(0:Int)<(N1:Int):=by omega
   have x1m:(1:Int)<(N1:Int):=by omega
   have xmm:(m:Int)<(N1:Int):=by omega
   have y0n:0<N1:=by omega
   have y1n:1<N1:=by omega
   have ymn:m<N1:=by omega
   have hgo1:True:=trivial
   have hgo2:True:=trivial
   clear f0 f1 g2 hM hm hol hm2 hCM hgg hN1
   go_wp2
   rename_i KT hKT
   have htail:∀ (w9:World) (b7 ac:Nat) (e1:Int) (tv:ByteArray) (s0 s1 s2 s3 s4 s5 s6 s7 s10 s12 s13 s14 s16 s17 s18 s19 s20 s21 s22 s23 s24 s25 s26 s27 s28 s29 s30 s31 s32 s33 s34 s35 s36 s37 s38 s39 s40 s41 s42 s43 s44 s45 s46 s47 s48 s49 s50 s51 s52 s53 s54 s55 s56 s57 s58 s59 s60 s61 s62 s63 s64 s65 s66 s67 s68 s69 s70 s71 s72 s73 s74 s75 s76 s77 s78 s79 s80 s81 s82 s83 s84 s85 s86 s87 s88 s89 s90 s91 s92 s93 s94 s95 s96 s97 s98 s99 s100 s101 s102 s103 s104:Value),w9.cell? ⟨b7,0,none⟩=some (.int .i64 0)→w9.cell? ⟨b7,4,none⟩=some (.int .i64 e1)→w9.cell? ⟨b7,m*4+2,none⟩=some (.string tv)→w9.cell? ⟨Fb,2,none⟩=some (.string e.text)→((e1 != 0)=true∨(e1 != 0)=false∧tv=e.text)→Below W.heap.size W w9→KT ⟨#[s0,s1,s2,s3,s4,s5,s6,s7,.int .i64 0,.pointer (some ⟨Fb,0,none⟩),s10,.slice (some ⟨g,0,none⟩) m cg,s12,s13,s14,.slice (some ⟨b7,0,none⟩) N1 ac,s16,s17,s18,s19,s20,s21,s22,s23,s24,s25,s26,s27,s28,s29,s30,s31,s32,s33,s34,s35,s36,s37,s38,s39,s40,s41,s42,s43,s44,s45,s46,s47,s48,s49,s50,s51,s52,s53,s54,s55,s56,s57,s58,s59,s60,s61,s62,s63,s64,s65,s66,s67,s68,s69,s70,s71,s72,s73,s74,s75,s76,s77,s78,s79,s80,s81,s82,s83,s84,s85,s86,s87,s88,s89,s90,s91,s92,s93,s94,s95,s96,s97,s98,s99,s100,s101,s102,s103,s104],[]⟩ w9:=by
    intro w9 b7 ac e1 tv s0 s1 s2 s3 s4 s5 s6 s7 s10 s12 s13 s14 s16 s17 s18 s19 s20 s21 s22 s23 s24 s25 s26 s27 s28 s29 s30 s31 s32 s33 s34 s35 s36 s37 s38 s39 s40 s41 s42 s43 s44 s45 s46 s47 s48 s49 s50 s51 s52 s53 s54 s55 s56 s57 s58 s59 s60 s61 s62 s63 s64 s65 s66 s67 s68 s69 s70 s71 s72 s73 s74 s75 s76 s77 s78 s79 s80 s81 s82 s83 s84 s85 s86 s87 s88 s89 s90 s91 s92 s93 s94 s95 s96 s97 s98 s99 s100 s101 s102 s103 s104 z0 z1 z2 z3 hE hB9
    refine hKT _ _ ?_
    have H9:Aside (Below W.heap.size W w9):=hB9
    clear hB9 hKT u0 u9 g4 ua0 ua1 ub0 ub1 hpl HWB HRM HM hgw hMl hBr hn3 hwr hnz H6 HI HL HF HBF HBase HB1 H2 H3 H4 HV l2 l3 l4 l5 hlt hk hB5 HR
    rcases hE with hE | ⟨hE,rfl⟩
    ·have hE1:¬ e1=0:=by simpa using hE
     go_wp2
     go_big_quiet (fail)
     go_wp2
     go_ret
     exact ⟨rfl,below_drewN H9.out _⟩
    ·have hE1:e1=0:=by simpa using hE
     subst hE1
     go_wp2
     go_big_quiet (fail)
     go_wp2
     go_ret
     exact ⟨rfl,below_drewN H9.out _⟩
   have htl:Aside (_):=htail
   clear htail hKT
   go_region_law (first
     | (refine sj (wr.heap.size) jH rfl _ _ rfl B (.slice (some ⟨g,0,none⟩) m cg) M (by first | (simp [Act.eval];done) | fail) (HRM.out.below (by first | ((repeat (first | exact Below.refl _ _ | refine Below.alloc ?_ (by first | omega | (simp;done) | (simp;omega)) _ | refine Below.drew ?_));done) | fail)) hMl (by first | omega | (simp;done) | (simp;omega)) (by first | (simp [Act.eval];done) | fail) (sP (by first | exact blk1 wr _ _ | fail)) ?_;clear hgo1;intro v5 w5 hR5 hs5 hk5 hB5;have HN5:Aside (∃ N,N=wr.heap.size+1∧w5.heap[N]?=some (.cells #[.slice none 0 0,.slice none 0 0,.slice none 0 0,.int .i64 0] 29)):=⟨_,rfl,((hk5 _ (by first | omega | (simp;done) | (simp;omega)) (fun e=>by have:=hgw;simp [Value.ownBlock] at e;omega)).trans (by first | exact blk2 wr _ _ | fail))⟩;have hX5:wr.heap.size≤w5.heap.size:=(by first | omega | (simp at hs5;omega));have HB5:Aside (Below B wr w5):=Below.trans (Below.mono (show Below wr.heap.size wr _ from (by first | ((repeat (first | exact Below.refl _ _ | refine Below.alloc ?_ (by first | omega | (simp;done) | (simp;omega)) _ | refine Below.drew ?_));done) | fail)) hBr) hB5;obtain ⟨g5,c5,rfl,hC5⟩:=oC hR5 (by simp);have HC5:Aside (fC w5 (some ⟨g5,0,none⟩) (M++[jH])):=hC5;rw [show (M++[jH]).length=N1 from by rw [List.length_append,← HM.out,HN1.out];rfl];have v0:=(HB5.out.cell (p:=⟨W.heap.size,0,none⟩) HBase.out).trans u0;have v1:=(HB5.out.cell (p:=⟨W.heap.size,1,none⟩) HBase.out).trans u9;have va0:=fun o=>Lib.cell?_alloc_some o v0;have va1:=fun o=>Lib.cell?_alloc_some o v1;clear hR5 hs5 hk5 hB5 hC5)
     | (refine sj (wr.heap.size+1) jH rfl _ _ rfl B (.slice (some ⟨g,0,none⟩) m cg) M (by first | (simp [Act.eval];done) | fail) (HRM.out.below (by first | ((repeat (first | exact Below.refl _ _ | refine Below.alloc ?_ (by first | omega | (simp;done) | (simp;omega)) _ | refine Below.drew ?_));done) | fail)) hMl (by first | omega | (simp;done) | (simp;omega)) (by first | (simp [Act.eval];done) | fail) (sP (by first | exact blk2 wr _ _ | fail)) ?_;clear hgo1;intro v5 w5 hR5 hs5 hk5 hB5;have HN5:Aside (∃ N,N=wr.heap.size∧w5.heap[N]?=some (.cells #[.slice none 0 0,.slice none 0 0,.slice none 0 0,.int .i64 0] 29)):=⟨_,rfl,((hk5 _ (by first | omega | (simp;done) | (simp;omega)) (fun e=>by have:=hgw;simp [Value.ownBlock] at e;omega)).trans (by first | exact blk1 wr _ _ | fail))⟩;have hX5:wr.heap.size≤w5.heap.size:=(by first | omega | (simp at hs5;omega));have HB5:Aside (Below B wr w5):=Below.trans (Below.mono (show Below wr.heap.size wr _ from (by first | ((repeat (first | exact Below.refl _ _ | refine Below.alloc ?_ (by first | omega | (simp;done) | (simp;omega)) _ | refine Below.drew ?_));done) | fail)) hBr) hB5;obtain ⟨g5,c5,rfl,hC5⟩:=oC hR5 (by simp);have HC5:Aside (fC w5 (some ⟨g5,0,none⟩) (M++[jH])):=hC5;rw [show (M++[jH]).length=N1 from by rw [List.length_append,← HM.out,HN1.out];rfl];have v0:=(HB5.out.cell (p:=⟨W.heap.size,0,none⟩) HBase.out).trans u0;have v1:=(HB5.out.cell (p:=⟨W.heap.size,1,none⟩) HBase.out).trans u9;have va0:=fun o=>Lib.cell?_alloc_some o v0;have va1:=fun o=>Lib.cell?_alloc_some o v1;clear hR5 hs5 hk5 hB5 hC5)
     | (refine sj (wr.heap.size) jH rfl _ _ rfl B (.slice (some ⟨g,0,none⟩) m cg) M (by first | (simp [Act.eval];done) | fail) (HRM.out.below (by first | ((repeat (first | exact Below.refl _ _ | refine Below.alloc ?_ (by first | omega | (simp;done) | (simp;omega)) _ | refine Below.drew ?_));done) | fail)) hMl (by first | omega | (simp;done) | (simp;omega)) (by first | (simp [Act.eval];done) | fail) (sP (by first | exact heap_alloc_last wr _ | fail)) ?_;clear hgo1;intro v5 w5 hR5 hs5 hk5 hB5;have hX5:wr.heap.size≤w5.heap.size:=(by first | omega | (simp at hs5;omega));have HB5:Aside (Below B wr w5):=Below.trans (Below.mono (show Below wr.heap.size wr _ from (by first | ((repeat (first | exact Below.refl _ _ | refine Below.alloc ?_ (by first | omega | (simp;done) | (simp;omega)) _ | refine Below.drew ?_));done) | fail)) hBr) hB5;obtain ⟨g5,c5,rfl,hC5⟩:=oC hR5 (by simp);have HC5:Aside (fC w5 (some ⟨g5,0,none⟩) (M++[jH])):=hC5;rw [show (M++[jH]).length=N1 from by rw [List.length_append,← HM.out,HN1.out];rfl];have v0:=(HB5.out.cell (p:=⟨W.heap.size,0,none⟩) HBase.out).trans u0;have v1:=(HB5.out.cell (p:=⟨W.heap.size,1,none⟩) HBase.out).trans u9;have va0:=fun o=>Lib.cell?_alloc_some o v0;have va1:=fun o=>Lib.cell?_alloc_some o v1;clear hR5 hs5 hk5 hB5 hC5)
     | (go_simp;go_at_call 16;refine (hpl _ g5 c5 (Below.onto (HWB _ HB5.out) (show Below w5.heap.size w5 _ from (by first | ((repeat (first | exact Below.refl _ _ | refine Below.alloc ?_ (by first | omega | (simp;done) | (simp;omega)) _ | refine Below.drew ?_));done) | fail))) (HC5.out.kept (show Below w5.heap.size w5 _ from (by first | ((repeat (first | exact Below.refl _ _ | refine Below.alloc ?_ (by first | omega | (simp;done) | (simp;omega)) _ | refine Below.drew ?_));done) | fail)))).mono ?_;clear hgo2;rintro r w7 ⟨a0,k0,c0,a1,k3,c1,ps,sn7,sc,op,b7,ac,e1,tx,rfl,hB7,r0,r1,r2,hE⟩;have HB7:Aside (Below w5.heap.size w5 w7):=Below.onto (show Below w5.heap.size w5 _ from (by first | ((repeat (first | exact Below.refl _ _ | refine Below.alloc ?_ (by first | omega | (simp;done) | (simp;omega)) _ | refine Below.drew ?_));done) | fail)) hB7;have HE:Aside (_):=hE;have rf:=(HB7.out.cell (p:=⟨Fb,2,none⟩) (show Fb<w5.heap.size by have:=HBF.out;omega)).trans ((HB5.out.cell (p:=⟨Fb,2,none⟩) HBF.out).trans g4);first
      | (obtain ⟨N,hN1,hN2⟩:=HN5.out;have hN7:=(HB7.out.block N (Array.getElem?_eq_some_iff.1 hN2).1).trans hN2;obtain ⟨⟨x0,x1,x2,x3⟩,y0,y1,y2,y3⟩:=bK hN7;have hNb:N≠b7:=(by rintro rfl;rw [x0] at r0;cases r0);have hNF:N≠Fb:=(by have:=HBF.out;omega);have hNW:W.heap.size≤N:=(by have:=HBase.out;omega);subst hN1;clear hN2 hN7)
      | (have hN7:=(hB7.block w5.heap.size (by simp)).trans (heap_alloc_last w5 _);obtain ⟨⟨x0,x1,x2,x3⟩,y0,y1,y2,y3⟩:=bK hN7;have hNb:w5.heap.size≠b7:=(by intro h;rw [h,r0] at x0;cases x0);have hNF:w5.heap.size≠Fb:=(by have:=HBF.out;omega);have hNW:W.heap.size≤w5.heap.size:=(by have:=HBase.out;omega);clear hN7)
      | (have hNone:True:=trivial);clear hB7 hE))
   all_goals
    go_simp
    first
     | (clear hNone;exact htl.out (w7.alloc _) b7 ac e1 tx _ _ _ _ _ _ _ _ _ _ _ _ _ _ _ _ _ _ _ _ _ _ _ _ _ _ _ _ _ _ _ _ _ _ _ _ _ _ _ _ _ _ _ _ _ _ _ _ _ _ _ _ _ _ _ _ _ _ _ _ _ _ _ _ _ _ _ _ _ _ _ _ _ _ _ _ _ _ _ _ _ _ _ _ _ _ _ _ _ _ _ _ _ _ _ _ _ _ _ _ _ (Lib.cell?_alloc_some _ r0) (Lib.cell?_alloc_some _ r1) (Lib.cell?_alloc_some _ r2) (Lib.cell?_alloc_some _ rf) HE.out ((Below.onto (HWB _ HB5.out) HB7.out).alloc (Below.onto (HWB _ HB5.out) HB7.out).size _))
     | exact htl.out _ b7 ac e1 tx _ _ _ _ _ _ _ _ _ _ _ _ _ _ _ _ _ _ _ _ _ _ _ _ _ _ _ _ _ _ _ _ _ _ _ _ _ _ _ _ _ _ _ _ _ _ _ _ _ _ _ _ _ _ _ _ _ _ _ _ _ _ _ _ _ _ _ _ _ _ _ _ _ _ _ _ _ _ _ _ _ _ _ _ _ _ _ _ _ _ _ _ _ _ _ _ _ _ _ _ _ (far4 r0 hNb) (far4 r1 hNb) (far4 r2 hNb) (far4 rf hNF) HE.out ((((((Below.onto (HWB _ HB5.out) HB7.out).setCell hNW _).setCell hNW _).setCell hNW _).setCell hNW _))
structure Hz (W:World) (u1 u2:Option Addr) (k1 k2 z1 z2 sn:Nat) (p:ByteArray) (sl:List Ent) (er:Int) (cb fb:Bool) (fk:Int):Prop where
 see:∀ Y,Below W.heap.size W Y→Calls Tryz.prog 21 #[.agg #[.slice u1 k1 z1,.slice u2 k2 z2]] Y (SeeP sl er sn Y)
 cl:∀ Y,Below W.heap.size W Y→Calls Tryz.prog 26 #[.string p] Y fun r w'=>r=.returned (.bool cb)∧Below Y.heap.size Y w'
 get:∀ Y a c,Below W.heap.size W Y→Lies Y a sl→Calls Tryz.prog 27 #[.slice a sn c,.string p] Y fun r w'=>∃ xp xt xo,r=.returned (.tuple #[.agg #[.string xp,.int .i64 fk,.string xt,.bool xo],.bool fb])∧Below Y.heap.size Y w'
set_option maxRecDepth 100000 in
set_option maxHeartbeats 1000000 in
theorem ni (W:World) (u1 u2:Option Addr) (k1 k2 z1 z2 sn n cc:Nat) (pc:Option Addr) (p:ByteArray) (sl:List Ent) (er:Int) (cb fb:Bool) (fk:Int) (hg:Gl W.heap.size W) (hn:n≤140737488355328) (hF:Hz W u1 u2 k1 k2 z1 z2 sn p sl er cb fb fk)
  (hw:(er != 0)=true∨((er != 0)=false∧er=0∧((80:Int)<(n:Int)+3∨(¬ (80:Int)<(n:Int)+3∧(cb=false∨(cb=true∧(fb=false∨(fb=true∧(fk != 1)=true)))))))) :
  sH 8 #[.agg #[.slice u1 k1 z1,.slice u2 k2 z2],.string p,.slice pc n cc] W:=by
 have hB1:Below W.heap.size W (W.alloc (.cells #[.slice u1 k1 z1,.slice u2 k2 z2] 26)):=((Grown.refl W).alloc _).below
 have hal:=mY _ (hg.up hB1)
 have HB1:Aside (Below W.heap.size W (W.alloc (.cells #[.slice u1 k1 z1,.slice u2 k2 z2] 26))):=hB1
 have hsn:=hF.see
 have hcl:=hF.cl
 have hgt:=hF.get
 have hwr:IntKind.i64.wrap ((n:Int)+3)=(n:Int)+3:=by rw [IntKind.wrap_i64];omega
 clear hF hB1 hg hn
 rcases hw with he | ⟨_,rfl,h80 | ⟨h80,rfl | ⟨rfl,rfl | ⟨rfl,hk⟩⟩⟩⟩
 all_goals
  go_enter Tryz.func8,Tryz.ntmps8
  go_wp2_with (first
   | (go_at_call 20;refine hal.mono ?_;clear hal;rintro r w2 ⟨rfl,hB2⟩;have H2:Aside (Below W.heap.size W w2):=Below.onto HB1.out hB2;have c0:=(hB2.cell (p:=⟨W.heap.size,0,none⟩) (by simp)).trans (by simp:(W.alloc (.cells #[.slice u1 k1 z1,.slice u2 k2 z2] 26)).cell? ⟨W.heap.size,0,none⟩=some (.slice u1 k1 z1));have c1:=(hB2.cell (p:=⟨W.heap.size,1,none⟩) (by simp)).trans (by simp:(W.alloc (.cells #[.slice u1 k1 z1,.slice u2 k2 z2] 26)).cell? ⟨W.heap.size,1,none⟩=some (.slice u2 k2 z2));clear hB2)
   | (go_at_call 21;refine (hsn _ H2.out).mono ?_;clear hsn;rintro r w3 ⟨pt,ct,rfl,HV,hB3⟩;have H3:Aside (Below W.heap.size W w3):=Below.onto H2.out hB3;clear hB3 c0 c1)
   | (go_at_call 26;refine (hcl _ H3.out).mono ?_;clear hcl;rintro r w4 ⟨rfl,hB4⟩;have H4:Aside (Below W.heap.size W w4∧Lies w4 pt sl):=⟨Below.onto H3.out hB4,HV.out.kept hB4⟩;clear hB4)
   | (go_at_call 27;refine (hgt _ pt ct H4.out.1 H4.out.2).mono ?_;clear hgt;rintro r w5 ⟨xp,xt,xo,rfl,hB5⟩;have H5:Aside (Below W.heap.size W w5):=Below.onto H4.out.1 hB5;clear hB5))
  go_ret
  first
   | exact ⟨rfl,H5.out.alloc H5.out.size _⟩
   | exact ⟨rfl,H5.out⟩
   | exact ⟨rfl,H4.out.1⟩
   | exact ⟨rfl,H3.out⟩
theorem xS (y:Lay) (lo:List Lay) (pl:Option Addr) (cl:Nat) (p:ByteArray) (hp:p.size≤maxLen) (pc:Option Addr) (cc:Nat) (l:List Cl) (W:World) (hU:UnOK W y lo pl cl) (hg:Gl W.heap.size W) (hC:fC W pc l) (hs:∀ c∈l,c.Small) (hn:l.length≤140737488355328) :
  sH 8 #[.agg #[.slice y.ad y.es.length y.cap,.slice pl lo.length cl],.string p,.slice pc l.length cc] W:=by
 have hr:Right false (aB (y.es::lo.map (·.es))):=aK _
 have h1:=IZ y lo pl cl W hU hg
 have h2:=fun Y (hY:Below W.heap.size W Y)=>(hg.up hY).2.elim fun m hm=>nX p m Y hp hm
 have h3:=fun Y a c (hY:Below W.heap.size W Y) (hL:Lies Y a (aB (y.es::lo.map (·.es))))=>lV (aB (y.es::lo.map (·.es))) p a c Y hL (qC hr) (by have:=hr.len;omega) hp
 have hplay:=fun (h0:(ay (y.es::lo.map (·.es))).1=0) Y (G:List Cl) H cg m (hY:Below W.heap.size W Y) (hm:m=G.length) (h8:m≤80) (hsm:∀ c∈G,c.Small) (hCG:fC Y (some ⟨H,0,none⟩) G)=>(by subst hm;exact uS y lo pl cl (some ⟨H,0,none⟩) cg G Y (hU.kept hY) (hg.up hY) h0 h8 hCG hsm:Calls Tryz.prog 16 #[.agg #[.slice y.ad y.es.length y.cap,.slice pl lo.length cl],.slice (some ⟨H,0,none⟩) m cg] Y (nC ((aO y.es (lo.map (·.es))).run G).1 ((aO y.es (lo.map (·.es))).run G).2 Y))
 have hrun:=fun e (he:e∈aB (y.es::lo.map (·.es))) hk (hpe:p.data.toList=e.p)=>Db (up:=y.es) (lows:=lo.map (·.es)) (e:=e) he hk hpe
 generalize aB (y.es::lo.map (·.es))=sl at hr h1 h3 hrun
 generalize aO y.es (lo.map (·.es))=s0 at hplay hrun
 have h3':∃ (x:Ent) (b:Bool),(getL sl p.data.toList=if b then some x else none)∧(b=true→x=dirE∨x∈sl)∧∀ Y a c,Below W.heap.size W Y→Lies Y a sl→Calls Tryz.prog 27 #[.slice a sl.length c,.string p] Y fun r w'=>r=.returned (.tuple #[.agg #[.string x.path,.int .i64 x.kind,.string x.text,.bool x.opq],.bool b])∧Below Y.heap.size Y w':=by
  cases hgl:getL sl p.data.toList with
  | none =>
   refine ⟨zeroE,false,rfl,(fun h=>by cases h),fun Y a c hY hL=>(h3 Y a c hY hL).mono fun r w' ⟨x,b,e,h1,h2,_,h4⟩=>?_⟩
   have:=h1 hr.sorted
   rw [hgl] at this
   cases b with
   | true=>cases this
   | false=>rw [h2 rfl] at e;exact ⟨e,h4⟩
  | some z =>
   refine ⟨z,true,rfl,fun _=>?_,fun Y a c hY hL=>(h3 Y a c hY hL).mono fun r w' ⟨x,b,e,h1,h2,_,h4⟩=>?_⟩
   ·by_cases h0:p.data.toList=[]
    ·rw [h0,bU] at hgl;cases hgl;exact .inl rfl
    ·exact .inr (aM h0 hgl).1
   ·have:=h1 hr.sorted
    rw [hgl] at this
    cases b with
    | false=>cases this
    | true=>cases this;exact ⟨e,h4⟩
 obtain ⟨x,b,hx,hxm,h4⟩:=h3'
 have hQ:Hz W y.ad pl y.es.length lo.length y.cap cl sl.length p sl (ay (y.es::lo.map (·.es))).1 (clean p.data.toList) b x.kind:=⟨h1,h2,fun Y a c hY hL=>(h4 Y a c hY hL).mono fun r w' ⟨e,hb⟩=>⟨_,_,_,e,hb⟩⟩
 by_cases h0:(ay (y.es::lo.map (·.es))).1=0
 ·by_cases h80:(80:Int)<(l.length:Int)+3
  ·exact ni W _ _ _ _ _ _ _ _ _ _ _ _ _ _ _ _ hg hn hQ (.inr ⟨by simp [h0],h0,.inl h80⟩)
  ·cases hc:clean p.data.toList with
   | false=>exact ni W _ _ _ _ _ _ _ _ _ _ _ _ _ _ _ _ hg hn hQ (.inr ⟨by simp [h0],h0,.inr ⟨h80,.inl hc⟩⟩)
   | true =>
    by_cases hbk:b=true∧x.kind=1
    ·obtain ⟨rfl,hk⟩:=hbk
     have hp0:=bX hc
     obtain ⟨hxs,hxp⟩:=aM hp0 hx
     rw [hc] at h2
     rw [h0] at h1
     rw [hk] at h4
     refine E5 W _ _ _ _ _ _ sl.length l.length cc pc p l rfl hC sl x s0 hg ⟨h1,h2,h4,hplay h0,hs,?_,by omega,hrun x hxs hk hxp.symm⟩
     simp only [clean,Bool.and_eq_true,decide_eq_true_eq] at hc
     rw [← szl]
     exact hc.1
    ·refine ni W _ _ _ _ _ _ _ _ _ _ _ _ _ _ _ _ hg hn hQ (.inr ⟨by simp [h0],h0,.inr ⟨h80,.inr ⟨hc,?_⟩⟩⟩)
     cases b with
     | false=>exact .inl rfl
     | true=>exact .inr ⟨rfl,by simpa using fun h=>hbk ⟨rfl,h⟩⟩
 ·exact ni W _ _ _ _ _ _ _ _ _ _ _ _ _ _ _ _ hg hn hQ (.inl (by simpa using h0))
end Go.Proofs.YthfeoiffoeagkaaGreatDoor
