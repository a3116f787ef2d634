/-
  SysAsked.
-/
import Derived.Test.YthfeoiffoeagkaaGreatDoorZA60
namespace Go.Proofs.YthfeoiffoeagkaaGreatDoor
open Go.RowKit PM Go.Sort
set_option linter.unusedVariables false
set_option maxRecDepth 100000 in
set_option maxHeartbeats 1000000 in
theorem KU (e:Int) (u1 u2:Option Addr) (k1 k2 q1 q2:Nat) (pc:Option Addr) (n cc:Nat) (W:World) (hg:Gl W.heap.size W) (he:¬ e=0) (hp:∀ Y,Below W.heap.size W Y→Calls Tryz.prog 16 #[.agg #[.slice u1 k1 q1,.slice u2 k2 q2],.slice pc n cc] Y (Kl e Y)) :
  sH 7 #[.agg #[.slice u1 k1 q1,.slice u2 k2 q2],.slice pc n cc] W:=by
 have hB1:Below W.heap.size W (W.alloc (.cells #[.slice u1 k1 q1,.slice u2 k2 q2] 26)):=((Grown.refl W).alloc _).below
 have hal:=mY _ (hg.up hB1)
 have HB1:Aside (Below W.heap.size W (W.alloc (.cells #[.slice u1 k1 q1,.slice u2 k2 q2] 26))):=hB1
 have hne:(e != 0)=true:=by simpa using he
 clear hB1 hg
 go_enter Tryz.func7,Tryz.ntmps7
 go_wp2_with (first
  | (go_at_call 20;refine hal.mono ?_;clear hal;rintro r w2 ⟨rfl,hB2⟩;have H2:Aside (Below W.heap.size W w2):=Below.onto HB1.out hB2;have c0:=(hB2.cell (p:=⟨W.heap.size,0,none⟩) (by simp)).trans (by simp:(W.alloc (.cells #[.slice u1 k1 q1,.slice u2 k2 q2] 26)).cell? ⟨W.heap.size,0,none⟩=some (.slice u1 k1 q1));have c1:=(hB2.cell (p:=⟨W.heap.size,1,none⟩) (by simp)).trans (by simp:(W.alloc (.cells #[.slice u1 k1 q1,.slice u2 k2 q2] 26)).cell? ⟨W.heap.size,1,none⟩=some (.slice u2 k2 q2));clear hB2)
  | (go_at_call 16;refine (hp _ H2.out).mono ?_;clear hp;rintro r w3 ⟨rfl,hB3⟩;have H3:Aside (Below W.heap.size W w3):=Below.onto H2.out hB3;clear hB3))
 go_ret
 first
  | exact ⟨rfl,H3.out⟩
  | exact ⟨rfl,H3.out.alloc H3.out.size _⟩
set_option maxRecDepth 100000 in
set_option maxHeartbeats 1000000 in
theorem LJ (y:Lay) (lo:List Lay) (pl:Option Addr) (cl:Nat) (pc:Option Addr) (cc n yn ln u1 m1 o1:Nat) (l:List Cl) (s0 s1:Sy) (al:List An) (W:World) (hg:Gl W.heap.size W) (hF:KA W y lo pl cl pc n cc yn ln u1 m1 o1 l s0 s1 al) :
  sH 7 #[.agg #[.slice y.ad yn y.cap,.slice pl ln cl],.slice pc n cc] W:=by
 have hB1:Below W.heap.size W (W.alloc (.cells #[.slice y.ad yn y.cap,.slice pl ln cl] 26)):=((Grown.refl W).alloc _).below
 have hal:=mY _ (hg.up hB1)
 have HB1:Aside (Below W.heap.size W (W.alloc (.cells #[.slice y.ad yn y.cap,.slice pl ln cl] 26))):=hB1
 have HF:Aside (KA W y lo pl cl pc n cc yn ln u1 m1 o1 l s0 s1 al):=hF
 have hp1:=hF.one
 have hn80:=hF.n80
 clear hF hB1 hg
 go_enter Tryz.func7,Tryz.ntmps7
 go_wp2_with (first
  | (go_at_call 20;refine hal.mono ?_;clear hal;rintro r w2 ⟨rfl,hB2⟩;have H2:Aside (Below W.heap.size W w2):=Below.onto HB1.out hB2;have c0:=(hB2.cell (p:=⟨W.heap.size,0,none⟩) (by simp)).trans (by simp:(W.alloc (.cells #[.slice y.ad yn y.cap,.slice pl ln cl] 26)).cell? ⟨W.heap.size,0,none⟩=some (.slice y.ad yn y.cap));have c1:=(hB2.cell (p:=⟨W.heap.size,1,none⟩) (by simp)).trans (by simp:(W.alloc (.cells #[.slice y.ad yn y.cap,.slice pl ln cl] 26)).cell? ⟨W.heap.size,1,none⟩=some (.slice pl ln cl));have l2:W.heap.size<w2.heap.size:=block_lt_of_cell c0;clear hB2)
  | (go_at_call 16;refine (hp1 _ H2.out).mono ?_;clear hp1;rintro r w3 ⟨y3,lo3,pl3,cl3,ps3,sc3,ln3,pa,ac,rfl,hB3,HP3⟩;have H3:Aside (Below W.heap.size W w3):=Below.onto H2.out hB3;have d0:=(hB3.cell (p:=⟨W.heap.size,0,none⟩) l2).trans c0;have d1:=(hB3.cell (p:=⟨W.heap.size,1,none⟩) l2).trans c1;have l3:=Nat.lt_of_lt_of_le l2 hB3.size;clear hB3 c0 c1))
 have hB4:Below w3.heap.size w3 (w3.alloc (.cells #[.slice y3.ad u1 y3.cap,.slice pl3 ln3 cl3,.slice ps3 m1 sc3,.int .i64 o1] 29)):=((Grown.refl w3).alloc _).below
 have t0:(w3.alloc (.cells #[.slice y3.ad u1 y3.cap,.slice pl3 ln3 cl3,.slice ps3 m1 sc3,.int .i64 o1] 29)).cell? ⟨w3.heap.size,0,none⟩=some (.slice y3.ad u1 y3.cap):=by simp
 have t1:(w3.alloc (.cells #[.slice y3.ad u1 y3.cap,.slice pl3 ln3 cl3,.slice ps3 m1 sc3,.int .i64 o1] 29)).cell? ⟨w3.heap.size,1,none⟩=some (.slice pl3 ln3 cl3):=by simp
 have t2:(w3.alloc (.cells #[.slice y3.ad u1 y3.cap,.slice pl3 ln3 cl3,.slice ps3 m1 sc3,.int .i64 o1] 29)).cell? ⟨w3.heap.size,2,none⟩=some (.slice ps3 m1 sc3):=by simp
 have t3:(w3.alloc (.cells #[.slice y3.ad u1 y3.cap,.slice pl3 ln3 cl3,.slice ps3 m1 sc3,.int .i64 o1] 29)).cell? ⟨w3.heap.size,3,none⟩=some (.int .i64 o1):=by simp
 replace d0:=(hB4.cell (p:=⟨W.heap.size,0,none⟩) l3).trans d0
 replace d1:=(hB4.cell (p:=⟨W.heap.size,1,none⟩) l3).trans d1
 have H4:Aside (Below W.heap.size W (w3.alloc (.cells #[.slice y3.ad u1 y3.cap,.slice pl3 ln3 cl3,.slice ps3 m1 sc3,.int .i64 o1] 29))∧ln3=lo3.length∧y3.es=s1.up∧lo3.map (·.es)=s1.lows∧UnOK (w3.alloc (.cells #[.slice y3.ad u1 y3.cap,.slice pl3 ln3 cl3,.slice ps3 m1 sc3,.int .i64 o1] 29)) y3 lo3 pl3 cl3∧Lies (w3.alloc (.cells #[.slice y3.ad u1 y3.cap,.slice pl3 ln3 cl3,.slice ps3 m1 sc3,.int .i64 o1] 29)) ps3 s1.seen∧pU (w3.alloc (.cells #[.slice y3.ad u1 y3.cap,.slice pl3 ln3 cl3,.slice ps3 m1 sc3,.int .i64 o1] 29)) pa al):=by
  obtain ⟨a1,a2,a3,a4,a5,a6⟩:=HP3.out
  exact ⟨Below.onto H3.out hB4,a1,a2,a3,a4.kept hB4,a5.kept hB4,a6.kept hB4⟩
 generalize w3.alloc (.cells #[.slice y3.ad u1 y3.cap,.slice pl3 ln3 cl3,.slice ps3 m1 sc3,.int .i64 o1] 29)=W4 at t0 t1 t2 t3 d0 d1 H4 ⊢
 clear hB4 HP3 H3
 have lT:=block_lt_of_cell t0
 generalize w3.heap.size=S3 at t0 t1 t2 t3 lT ⊢
 obtain ⟨B,hB⟩:∃ B,B=W4.heap.size:=⟨_,rfl⟩
 obtain ⟨ba,avs,hpa,hav⟩:∃ (ba:Nat) (avs:List Av),(n=0∨pa=some ⟨ba,0,none⟩)∧(Each (AvIs W4) al avs∧KC W4 ba avs∧(n=0∨ba<B)):=by
  have hla:al.length=n:=by have:=HF.out.run;have h2:=wK s0 l;rw [this] at h2;exact h2.trans HF.out.ll
  rcases H4.out.2.2.2.2.2.2 with h | ⟨ba,e,hb,hh⟩
  ·subst h
   exact ⟨0,[],.inl hla.symm,trivial,fun i y hy=>by simp at hy,.inl hla.symm⟩
  ·obtain ⟨avs,g1,g2,g3⟩:=Kw hh al.length (Nat.le_refl _)
   exact ⟨ba,avs,.inr e,KH al avs g1 g2,g3,.inr (by rw [hB];exact hb)⟩
 have HV:Aside (Each (AvIs W4) al avs∧KC W4 ba avs∧B=W4.heap.size∧(n=0∨ba<B)):=⟨hav.1,hav.2.1,hB,hav.2.2⟩
 clear hav hB
 go_loopg [8,9,28] n (fun gg vg vw i wr=>∃ k:Nat,k≤n∧n-k≤gg∧i=.int .i64 k∧Aside (dK wr B vg ((selK (fun (c:Cl) (_:Av)=>(c.kind != 11) && (c.kind != 12)) l avs k).map (·.1))∧eH wr B vw ((selK (fun (c:Cl) (_:Av)=>(c.kind != 11) && (c.kind != 12)) l avs k).map (·.2))∧Below B W4 wr))
 case atStart=>exact ⟨0,Nat.zero_le _,by omega,rfl,dK.nil _ _,eH.nil _ _,Below.refl _ _⟩
 case round =>
  obtain ⟨k,hk,hgg,rfl,HI⟩:=hrel
  by_cases hlt:k<n
  ·have hltz:(k:Int)<(n:Int):=by omega
   obtain rfl:pa=some ⟨ba,0,none⟩:=hpa.resolve_left (by omega)
   have hba0:ba<B:=HV.out.2.2.2.resolve_left (by omega)
   obtain ⟨c,hc⟩:∃ c,l[k]?=some c:=⟨_,List.getElem?_eq_getElem (by have:=HF.out.ll;omega)⟩
   have hla:avs.length=n:=by have:=(J9 HV.out.1).1;have h1:=HF.out.run;have h2:=wK s0 l;rw [h1] at h2;have h3:=HF.out.ll;have h2:al.length=l.length:=h2;omega
   obtain ⟨av,hy⟩:∃ av,avs[k]?=some av:=⟨_,List.getElem?_eq_getElem (by omega)⟩
   have hW4r:W4.heap.size≤wr.heap.size:=by have:=HI.out.2.2.size;exact this
   have hBr:B≤wr.heap.size:=by rw [HV.out.2.2.1];exact hW4r
   have hcells:∃ b off,pc=some ⟨b,off,none⟩∧b<B∧∀ j v,(encC c)[j]?=some v→wr.cell? ⟨b,off+k*9+j,none⟩=some v:=by
    rcases HF.out.lies with e | ⟨b,off,e,hb,hh⟩
    ·rw [e] at hc;simp at hc
    ·have hbB:b<B:=by rw [HV.out.2.2.1];exact Nat.lt_of_lt_of_le hb H4.out.1.size
     exact ⟨b,off,e,hbB,fun j v hv=>(HI.out.2.2.cell (p:=⟨b,off+k*9+j,none⟩) hbB).trans ((H4.out.1.cell (p:=⟨b,off+k*9+j,none⟩) hb).trans (hh k c hc j v hv))⟩
   obtain ⟨bc,off,rfl,hbc,hcc⟩:=hcells
   have hacs:=fun j v hv=>(HI.out.2.2.cell (p:=⟨ba,k*4+j,none⟩) hba0).trans (HV.out.2.1 k av hy j v hv)
   have HN:Aside (selK (fun (c:Cl) (_:Av)=>(c.kind != 11) && (c.kind != 12)) l avs (k+1)=selK (fun (c:Cl) (_:Av)=>(c.kind != 11) && (c.kind != 12)) l avs k++if (fun (c:Cl) (_:Av)=>(c.kind != 11) && (c.kind != 12)) c av then [(c,av)] else []):=KR hc hy
   have hlen:=K7 (fun (c:Cl) (_:Av)=>(c.kind != 11) && (c.kind != 12)) l avs k
   have hln:=HF.out.ll
   generalize selK (fun (c:Cl) (_:Av)=>(c.kind != 11) && (c.kind != 12)) l avs k=Gk at HI HN hlen
   obtain ⟨ck,co,cf,cn,cm,cp,ct,cx,ca⟩:=c
   obtain ⟨ae,an,ax,ap,ak,ac2⟩:=av
   have q0:wr.cell? ⟨bc,off+k*9,none⟩=some (.int .i64 ck):=hcc 0 _ rfl
   have q1:wr.cell? ⟨bc,off+k*9+1,none⟩=some (.int .i64 co):=hcc 1 _ rfl
   have q2:wr.cell? ⟨bc,off+k*9+2,none⟩=some (.int .i64 cf):=hcc 2 _ rfl
   have q3:wr.cell? ⟨bc,off+k*9+3,none⟩=some (.int .i64 cn):=hcc 3 _ rfl
   have q4:wr.cell? ⟨bc,off+k*9+4,none⟩=some (.int .i64 cm):=hcc 4 _ rfl
   have q5:wr.cell? ⟨bc,off+k*9+5,none⟩=some (.string cp):=hcc 5 _ rfl
   have q6:wr.cell? ⟨bc,off+k*9+6,none⟩=some (.string ct):=hcc 6 _ rfl
   have q7:wr.cell? ⟨bc,off+k*9+7,none⟩=some (.string cx):=hcc 7 _ rfl
   have q8:wr.cell? ⟨bc,off+k*9+8,none⟩=some (.bool ca):=hcc 8 _ rfl
   have hBA:Below wr.heap.size wr (wr.alloc (.cells #[.int .i64 ck,.int .i64 co,.int .i64 cf,.int .i64 cn,.int .i64 cm,.string cp,.string ct,.string cx,.bool ca] 50)):=((Grown.refl wr).alloc _).below
   have r0:(wr.alloc (.cells #[.int .i64 ck,.int .i64 co,.int .i64 cf,.int .i64 cn,.int .i64 cm,.string cp,.string ct,.string cx,.bool ca] 50)).cell? ⟨ba,k*4,none⟩=some (.int .i64 ae):=Lib.cell?_alloc_some _ (hacs 0 _ rfl)
   have r1:(wr.alloc (.cells #[.int .i64 ck,.int .i64 co,.int .i64 cf,.int .i64 cn,.int .i64 cm,.string cp,.string ct,.string cx,.bool ca] 50)).cell? ⟨ba,k*4+1,none⟩=some (.int .i64 an):=Lib.cell?_alloc_some _ (hacs 1 _ rfl)
   have r2:(wr.alloc (.cells #[.int .i64 ck,.int .i64 co,.int .i64 cf,.int .i64 cn,.int .i64 cm,.string cp,.string ct,.string cx,.bool ca] 50)).cell? ⟨ba,k*4+2,none⟩=some (.string ax):=Lib.cell?_alloc_some _ (hacs 2 _ rfl)
   have r3:(wr.alloc (.cells #[.int .i64 ck,.int .i64 co,.int .i64 cf,.int .i64 cn,.int .i64 cm,.string cp,.string ct,.string cx,.bool ca] 50)).cell? ⟨ba,k*4+3,none⟩=some (.slice ap ak ac2):=Lib.cell?_alloc_some _ (hacs 3 _ rfl)
   clear hcc hacs hc hy
   have hk1:(ck != 11)=true∨(ck != 11)=false:=by cases (ck != 11) <;> simp
   have hk2:(ck != 12)=true∨(ck != 12)=false:=by cases (ck != 12) <;> simp
   have hTT:((ck != 11) && (ck != 12))=true∨((ck != 11) && (ck != 12))=false:=by cases ((ck != 11) && (ck != 12)) <;> simp
   rcases hTT with hT | hT
   all_goals have HT:Aside (_):=hT
   ·have hT1:(ck != 11)=true:=by simp at hT;simp [hT.1]
    have hT2:(ck != 12)=true:=by simp at hT;simp [hT.2]
    clear hk1 hk2
    go_wp2
    have x0:(wr.alloc (.cells #[.int .i64 ck,.int .i64 co,.int .i64 cf,.int .i64 cn,.int .i64 cm,.string cp,.string ct,.string cx,.bool ca] 50)).cell? ⟨wr.heap.size,0,none⟩=some (.int .i64 ck):=by simp
    have x1:(wr.alloc (.cells #[.int .i64 ck,.int .i64 co,.int .i64 cf,.int .i64 cn,.int .i64 cm,.string cp,.string ct,.string cx,.bool ca] 50)).cell? ⟨wr.heap.size,1,none⟩=some (.int .i64 co):=by simp
    have x2:(wr.alloc (.cells #[.int .i64 ck,.int .i64 co,.int .i64 cf,.int .i64 cn,.int .i64 cm,.string cp,.string ct,.string cx,.bool ca] 50)).cell? ⟨wr.heap.size,2,none⟩=some (.int .i64 cf):=by simp
    have x3:(wr.alloc (.cells #[.int .i64 ck,.int .i64 co,.int .i64 cf,.int .i64 cn,.int .i64 cm,.string cp,.string ct,.string cx,.bool ca] 50)).cell? ⟨wr.heap.size,3,none⟩=some (.int .i64 cn):=by simp
    have x4:(wr.alloc (.cells #[.int .i64 ck,.int .i64 co,.int .i64 cf,.int .i64 cn,.int .i64 cm,.string cp,.string ct,.string cx,.bool ca] 50)).cell? ⟨wr.heap.size,4,none⟩=some (.int .i64 cm):=by simp
    have x5:(wr.alloc (.cells #[.int .i64 ck,.int .i64 co,.int .i64 cf,.int .i64 cn,.int .i64 cm,.string cp,.string ct,.string cx,.bool ca] 50)).cell? ⟨wr.heap.size,5,none⟩=some (.string cp):=by simp
    have x6:(wr.alloc (.cells #[.int .i64 ck,.int .i64 co,.int .i64 cf,.int .i64 cn,.int .i64 cm,.string cp,.string ct,.string cx,.bool ca] 50)).cell? ⟨wr.heap.size,6,none⟩=some (.string ct):=by simp
    have x7:(wr.alloc (.cells #[.int .i64 ck,.int .i64 co,.int .i64 cf,.int .i64 cn,.int .i64 cm,.string cp,.string ct,.string cx,.bool ca] 50)).cell? ⟨wr.heap.size,7,none⟩=some (.string cx):=by simp
    have x8:(wr.alloc (.cells #[.int .i64 ck,.int .i64 co,.int .i64 cf,.int .i64 cn,.int .i64 cm,.string cp,.string ct,.string cx,.bool ca] 50)).cell? ⟨wr.heap.size,8,none⟩=some (.bool ca):=by simp
    have HRC:Aside (dK (wr.alloc (.cells #[.int .i64 ck,.int .i64 co,.int .i64 cf,.int .i64 cn,.int .i64 cm,.string cp,.string ct,.string cx,.bool ca] 50)) B u8 (Gk.map (·.1))):=HI.out.1.below hBA
    have HRA:Aside (eH (wr.alloc (.cells #[.int .i64 ck,.int .i64 co,.int .i64 cf,.int .i64 cn,.int .i64 cm,.string cp,.string ct,.string cx,.bool ca] 50)) B u9 (Gk.map (·.2))):=HI.out.2.1.below hBA
    have HBX:Aside (Below B W4 (wr.alloc (.cells #[.int .i64 ck,.int .i64 co,.int .i64 cf,.int .i64 cn,.int .i64 cm,.string cp,.string ct,.string cx,.bool ca] 50))):=HI.out.2.2.trans (hBA.mono hBr)
    have hBX:B≤(wr.alloc (.cells #[.int .i64 ck,.int .i64 co,.int .i64 cf,.int .i64 cn,.int .i64 cm,.string cp,.string ct,.string cx,.bool ca] 50)).heap.size:=by simp;omega
    have hGl:(Gk.map (·.1)).length≤20000:=by rw [List.length_map];omega
    have hAl:(Gk.map (·.2)).length≤20000:=by rw [List.length_map];omega
    have hba:ba<B:=hba0
    clear q0 q1 q2 q3 q4 q5 q6 q7 q8
    generalize wr.alloc (.cells #[.int .i64 ck,.int .i64 co,.int .i64 cf,.int .i64 cn,.int .i64 cm,.string cp,.string ct,.string cx,.bool ca] 50)=X at x0 x1 x2 x3 x4 x5 x6 x7 x8 r0 r1 r2 r3 HRC HRA HBX hBX hBA ⊢
    generalize wr.heap.size=Cb at x0 x1 x2 x3 x4 x5 x6 x7 x8 ⊢
    have xa0:=fun o=>Lib.cell?_alloc_some o x0
    have xa1:=fun o=>Lib.cell?_alloc_some o x1
    have xa2:=fun o=>Lib.cell?_alloc_some o x2
    have xa3:=fun o=>Lib.cell?_alloc_some o x3
    have xa4:=fun o=>Lib.cell?_alloc_some o x4
    have xa5:=fun o=>Lib.cell?_alloc_some o x5
    have xa6:=fun o=>Lib.cell?_alloc_some o x6
    have xa7:=fun o=>Lib.cell?_alloc_some o x7
    have xa8:=fun o=>Lib.cell?_alloc_some o x8
    have ra0:=fun o=>Lib.cell?_alloc_some o r0
    have ra1:=fun o=>Lib.cell?_alloc_some o r1
    have ra2:=fun o=>Lib.cell?_alloc_some o r2
    have ra3:=fun o=>Lib.cell?_alloc_some o r3
    have hgo1:True:=trivial
    have hgo2:True:=trivial
    go_region_law (first
     | (refine sj (X.heap.size) ⟨ck,co,cf,cn,cm,cp,ct,cx,ca⟩ rfl _ _ rfl B u8 (Gk.map (·.1)) (by first | (simp [Act.eval];done) | fail) (HRC.out.below (by first | ((repeat (first | exact Below.refl _ _ | refine Below.alloc ?_ (by first | omega | (simp;done) | (simp;omega)) _ | refine Below.drew ?_));done) | fail)) hGl (by first | omega | (simp;done) | (simp;omega)) (by first | (simp [Act.eval];done) | fail) (sP (by first | exact heap_alloc_last X _ | exact blk1 X _ _ | exact blk2 X _ _ | fail)) ?_;clear hgo1;intro v5 w5 hR5 hs5 hk5 hB5;have HN5:Aside (w5.heap[X.heap.size+1]?=some (.cells #[.int .i64 ae,.int .i64 an,.string ax,.slice ap ak ac2] 38)):=((hk5 _ (by first | omega | (simp;done) | (simp;omega)) (fun e=>by obtain ⟨_,cur,hh⟩:=HRC.out.own e;have:=(Array.getElem?_eq_some_iff.1 hh).1;omega)).trans (by first | exact heap_alloc_last X _ | exact blk1 X _ _ | exact blk2 X _ _ | fail));have hX5:X.heap.size≤w5.heap.size:=(by first | omega | (simp at hs5;omega));have HB5:Aside (Below B X w5):=Below.trans (Below.mono (show Below X.heap.size X _ from (by first | ((repeat (first | exact Below.refl _ _ | refine Below.alloc ?_ (by first | omega | (simp;done) | (simp;omega)) _ | refine Below.drew ?_));done) | fail)) hBX) hB5;have H5:Aside (dK w5 B v5 (Gk.map (·.1)++[⟨ck,co,cf,cn,cm,cp,ct,cx,ca⟩])∧eH w5 B u9 (Gk.map (·.2))):=⟨hR5,HRA.out.at fun g hg=>(hk5 g (by obtain ⟨_,cur,hh⟩:=HRA.out.own hg;have:=(Array.getElem?_eq_some_iff.1 hh).1;first | omega | (simp;omega)) (fun e=>FZ HRC.out HRA.out e hg)).trans ((show Below X.heap.size X _ from (by first | ((repeat (first | exact Below.refl _ _ | refine Below.alloc ?_ (by first | omega | (simp;done) | (simp;omega)) _ | refine Below.drew ?_));done) | fail)).block g (by obtain ⟨_,cur,hh⟩:=HRA.out.own hg;exact (Array.getElem?_eq_some_iff.1 hh).1))⟩;have s0:=(HB5.out.cell (p:=⟨ba,k*4,none⟩) hba).trans r0;have s1':=(HB5.out.cell (p:=⟨ba,k*4+1,none⟩) hba).trans r1;have s2':=(HB5.out.cell (p:=⟨ba,k*4+2,none⟩) hba).trans r2;have s3':=(HB5.out.cell (p:=⟨ba,k*4+3,none⟩) hba).trans r3;clear hR5 hs5 hk5 hB5)
     | (refine sj (X.heap.size+1) ⟨ck,co,cf,cn,cm,cp,ct,cx,ca⟩ rfl _ _ rfl B u8 (Gk.map (·.1)) (by first | (simp [Act.eval];done) | fail) (HRC.out.below (by first | ((repeat (first | exact Below.refl _ _ | refine Below.alloc ?_ (by first | omega | (simp;done) | (simp;omega)) _ | refine Below.drew ?_));done) | fail)) hGl (by first | omega | (simp;done) | (simp;omega)) (by first | (simp [Act.eval];done) | fail) (sP (by first | exact heap_alloc_last X _ | exact blk1 X _ _ | exact blk2 X _ _ | fail)) ?_;clear hgo1;intro v5 w5 hR5 hs5 hk5 hB5;have HN5:Aside (w5.heap[X.heap.size]?=some (.cells #[.int .i64 ae,.int .i64 an,.string ax,.slice ap ak ac2] 38)):=((hk5 _ (by first | omega | (simp;done) | (simp;omega)) (fun e=>by obtain ⟨_,cur,hh⟩:=HRC.out.own e;have:=(Array.getElem?_eq_some_iff.1 hh).1;omega)).trans (by first | exact heap_alloc_last X _ | exact blk1 X _ _ | exact blk2 X _ _ | fail));have hX5:X.heap.size≤w5.heap.size:=(by first | omega | (simp at hs5;omega));have HB5:Aside (Below B X w5):=Below.trans (Below.mono (show Below X.heap.size X _ from (by first | ((repeat (first | exact Below.refl _ _ | refine Below.alloc ?_ (by first | omega | (simp;done) | (simp;omega)) _ | refine Below.drew ?_));done) | fail)) hBX) hB5;have H5:Aside (dK w5 B v5 (Gk.map (·.1)++[⟨ck,co,cf,cn,cm,cp,ct,cx,ca⟩])∧eH w5 B u9 (Gk.map (·.2))):=⟨hR5,HRA.out.at fun g hg=>(hk5 g (by obtain ⟨_,cur,hh⟩:=HRA.out.own hg;have:=(Array.getElem?_eq_some_iff.1 hh).1;first | omega | (simp;omega)) (fun e=>FZ HRC.out HRA.out e hg)).trans ((show Below X.heap.size X _ from (by first | ((repeat (first | exact Below.refl _ _ | refine Below.alloc ?_ (by first | omega | (simp;done) | (simp;omega)) _ | refine Below.drew ?_));done) | fail)).block g (by obtain ⟨_,cur,hh⟩:=HRA.out.own hg;exact (Array.getElem?_eq_some_iff.1 hh).1))⟩;have s0:=(HB5.out.cell (p:=⟨ba,k*4,none⟩) hba).trans r0;have s1':=(HB5.out.cell (p:=⟨ba,k*4+1,none⟩) hba).trans r1;have s2':=(HB5.out.cell (p:=⟨ba,k*4+2,none⟩) hba).trans r2;have s3':=(HB5.out.cell (p:=⟨ba,k*4+3,none⟩) hba).trans r3;clear hR5 hs5 hk5 hB5)
     | (refine sj (X.heap.size) ⟨ck,co,cf,cn,cm,cp,ct,cx,ca⟩ rfl _ _ rfl B u8 (Gk.map (·.1)) (by first | (simp [Act.eval];done) | fail) (HRC.out.below (by first | ((repeat (first | exact Below.refl _ _ | refine Below.alloc ?_ (by first | omega | (simp;done) | (simp;omega)) _ | refine Below.drew ?_));done) | fail)) hGl (by first | omega | (simp;done) | (simp;omega)) (by first | (simp [Act.eval];done) | fail) (sP (by first | exact heap_alloc_last X _ | fail)) ?_;clear hgo1;intro v5 w5 hR5 hs5 hk5 hB5;have hX5:X.heap.size≤w5.heap.size:=(by first | omega | (simp at hs5;omega));have HB5:Aside (Below B X w5):=Below.trans (Below.mono (show Below X.heap.size X _ from (by first | ((repeat (first | exact Below.refl _ _ | refine Below.alloc ?_ (by first | omega | (simp;done) | (simp;omega)) _ | refine Below.drew ?_));done) | fail)) hBX) hB5;have H5:Aside (dK w5 B v5 (Gk.map (·.1)++[⟨ck,co,cf,cn,cm,cp,ct,cx,ca⟩])∧eH w5 B u9 (Gk.map (·.2))):=⟨hR5,HRA.out.at fun g hg=>(hk5 g (by obtain ⟨_,cur,hh⟩:=HRA.out.own hg;have:=(Array.getElem?_eq_some_iff.1 hh).1;first | omega | (simp;omega)) (fun e=>FZ HRC.out HRA.out e hg)).trans ((show Below X.heap.size X _ from (by first | ((repeat (first | exact Below.refl _ _ | refine Below.alloc ?_ (by first | omega | (simp;done) | (simp;omega)) _ | refine Below.drew ?_));done) | fail)).block g (by obtain ⟨_,cur,hh⟩:=HRA.out.own hg;exact (Array.getElem?_eq_some_iff.1 hh).1))⟩;have s0:=(HB5.out.cell (p:=⟨ba,k*4,none⟩) hba).trans r0;have s1':=(HB5.out.cell (p:=⟨ba,k*4+1,none⟩) hba).trans r1;have s2':=(HB5.out.cell (p:=⟨ba,k*4+2,none⟩) hba).trans r2;have s3':=(HB5.out.cell (p:=⟨ba,k*4+3,none⟩) hba).trans r3;clear hR5 hs5 hk5 hB5)
     | (refine Ke (w5.heap.size) ⟨ae,an,ax,ap,ak,ac2⟩ rfl _ _ rfl B u9 (Gk.map (·.2)) (by first | (simp [Act.eval];done) | fail) (H5.out.2.below (by first | ((repeat (first | exact Below.refl _ _ | refine Below.alloc ?_ (by first | omega | (simp;done) | (simp;omega)) _ | refine Below.drew ?_));done) | fail)) hAl (by first | omega | (simp;done) | (simp;omega)) (by first | (simp [Act.eval];done) | fail) (Kk (by first | exact heap_alloc_last w5 _ | fail)) ?_;clear hgo2;intro v6 w6 hR6 hs6 hk6 hB6;have H6:Aside (dK w6 B v5 (Gk.map (·.1)++[⟨ck,co,cf,cn,cm,cp,ct,cx,ca⟩])∧eH w6 B v6 (Gk.map (·.2)++[⟨ae,an,ax,ap,ak,ac2⟩])∧Below B W4 w6):=⟨H5.out.1.at fun g hg=>(hk6 g (by obtain ⟨_,cur,hh⟩:=H5.out.1.own hg;have:=(Array.getElem?_eq_some_iff.1 hh).1;first | omega | (simp;omega)) (FZ H5.out.1 H5.out.2 hg)).trans ((show Below w5.heap.size w5 _ from (by first | ((repeat (first | exact Below.refl _ _ | refine Below.alloc ?_ (by first | omega | (simp;done) | (simp;omega)) _ | refine Below.drew ?_));done) | fail)).block g (by obtain ⟨_,cur,hh⟩:=H5.out.1.own hg;exact (Array.getElem?_eq_some_iff.1 hh).1)),hR6,(HBX.out.trans HB5.out).trans (Below.trans (Below.mono (show Below w5.heap.size w5 _ from (by first | ((repeat (first | exact Below.refl _ _ | refine Below.alloc ?_ (by first | omega | (simp;done) | (simp;omega)) _ | refine Below.drew ?_));done) | fail)) (Nat.le_trans hBX hX5)) hB6)⟩;clear hR6 hs6 hk6 hB6)
     | (refine Ke (X.heap.size+1) ⟨ae,an,ax,ap,ak,ac2⟩ rfl _ _ rfl B u9 (Gk.map (·.2)) (by first | (simp [Act.eval];done) | fail) (H5.out.2.below (by first | ((repeat (first | exact Below.refl _ _ | refine Below.alloc ?_ (by first | omega | (simp;done) | (simp;omega)) _ | refine Below.drew ?_));done) | fail)) hAl (by first | omega | (simp;done) | (simp;omega)) (by first | (simp [Act.eval];done) | fail) (Kk (by first | exact HN5.out | fail)) ?_;clear hgo2;intro v6 w6 hR6 hs6 hk6 hB6;have H6:Aside (dK w6 B v5 (Gk.map (·.1)++[⟨ck,co,cf,cn,cm,cp,ct,cx,ca⟩])∧eH w6 B v6 (Gk.map (·.2)++[⟨ae,an,ax,ap,ak,ac2⟩])∧Below B W4 w6):=⟨H5.out.1.at fun g hg=>(hk6 g (by obtain ⟨_,cur,hh⟩:=H5.out.1.own hg;have:=(Array.getElem?_eq_some_iff.1 hh).1;first | omega | (simp;omega)) (FZ H5.out.1 H5.out.2 hg)).trans ((show Below w5.heap.size w5 _ from (by first | ((repeat (first | exact Below.refl _ _ | refine Below.alloc ?_ (by first | omega | (simp;done) | (simp;omega)) _ | refine Below.drew ?_));done) | fail)).block g (by obtain ⟨_,cur,hh⟩:=H5.out.1.own hg;exact (Array.getElem?_eq_some_iff.1 hh).1)),hR6,(HBX.out.trans HB5.out).trans (Below.trans (Below.mono (show Below w5.heap.size w5 _ from (by first | ((repeat (first | exact Below.refl _ _ | refine Below.alloc ?_ (by first | omega | (simp;done) | (simp;omega)) _ | refine Below.drew ?_));done) | fail)) (Nat.le_trans hBX hX5)) hB6)⟩;clear hR6 hs6 hk6 hB6)
     | (refine Ke (X.heap.size) ⟨ae,an,ax,ap,ak,ac2⟩ rfl _ _ rfl B u9 (Gk.map (·.2)) (by first | (simp [Act.eval];done) | fail) (H5.out.2.below (by first | ((repeat (first | exact Below.refl _ _ | refine Below.alloc ?_ (by first | omega | (simp;done) | (simp;omega)) _ | refine Below.drew ?_));done) | fail)) hAl (by first | omega | (simp;done) | (simp;omega)) (by first | (simp [Act.eval];done) | fail) (Kk (by first | exact HN5.out | fail)) ?_;clear hgo2;intro v6 w6 hR6 hs6 hk6 hB6;have H6:Aside (dK w6 B v5 (Gk.map (·.1)++[⟨ck,co,cf,cn,cm,cp,ct,cx,ca⟩])∧eH w6 B v6 (Gk.map (·.2)++[⟨ae,an,ax,ap,ak,ac2⟩])∧Below B W4 w6):=⟨H5.out.1.at fun g hg=>(hk6 g (by obtain ⟨_,cur,hh⟩:=H5.out.1.own hg;have:=(Array.getElem?_eq_some_iff.1 hh).1;first | omega | (simp;omega)) (FZ H5.out.1 H5.out.2 hg)).trans ((show Below w5.heap.size w5 _ from (by first | ((repeat (first | exact Below.refl _ _ | refine Below.alloc ?_ (by first | omega | (simp;done) | (simp;omega)) _ | refine Below.drew ?_));done) | fail)).block g (by obtain ⟨_,cur,hh⟩:=H5.out.1.own hg;exact (Array.getElem?_eq_some_iff.1 hh).1)),hR6,(HBX.out.trans HB5.out).trans (Below.trans (Below.mono (show Below w5.heap.size w5 _ from (by first | ((repeat (first | exact Below.refl _ _ | refine Below.alloc ?_ (by first | omega | (simp;done) | (simp;omega)) _ | refine Below.drew ?_));done) | fail)) (Nat.le_trans hBX hX5)) hB6)⟩;clear hR6 hs6 hk6 hB6))
    all_goals
     go_wp2
     go_roundg (n-(k+1))
     case measure=>omega
     case rel=>exact ⟨k+1,by omega,by omega,by go_num,by rw [HN.out,if_pos HT.out,List.map_append];exact H6.out.1,by rw [HN.out,if_pos HT.out,List.map_append];exact H6.out.2.1,H6.out.2.2⟩
   ·rcases hk1 with hk1 | hk1
    ·have hk3:(ck != 12)=false:=by rw [hk1] at hT;simpa using hT
     clear hk2
     go_wp2
     go_roundg (n-(k+1))
     case measure=>omega
     case rel=>exact ⟨k+1,by omega,by omega,by go_num,by rw [HN.out,if_neg (by rw [HT.out];simp),List.append_nil];exact HI.out.1.below hBA,by rw [HN.out,if_neg (by rw [HT.out];simp),List.append_nil];exact HI.out.2.1.below hBA,HI.out.2.2.trans (hBA.mono hBr)⟩
    ·clear hk2
     go_wp2
     go_roundg (n-(k+1))
     case measure=>omega
     case rel=>exact ⟨k+1,by omega,by omega,by go_num,by rw [HN.out,if_neg (by rw [HT.out];simp),List.append_nil];exact HI.out.1.below hBA,by rw [HN.out,if_neg (by rw [HT.out];simp),List.append_nil];exact HI.out.2.1.below hBA,HI.out.2.2.trans (hBA.mono hBr)⟩
  ·have hltz:¬ (k:Int)<(n:Int):=by omega
   obtain rfl:k=n:=by omega
   have hall:selK (fun (c:Cl) (_:Av)=>(c.kind != 11) && (c.kind != 12)) l avs k=selV (fun (c:Cl) (_:Av)=>(c.kind != 11) && (c.kind != 12)) l avs:=K6 (by rw [HF.out.ll];exact Nat.le_refl _)
   have hss:=Kz (R:=AvIs W4) (P:=(fun (c:Cl) (_:Av)=>(c.kind != 11) && (c.kind != 12))) (p:=(fun (x:Cl × An)=>(x.1.kind != 11) && (x.1.kind != 12))) (fun c a y h=>rfl) l al avs HV.out.1
   have hrl:=Ky (fun (x:Cl × An)=>(x.1.kind != 11) && (x.1.kind != 12)) (fun s c h=>Li s c (by have h:((c.kind != 11) && (c.kind != 12))=false:=h;simp at h;omega)) l s0
   rw [HF.out.run] at hrl
   obtain ⟨G,hG⟩:∃ G,G=((l.zip al).filter (fun (x:Cl × An)=>(x.1.kind != 11) && (x.1.kind != 12))).map (·.1):=⟨_,rfl⟩
   obtain ⟨bl,hbl⟩:∃ bl,bl=((l.zip al).filter (fun (x:Cl × An)=>(x.1.kind != 11) && (x.1.kind != 12))).map (·.2):=⟨_,rfl⟩
   have hnm:∀ a∈bl,a.names.length≤80:=fun a ha=>by
    rw [hbl] at ha
    obtain ⟨x,hx,rfl⟩:=List.mem_map.1 ha
    have hx:=(List.of_mem_zip (List.mem_filter.1 hx).1).2
    have:=Ko l s0 x.2
    rw [HF.out.run] at this
    exact this hx
   have hGm:∀ c∈G,c∈l:=fun c hc=>by
    rw [hG] at hc
    obtain ⟨x,hx,rfl⟩:=List.mem_map.1 hc
    exact (List.of_mem_zip (List.mem_filter.1 hx).1).1
   rw [← hG,← hbl] at hrl
   have hI:=HI.out
   rw [hall,hss.1,← hG] at hI
   have hE:Each (AvIs W4) bl ((selV (fun (c:Cl) (_:Av)=>(c.kind != 11) && (c.kind != 12)) l avs).map (·.2)):=by rw [hbl];exact hss.2
   generalize (selV (fun (c:Cl) (_:Av)=>(c.kind != 11) && (c.kind != 12)) l avs).map (·.2)=A at hI hE
   obtain ⟨hRC,hRA,hB4⟩:=hI
   have hB4':Below W4.heap.size W4 wr:=by rw [HV.out.2.2.1] at hB4;exact hB4
   obtain ⟨pw,cw,rfl,hLw⟩:=KQ hRA (Ku (fun a y h=>h.kept hB4') hE)
   obtain ⟨m,hm⟩:∃ m,m=G.length:=⟨_,rfl⟩
   have hAm:A.length=m:=by
    rw [(J9 hE).1,hbl,hm,hG,List.length_map,List.length_map]
   have hm80:m≤80:=by
    have h1:G.length≤l.length:=by
     rw [hG,List.length_map]
     refine Nat.le_trans (List.length_filter_le _ _) ?_
     rw [List.length_zip]
     omega
    have:=HF.out.ll
    omega
   rw [hAm] at hRA ⊢
   obtain ⟨pg,cg,rfl,hCG⟩:∃ pg cg,u8=.slice pg m cg∧fC wr pg G:=by
    by_cases h0:G=[]
    ·obtain ⟨_,⟨hv,hn0⟩ | ⟨g,cap,cur,hv,_⟩⟩:=hRC
     ·exact ⟨none,0,by rw [hm,h0];exact hv,.inl h0⟩
     ·exact ⟨_,_,by rw [hm];exact hv,.inl h0⟩
    ·obtain ⟨b,c,hv,hC⟩:=oC hRC h0
     exact ⟨_,_,by rw [hm];exact hv,hC⟩
   have hp2:=HF.out.two wr G bl pg cg m (Below.onto H4.out.1 hB4') hrl hGm hm hm80 hCG
   have HX:Aside (Below W4.heap.size W4 wr∧Each (AvIs W4) bl A∧pU wr pw bl∧(∀ a∈bl,a.names.length≤80)∧bl.length=m∧y3.es.length=u1∧s1.seen.length=m1):=⟨hB4',hE,hLw,hnm,by rw [← hAm];exact ((J9 hE).1).symm,by rw [H4.out.2.2.1,HF.out.nu],HF.out.nm.symm⟩
   replace t0:=(hB4'.cell (p:=⟨S3,0,none⟩) lT).trans t0
   replace t1:=(hB4'.cell (p:=⟨S3,1,none⟩) lT).trans t1
   replace t2:=(hB4'.cell (p:=⟨S3,2,none⟩) lT).trans t2
   replace t3:=(hB4'.cell (p:=⟨S3,3,none⟩) lT).trans t3
   have lW:=block_lt_of_cell d0
   replace d0:=(hB4'.cell (p:=⟨W.heap.size,0,none⟩) lW).trans d0
   replace d1:=(hB4'.cell (p:=⟨W.heap.size,1,none⟩) lW).trans d1
   replace lT:=block_lt_of_cell t0
   clear hss hrl hG hbl hnm hGm hE hB4 hCG hLw hRA hRC hAm hm hall
   go_wp2_with (first
    | (go_at_call 16;refine hp2.mono ?_;clear hp2;rintro r w6 ⟨y6,lo6,pl6,cl6,ps6,sc6,ln6,pa6,ac6,rfl,hB6,HP6⟩;have x0:(w6.alloc (.cells #[.slice y6.ad u1 y6.cap,.slice pl6 ln6 cl6,.slice ps6 m1 sc6,.int .i64 o1] 29)).cell? ⟨S3,0,none⟩=_:=Lib.cell?_alloc_some _ ((hB6.cell (p:=⟨S3,0,none⟩) lT).trans t0);have x1:(w6.alloc (.cells #[.slice y6.ad u1 y6.cap,.slice pl6 ln6 cl6,.slice ps6 m1 sc6,.int .i64 o1] 29)).cell? ⟨S3,1,none⟩=_:=Lib.cell?_alloc_some _ ((hB6.cell (p:=⟨S3,1,none⟩) lT).trans t1);have x2:(w6.alloc (.cells #[.slice y6.ad u1 y6.cap,.slice pl6 ln6 cl6,.slice ps6 m1 sc6,.int .i64 o1] 29)).cell? ⟨S3,2,none⟩=_:=Lib.cell?_alloc_some _ ((hB6.cell (p:=⟨S3,2,none⟩) lT).trans t2);have x3:(w6.alloc (.cells #[.slice y6.ad u1 y6.cap,.slice pl6 ln6 cl6,.slice ps6 m1 sc6,.int .i64 o1] 29)).cell? ⟨S3,3,none⟩=_:=Lib.cell?_alloc_some _ ((hB6.cell (p:=⟨S3,3,none⟩) lT).trans t3);have H6:Aside (Below wr.heap.size wr w6):=hB6;have H7:Aside (Below wr.heap.size wr (w6.alloc (.cells #[.slice y6.ad u1 y6.cap,.slice pl6 ln6 cl6,.slice ps6 m1 sc6,.int .i64 o1] 29))):=Below.onto hB6 ((Grown.refl w6).alloc _).below;clear hB6 t0 t1 t2 t3 d0 d1)
    | (go_at_call 18;have HB8:Aside (Below w6.heap.size w6 (w6.alloc (.cells #[.slice y6.ad u1 y6.cap,.slice pl6 ln6 cl6,.slice ps6 m1 sc6,.int .i64 o1] 29))):=((Grown.refl w6).alloc _).below;have hsh:=Kh y3.es (lo3.map (·.es)) s1.seen o1 y3.ad y6.ad y3.cap y6.cap lo3 lo6 pl3 pl6 cl3 cl6 ps3 ps6 sc3 sc6 u1 ln3 ln6 m1 HX.out.2.2.2.2.2.1.symm H4.out.2.1 HP6.out.1 HX.out.2.2.2.2.2.2.symm _ (((H4.out.2.2.2.2.1.kept HX.out.1).kept H7.out).up.lies) (by rw [H4.out.2.2.1,← HP6.out.2.1];exact (HP6.out.2.2.2.1.kept HB8.out).up.lies) (((H4.out.2.2.2.2.1.kept HX.out.1).kept H7.out).up.small) (((H4.out.2.2.2.2.1.kept HX.out.1).kept H7.out).lies) ((HP6.out.2.2.2.1.kept HB8.out).lies) (fun x hx=>(((H4.out.2.2.2.2.1.kept HX.out.1).kept H7.out).each x hx).1) (fun x hx=>((HP6.out.2.2.2.1.kept HB8.out).each x hx).1) rfl (HP6.out.2.2.1.trans H4.out.2.2.2.1.symm) (by rw [H4.out.2.2.2.1];exact HF.out.lw) ((H4.out.2.2.2.2.2.1.kept HX.out.1).kept H7.out) (HP6.out.2.2.2.2.1.kept HB8.out) (by have:=(aK s1.all).len;have:s1.seen.length≤80:=this;omega);refine hsh.mono ?_;clear hsh;rintro r w8 ⟨rfl,hB8⟩;have H8:Aside (Below wr.heap.size wr w8∧pU w8 pa6 bl∧pU w8 pw bl):=⟨Below.onto H7.out hB8,(HP6.out.2.2.2.2.2.kept HB8.out).kept hB8,(HX.out.2.2.1.kept H7.out).kept hB8⟩;clear hB8 HP6 HB8 x0 x1 x2 x3))
   clear hgg
   go_loopg [77] m (fun gg i wq=>∃ j:Nat,j≤m∧m-j≤gg∧i=.int .i64 j∧Aside (Below w8.heap.size w8 wq))
   case atStart=>exact ⟨0,Nat.zero_le _,by omega,rfl,Below.refl _ _⟩
   case round =>
    obtain ⟨j,hj,hgj,rfl,HJ⟩:=hrel
    by_cases hltj:j<m
    ·have hltjz:(j:Int)<(m:Int):=by omega
     obtain ⟨b,b',er,nn,tx,q,q',c,c',mm,e1,e2,g0,g1,g2,g3,h0,h1,h2,h3,HS⟩:=Kv (H8.out.2.1.kept HJ.out) (H8.out.2.2.kept HJ.out) (k:=j) (by rw [HX.out.2.2.2.2.1];exact hltj) HX.out.2.2.2.1
     subst e1 e2
     have lb:=block_lt_of_cell g0
     have lb':=block_lt_of_cell h0
     rename_i wq _ _ _
     go_wp2
     go_region_held3 (fun w'=>(w'.cell? ⟨b,j*4,none⟩=some (.int .i64 er)∧w'.cell? ⟨b,j*4+1,none⟩=some (.int .i64 nn)∧w'.cell? ⟨b,j*4+2,none⟩=some (.string tx)∧w'.cell? ⟨b,j*4+3,none⟩=some (.slice q mm c))∧(w'.cell? ⟨b',j*4,none⟩=some (.int .i64 er)∧w'.cell? ⟨b',j*4+1,none⟩=some (.int .i64 nn)∧w'.cell? ⟨b',j*4+2,none⟩=some (.string tx)∧w'.cell? ⟨b',j*4+3,none⟩=some (.slice q' mm c'))) (go_keep) (first
      | (go_at_call 19;refine (HS.out _ (Below.refl _ _).drew).mono ?_;rintro r w9 ⟨rfl,hB9⟩;have HB9:=((Below.refl _ _).drew).trans hB9;have z0:=(HB9.cell (p:=⟨b,j*4,none⟩) lb).trans g0;have z1:=(HB9.cell (p:=⟨b,j*4+1,none⟩) lb).trans g1;have z2:=(HB9.cell (p:=⟨b,j*4+2,none⟩) lb).trans g2;have z3:=(HB9.cell (p:=⟨b,j*4+3,none⟩) lb).trans g3;have z4:=(HB9.cell (p:=⟨b',j*4,none⟩) lb').trans h0;have z5:=(HB9.cell (p:=⟨b',j*4+1,none⟩) lb').trans h1;have z6:=(HB9.cell (p:=⟨b',j*4+2,none⟩) lb').trans h2;have z7:=(HB9.cell (p:=⟨b',j*4+3,none⟩) lb').trans h3;have HI9:Aside (Below w8.heap.size w8 w9):=Below.onto HJ.out HB9;clear hB9 HB9))
     all_goals
      go_wp2
      go_roundg (m-(j+1))
      case measure=>omega
      case rel=>exact ⟨j+1,by omega,by omega,by go_num,HI9.out⟩
    ·have hltjz:¬ (j:Int)<(m:Int):=by omega
     obtain rfl:j=m:=by omega
     go_wp2
     go_ret
     exact ⟨rfl,Below.onto (Below.onto (Below.onto H4.out.1 HX.out.1) H8.out.1) HJ.out⟩
theorem K8 (y:Lay) (lo:List Lay) (pl:Option Addr) (cl:Nat) (pc:Option Addr) (cc:Nat) (l:List Cl) (W:World) (hU:UnOK W y lo pl cl) (hg:Gl W.heap.size W) (hC:fC W pc l) (hs:∀ c∈l,c.Small) :
  sH 7 #[.agg #[.slice y.ad y.es.length y.cap,.slice pl lo.length cl],.slice pc l.length cc] W:=by
 by_cases h0:(ay (y.es::lo.map (·.es))).1=0
 ·by_cases hn:l.length≤80
  ·exact LJ y lo pl cl pc cc _ _ _ _ _ _ l _ _ _ W hg (KF y lo pl cl pc cc l W hU hg h0 hn hC hs)
  ·exact KU 5 y.ad pl y.es.length lo.length y.cap cl pc l.length cc W hg (by decide) (fun Y hY=>Kg y lo pl cl pc l.length cc Y (hU.kept hY) (hg.up hY) h0 (by omega))
 ·exact KU _ y.ad pl y.es.length lo.length y.cap cl pc l.length cc W hg h0 (fun Y hY=>Kr y lo pl cl pc l.length cc Y (hU.kept hY) (hg.up hY) h0)
end Go.Proofs.YthfeoiffoeagkaaGreatDoor
