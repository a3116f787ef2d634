import Derived.Test.YtjnkfelecopbjaaGreatDoorYA0
import Derived.Deep.RegionHeld3
import Derived.Laws.AppendOwnNone
open Go.Proofs.Tryz
open Go.Value renaming int->aa,slice->ah,string->ai,pointer->aj,bool->aq,agg->ar,tuple->aL
open Go.IntKind renaming i64->ag
open Go.RowKit renaming Below->au
open Go renaming World->aw,Aside->ax,Calls->ay,Value->az,Addr->aJ
open _root_ renaming ByteArray->aA,List->aB,Option->aC,UInt8->aD,Nat->aE,Int->aF,absurd->aG
open Bool renaming false->aH,true->aI
open Go.Ending renaming returned->aK
open Go.Obj renaming cells->aM
open Option renaming none->aN,some->aO
open Go.Proofs.Tryz renaming prog->aP
set_option linter.all false
set_option maxHeartbeats 4000000
namespace Go.Proofs.YtjnkfelecopbjaaGreatDoor
open Go.RowKit PM
variable{B aS cap g i j k n:aE}{L d:aB (aB aD)}{W W2 w w':aw}{a b v:az}{bs:aB aA}{dk l t:aB bP}{e y:bP}{o:Obj}{p q:aB aD}{pr:bP->Bool}{r:aC (aB (aB aD))}
namespace PM
def skip(p:aB aD):Bool:=p.isEmpty || p == [46]
def bad(p:aB aD):Bool:=!(p == [46,46]) && !named p
def gD:aB (aB aD)->aC (aB (aB aD))
 | []=>aO []
 | p::r=>if skip p then gD r else if bad p then aN else(gD r).map (p::·)
def en(l:aB aD):aB (aB aD) × aF:=
 if 80<l.length then([],4)else if l.isEmpty then([],6)else match gD (parts l)with
  | none=>([],7)
  | some x=>(x,0)
theorem Bc(hp:L[k]?=aO p)(h:r=(gD (L.drop k)).map (d++·))(hs:skip p=aI):r=(gD (L.drop (k+1))).map (d++·):=by obtain⟨hk,rfl⟩:=aQ.1 hp;rw[h,cP hk,gD,aY hs]
theorem Dt(hp:L[k]?=aO p)(h:r=(gD (L.drop k)).map (d++·))(hs:skip p=aH)(hb:bad p=aI):r=aN:=by obtain⟨hk,rfl⟩:=aQ.1 hp;rw[h,cP hk,gD,aW (by simp[hs]),aY hb];rfl
theorem Bb(hp:L[k]?=aO p)(h:r=(gD (L.drop k)).map (d++·))(hs:skip p=aH)(hb:bad p=aH):r=(gD (L.drop (k+1))).map (d++[p]++·):=by obtain⟨hk,rfl⟩:=aQ.1 hp;rw[h,cP hk,gD,aW (by simp[hs]),aW (by simp[hb])];cases gD (L.drop (k+1))<;>simp
end PM
def jE(w:aw)(aS:aE)(v:az)(bs:aB aA):Prop:=w.ownsRow aS 9 1 v bs.length (bs.map Value.string)
theorem jE.nil(w:aw)(aS:aE):jE w aS (ah aN 0 0) []:=kK _ _ _ _
theorem jE.mono{base':aE}(h:jE w aS v bs)(hb:base'<=aS):jE w base' v bs:=by refine⟨h.1,h.2.imp id ?_⟩;rintro⟨g,cap,eI,e,hg,r⟩;exact⟨g,cap,eI,e,bc hb hg,r⟩
theorem jE.below(h:jE w aS v bs)(hb:au w w w'):jE w' aS v bs:=by
 refine⟨h.1,h.2.imp id ?_⟩;rintro⟨g,cap,eI,e,hg,hh,r⟩;have gm:g<w.heap.size:=by
  rcases gR g w with h'|h'
  ·exact h'
  ·rw[il h']at hh;cases hh
 exact⟨g,cap,eI,e,hg,by rw[hb.block g gm];exact hh,r⟩
theorem E7:∃ i0,Tryz.prog.info? 9=aO i0/\i0.zero=aO (ai ByteArray.empty)/\i0.size=1/\i0.bytes=16:=by
 have h:(Tryz.prog.info? 9).map (fun i=>(i.zero,i.size,i.bytes))=aO (aO (ai ByteArray.empty),1,16):=by kernel_rfl
 cases hi:Tryz.prog.info? 9 with
 | none=>rw[hi]at h;cases h
 | some i0 =>rw[hi]at h;simp only[dF,dt,jX]at h;exact⟨i0,rfl,h.1,h.2.1,h.2.2⟩
theorem beq_lit(p:aA)(l:aB aD)(b:Bool)(h:(p.data.toList == l)=b):(p.toList == l)=b:=by rw[bq];exact h
theorem Rn(p:aA)(l:aB aD)(h:(p.data.toList == l)=aI):p.toList=l:=by rw[bq];simpa using h
theorem Gs(p:aA)(l:aB aD)(h:(p.data.toList == l)=aH):¬ p.toList=l:=by rw[bq];simpa using h
theorem Ct(h:skip p=aH):¬ p=[]/\(p == [46])=aH:=by simp only[skip,mj]at h;refine⟨?_,h.2⟩;rintro rfl;simp at h
theorem JL(h:skip p=aI)(h0:¬ p=[]):(p == [46])=aI:=by
 simp only[skip,gZ]at h;rcases h with h|h
 ·exact aG (N3.1 h) h0
 ·exact h
theorem wD(h:bad p=aI):(p == [46,46])=aH/\named p=aH:=by simpa only[bad,fh,Bool.not_eq_true']using h
theorem Ky(h:bad p=aH):(p == [46,46])=aI\/(p == [46,46])=aH/\named p=aI:=by
 cases h1:(p == [46,46])with
 | true=>exact .inl rfl
 | false=>rw[bad,h1]at h;exact .inr ⟨rfl,by simpa using h⟩
def eW(w:aw)(l:aB (aB aD))(n:aF)(e:Ending)(w':aw):Prop:=
 (∃ v bs,e=aK (aL #[v,aa ag n])/\jE w' w v bs/\bs.map (·.data.toList)=l)/\au w w w'
theorem eW.mk{l l':aB (aB aD)}{n n':aF}{P:aB (aB aD) × aF}(hP:P=(l',n'))(hn:P.2=n)(hl:P.1=l)(h:jE w' w v bs)(he:bs.map (·.data.toList)=l')(hB:au w w w'):eW w l n (aK (aL #[v,aa ag n'])) w':=by subst hP;subst hn;subst hl;exact⟨⟨v,bs,rfl,h,he⟩,hB⟩
theorem Fj(s:aA)(m:aF)(w:aw)(hs:s.size<=maxLen)(hm:w.cell? ⟨0,0,aN⟩=aO (aa ag m)):ay aP 117 #[ai s] w (eW w (en s).1 (en s).2):=by
 unfold maxLen at hs;by_cases h:s.size<=80
 ·have g:¬ (80:aF)<(s.size:aF):=by omega
  by_cases h0:s.data.toList=[]
  ·have h1:=lX h0
   have HN:Hid (en s.data.toList=([],6)):=by show _=_;rw[h0];rfl
   clear h0;go_enter func117,ntmps117;go_wp2;go_ret2;exact eW.mk HN.out rfl rfl (jE.nil _ _) rfl (aR _ _)
  ·have h1:=jA h0
   have HL:Hid (∀ r,gD (parts s)=r->en s.data.toList=match r with|none=>([],7)|some x=>(x,0)):=by intro r hr;rw[en,aW (by rw[ix];omega),vO h0,hr];rfl
   clear h0;obtain⟨i0,hi,ou,mL,mh⟩:=E7;have cS:=Tryz.strings_Split s ⟨#[47]⟩ m w (by omega) hm (by decide);have hP:=Bv s;have hn:=Fv s;have afx:Lib.countB s ⟨#[47]⟩<=s.size:=Lib.countB_le ⟨#[47]⟩ (by decide) s.size s (aV _);generalize Lib.splitB ⟨#[47]⟩ 0 (Lib.countB s ⟨#[47]⟩) s=Ps at *;generalize Lib.countB s ⟨#[47]⟩=cn at *;have HP:Hid (Ps.map (·.data.toList)=parts s):=hP;clear hP;go_enter func117,ntmps117;go_wp2_with (go_at_call 160;refine cS.mono ?_;rintro e w' ⟨rfl,hw⟩;rw[hw]);clear cS;go_loopw [4,15] (fun v i wr=>∃ (k:aE) (bs:aB aA),k<=cn+1/\i=aa ag k/\bs.length<=k/\jE wr (w.heap.size+1) v bs/\au (w.heap.size+1) (w.alloc (aM (Ps.map Value.string).toArray 9)) wr /\ Hid (gD (parts s)=(gD ((parts s).drop k)).map (bs.map (·.data.toList)++·)))
    (fun _ i _=>cn+1-(intOf i).toNat)
   case atStart=>exact⟨0,[],bF _,rfl,aV _,jE.nil _ _,aR _ _,by show _=_;simp⟩
   case round=>
    obtain⟨k,bs,hk,rfl,xV,hS,hB,HI⟩:=hrel;by_cases gm:k<cn+1
    ·have vL:(k:aF)<(cn:aF)+1:=by omega
     obtain⟨p,hp⟩:∃ p,Ps[k]?=aO p:=⟨_,aU (by omega)⟩
     have hcell:wr.cell? ⟨w,k,aN⟩=aO (ai p):=(hB.cell (p:=⟨w,k,aN⟩) (by simp)).trans (Lib.pieces_cell_at w Ps 9 k p hp);have rf:=(wT s HP.out hp).2;have Ak:p.size<=maxLen:=by unfold maxLen;omega
     have Ki:Hid ((parts s)[k]?=aO p.data.toList):=by show _=_;rw[<- HP.out,cD,hp];rfl
     clear hp;cases Er:skip p with
     | true=>
      have HN:Hid (gD (parts s)=(gD ((parts s).drop (k+1))).map (bs.map (·.data.toList)++·)):=Bc Ki.out HI.out Er;clear HI;by_cases h0:p.data.toList=[]
      ·have td:=lX h0
       clear h0 Er;go_wp2;exact⟨⟨k+1,bs,by omega,by go_num,by omega,hS,hB,HN⟩,by simp[intOf];omega⟩
      ·have td:=jA h0
       have D0:(p.toList == [46])=aI:=beq_lit p [46] aI (JL Er h0);clear h0 Er;go_wp2;exact⟨⟨k+1,bs,by omega,by go_num,by omega,hS,hB,HN⟩,by simp[intOf];omega⟩
     | false=>
      have td:=jA (Ct Er).1;have D0:(p.toList == [46])=aH:=beq_lit p [46] aH (Ct Er).2;cases BP:bad p with
      | true =>have HN:Hid (gD (parts s)=aN):=Dt Ki.out HI.out Er BP;have Wz:Hid (en s.data.toList=([],7)):=HL.out _ HN.out;have Hg:=beq_lit p [46,46] aH (wD BP).1;have Sr:=Gs p [46,46] (wD BP).1;have hp3:named p.data.toList=aH:=(wD BP).2;clear HI Er BP;go_wp2_with (go_at_call 161;refine(Ay _ _ (by assumption)).mono ?_;rintro e w' ⟨rfl,hw'⟩;subst w');go_ret2;exact eW.mk Wz.out rfl rfl (jE.nil _ _) rfl (((aR _ _).alloc (aV _) _).trans (hB.mono (by omega)))
      | false => 
       have HN:Hid (gD (parts s)=(gD ((parts s).drop (k+1))).map ((bs++[p]).map (·.data.toList)++·)):=by show _=_;rw[fk];exact Bb Ki.out HI.out Er BP
       have Ha:wr.ownsRow (w.heap.size+1) 9 1 u4 bs.length (bs.map Value.string):=hS;clear HI Er hS;rcases Ky BP with h2|⟨h2,h3⟩
       ·have Hg:=beq_lit p [46,46] aI h2
        have Sr:=Rn p [46,46] h2;clear h2 BP;go_wp2_with (at_builtin;refine dP _ rfl _ _ 36 rfl (w.heap.size+1) 9 i0 (ai ByteArray.empty) 1 16 underlying36 hi ou mL mh rfl (by decide) _ _ _ rfl (Ha.alloc _) ⟨wr,0,aN⟩ 1 1 [ai p] rfl rfl ?c1 ?c2 ?c3 ?c4 ?c5 ?_)
        case c1=>exact og _ _ _
        case c2=>intro u hu;simp at hu;subst hu;rfl
        case c3=>unfold maxLen;omega
        case c4=>omega
        case c5=>have:=hB.size;simp at this ⊢;omega
        ·intro v' w1 gG gN _
         go_wp2;have fg:au (w.heap.size+1) (w.alloc (aM (Ps.map Value.string).toArray 9)) w1:=
          (hB.alloc (by have:=hB.size;simpa using this) _).grown gN (by have:=hB.size;simp at this ⊢;omega) (fun j hj=>(Ha.lt j hj).1)
         exact⟨⟨k+1,bs++[p],by omega,by go_num,by simp;omega,by simpa[jE]using gG,fg,HN⟩,by simp[intOf];omega⟩
       ·have Hg:=beq_lit p [46,46] aH h2
        have Sr:=Gs p [46,46] h2;clear h2 BP;go_wp2_with (first
         | (go_at_call 161;refine(Ay _ _ (by assumption)).mono ?_;rintro e w' ⟨rfl,hw'⟩;subst w')
         | (at_builtin;refine dP _ rfl _ _ 36 rfl (w.heap.size+1) 9 i0 (ai ByteArray.empty) 1 16 underlying36 hi ou mL mh rfl (by decide) _ _ _ rfl (Ha.alloc _) ⟨wr,0,aN⟩ 1 1 [ai p] rfl rfl ?c1 ?c2 ?c3 ?c4 ?c5 ?_))
        case c1=>exact og _ _ _
        case c2=>intro u hu;simp at hu;subst hu;rfl
        case c3=>unfold maxLen;omega
        case c4=>omega
        case c5=>have:=hB.size;simp at this ⊢;omega
        ·intro v' w1 gG gN _
         go_wp2;have fg:au (w.heap.size+1) (w.alloc (aM (Ps.map Value.string).toArray 9)) w1:=
          (hB.alloc (by have:=hB.size;simpa using this) _).grown gN (by have:=hB.size;simp at this ⊢;omega) (fun j hj=>(Ha.lt j hj).1)
         exact⟨⟨k+1,bs++[p],by omega,by go_num,by simp;omega,by simpa[jE]using gG,fg,HN⟩,by simp[intOf];omega⟩
    ·have vL:¬ (k:aF)<(cn:aF)+1:=by omega
     have HN:Hid (en s.data.toList=(bs.map (·.data.toList),0)):=by
      have hh:=HL.out (aO (bs.map fun x=>x.data.toList)) (by
       rw[HI.out,cy (by rw[<- HP.out,bQ];omega)];simp[gD])
      exact hh
     clear HI HL;go_wp2;go_ret2;exact eW.mk HN.out rfl rfl (hS.mono (by omega)) rfl (((aR _ _).alloc (aV _) _).trans (hB.mono (by omega)))
 ·have g:(80:aF)<(s.size:aF):=by omega
  have HN:Hid (en s.data.toList=([],4)):=by show _=_;rw[en,aY (by rw[ix];omega)]
  go_enter func117,ntmps117;go_wp2;go_ret2;exact eW.mk HN.out rfl rfl (jE.nil _ _) rfl (aR _ _)
theorem below_draws(h:∃ n,w'=w.drewN n):au w w w':=by obtain⟨n,rfl⟩:=h;exact cG (aR _ _) n
theorem held{m:aF}(hB:au w w w')(hm:w.cell? ⟨0,0,aN⟩=aO (aa ag m)):w'.cell? ⟨0,0,aN⟩=aO (aa ag m):=by rw[hB.cell (p:=⟨0,0,aN⟩) (Vd hm)];exact hm
theorem Below.bK{w'':aw}(h:au w w w')(k:au w' w' w''):au w w w'':=h.trans (k.mono h.size)
open Go.Sort
theorem Lp(t:aB bP)(q:aB aD)(i:aE):(nJ t q i=aI/\∃ y,t[i]?=aO y/\y.p=q)\/nJ t q i=aH:=by
 cases h:nJ t q i with
 | false=>exact .inr rfl
 | true =>obtain⟨h1,h2⟩:=tq.1 h;exact .inl ⟨rfl,_,aU h1,h2⟩
theorem iv{c d:az}{t:TypeId}(hB:w<B)(h:au B (w.alloc (aM #[a,b,c,d] t)) W):(W.cell? w=aO a/\W.cell? ⟨w,1,aN⟩=aO b/\W.cell? ⟨w,2,aN⟩=aO c/\W.cell? ⟨w,3,aN⟩=aO d) /\
  (W.frozen? w=aH/\W.frozen? ⟨w,1,aN⟩=aH/\W.frozen? ⟨w,2,aN⟩=aH/\W.frozen? ⟨w,3,aN⟩=aH):=by
 have hc:=fun i=>h.cell (p:=⟨w,i,aN⟩) hB
 have hf:=fun i=>h.frozen (p:=⟨w,i,aN⟩) hB
 refine⟨⟨(hc 0).trans ?_,(hc 1).trans ?_,(hc 2).trans ?_,(hc 3).trans ?_⟩,⟨(hf 0).trans ?_,(hf 1).trans ?_,(hf 2).trans ?_,(hf 3).trans ?_⟩⟩<;>simp
theorem nw{t:TypeId}(hB:w<B)(h:au B (w.alloc (aM #[a,b] t)) W):(W.cell? w=aO a/\W.cell? ⟨w,1,aN⟩=aO b)/\(W.frozen? w=aH/\W.frozen? ⟨w,1,aN⟩=aH):=by
 have hc:=fun i=>h.cell (p:=⟨w,i,aN⟩) hB
 have hf:=fun i=>h.frozen (p:=⟨w,i,aN⟩) hB
 refine⟨⟨(hc 0).trans ?_,(hc 1).trans ?_⟩,⟨(hf 0).trans ?_,(hf 1).trans ?_⟩⟩<;>simp
theorem A3(p:aA)(k:aF)(t:aA)(o:Bool)(w:aw):ay aP 167 #[ar #[ai p,aa ag k,ai t,aq o]] w fun r w'=>r=aK (aq (k == 2))/\Grown w w':=by go_enter func167,ntmps167;go_wp2;go_ret;exact⟨rfl,(Grown.refl w).alloc _⟩
theorem Ar(e:bP)(w:aw):ay aP 167 #[ar #[ai e.bm, aa ag e.bE, ai e.text, aq e.opq]] w fun r w'=>r=aK (aq (e.bE == 2))/\Grown w w':=by go_enter func167,ntmps167;go_wp2;go_ret;exact⟨rfl,(Grown.refl w).alloc _⟩
def cR:bP:=⟨⟨#[]⟩,0,⟨#[]⟩,aH⟩
def UM(t:aB bP)(q:aB aD)(w:aw)(r:Ending)(w':aw):Prop:=
 ∃ (x:bP) (b:Bool),r=aK (aL #[ar #[ai x.bm, aa ag x.bE, ai x.text, aq x.opq],aq b])/\(b7 t->bW t q=if b then aO x else aN)/\(b=aH->x=cR)/\(b=aI->x=tT\/x∈t)/\au w w w'
theorem KO(hq:q≠[])(hp:fq t q i)(hy:t[i]?=aO y)(hyq:y.p=q):b7 t->bW t q=if aI then aO y else aN:=fun hs=>by have:=kW hs (bw hy) (by rw[hyq];exact hq);rw[hyq]at this;simpa using this
theorem AZ(hq:q≠[])(hp:fq t q i)(hb:nJ t q i=aH):b7 t->bW t q=if aH then aO y else aN:=fun hs=>by
 have:bW t q=aN:=eV hq fun e he hep=>by have:=(hp.there hs).2 ⟨e,he,hep⟩;rw[hb]at this;cases this
 simpa using this
theorem AY{b off:aE}(hn:n=t.length)(hc:∀ j e,t[j]?=aO e->∀ i v,(fy e)[i]?=aO v->w.cell? ⟨b,off+j*4+i,aN⟩=aO v)(hb:b<w)(hW:au w w W)(q:aB aD)(i:aE):(nJ t q i=aI/\∃ y,ax (t[i]?=aO y/\y.p=q)/\i<n/\W.cell? ⟨b,off+i*4,aN⟩=aO (ai y.bm)/\W.cell? ⟨b,off+i*4+1,aN⟩=aO (aa ag y.bE)/\W.cell? ⟨b,off+i*4+2,aN⟩=aO (ai y.text)/\W.cell? ⟨b,off+i*4+3,aN⟩=aO (aq y.opq))\/nJ t q i=aH:=by
 rcases Lp t q i with⟨h,y,hy,hyp⟩|h
 ·exact .inl ⟨h,y,⟨hy,hyp⟩,by rw[hn];exact(aQ.1 hy).1,bI.cells hc hb hW hy⟩
 ·exact .inr h
theorem uo(hB:au (w.heap.size+1) (w.alloc o) W)(a b c d:az):au w w ((((W.setCell w a).setCell ⟨w,1,aN⟩ b).setCell ⟨w,2,aN⟩ c).setCell ⟨w,3,aN⟩ d):=
 (((((aR w w).alloc (aV _) _).trans (hB.mono (by simp))).setCell (aV _) _).setCell (aV _) _ |>.setCell (aV _) _ |>.setCell (aV _) _)
theorem y9(t:aB bP)(q:aA)(p:aC aJ)(cap:aE)(w:aw)(hL:bI w p t)(hF:anM t)(hn:t.length<4611686018427387904)(hq:q.size<=maxLen):ay aP 76 #[ah p t.length cap,ai q] w (UM t q w):=by
 by_cases h0:q.data.toList=[]
 ·have h1:=lX h0
  have HG:ax (bW t q.data.toList=aO tT):=by show _=_;rw[h0,iE]
  clear h0;go_enter func76,ntmps76;go_wp2;refine ba (v:=aL #[ar #[ai tT.bm, aa ag tT.bE, ai tT.text, aq tT.opq],aq aI]) (by simp[results,results76,go_sem,tT];rfl) rfl ?_;exact⟨tT,aI,rfl,fun _=>HG.out,(fun h=>by cases h),fun _=>.inl rfl,(aR _ _).alloc (aV _) _⟩
 ·have h1:=jA h0
  have H0:ax (q.data.toList≠[]):=h0;clear h0;have hs:=fun W (hg:Grown w W)=>CQ t q p cap W (hL.grown hg) hF hn hq
  rcases hL with h|⟨b,off,rfl,hb,hc⟩
  ·have HT:ax (t=[]):=h
   obtain⟨n,eK⟩:=ee t.length
   rw[<- eK]at hs ⊢;clear h;go_enter func76,ntmps76;clear eK;go_wp2_with (go_at_call 119;refine(hs _ ((Grown.refl _).alloc _)).mono ?_;rintro e w' ⟨i,rfl,Gf,hg⟩;have Sb:nJ t q i=aH:=(by rw[HT.out];rfl);have HB:ax (Grown _ w'):=hg;obtain⟨⟨c0,c1,c2,c3⟩,⟨f0,f1,f2,f3⟩⟩:=iv (by simp) hg.below;have HP:ax (fq _ _ _):=Gf;clear Gf hg);refine ba (v:=aL #[ar #[ai cR.bm, aa ag cR.bE, ai cR.text, aq cR.opq],aq aH]) (by simp[results,results76,go_sem,cR,c0,c1,c2,c3]) rfl ?_;exact⟨cR,aH,rfl,AZ H0.out HP.out Sb,fun _=>rfl,(fun h=>by cases h),uo (HB.below.mono (by simp)) _ _ _ _⟩
  ·have HC:ax (∀ j e,t[j]?=aO e->∀ i v,(fy e)[i]?=aO v->w.cell? ⟨b,off+j*4+i,aN⟩=aO v):=hc
   obtain⟨n,eK⟩:=ee t.length
   have HN:ax (n=t.length):=eK;rw[<- eK]at hs hn ⊢;clear hc eK;have hne:b≠w.heap.size:=by omega
   go_enter func76,ntmps76;go_wp2_with (go_at_call 119;refine(hs _ ((Grown.refl _).alloc _)).mono ?_;rintro e w' ⟨i,rfl,Gf,hg⟩;have HB:ax (Grown _ w'):=hg;obtain⟨⟨c0,c1,c2,c3⟩,⟨f0,f1,f2,f3⟩⟩:=iv (by simp) hg.below;have HP:ax (fq _ _ _):=Gf;clear Gf hg;rcases AY HN.out HC.out hb (((Grown.refl w).alloc _).trans HB.out).below q i with⟨Sb,y,HY,mq,d0,d1,d2,d3⟩|Sb)
   ·refine ba (v:=aL #[ar #[ai y.bm, aa ag y.bE, ai y.text, aq y.opq],aq aI]) (by simp[results,results76,go_sem,c0,c1,c2,c3]) rfl ?_
    exact⟨y,aI,rfl,KO H0.out HP.out HY.1 HY.2,(fun h=>by cases h),fun _=>.inr (bw HY.1),uo (HB.below.mono (by simp)) _ _ _ _⟩
   ·refine ba (v:=aL #[ar #[ai cR.bm, aa ag cR.bE, ai cR.text, aq cR.opq],aq aH]) (by simp[results,results76,go_sem,cR,c0,c1,c2,c3]) rfl ?_
    exact⟨cR,aH,rfl,AZ H0.out HP.out Sb,fun _=>rfl,(fun h=>by cases h),uo (HB.below.mono (by simp)) _ _ _ _⟩
def Cc(f:aF->Prop)(w:aw)(r:Ending)(w':aw):Prop:=∃ n:aF,r=aK (aa ag n)/\f n/\au w w w'
theorem Fi(t:aB bP)(q:aA)(p:aC aJ)(cap:aE)(w:aw)(hL:bI w p t)(hF:anM t)(hn:t.length<4611686018427387904)(hq:q.size<=maxLen):ay aP 135 #[ah p t.length cap,ai q] w (Cc (fun n=>b7 t->n=eL t q) w):=by
 have hs:=y9 t q p cap w hL hF hn hq;go_enter func135,ntmps135;go_wp2_with (first
  | (go_at_call 76;refine hs.mono ?_;clear hs;rintro e w1 ⟨x,b,rfl,hg,hz,hx,hB⟩;have HG:ax (b7 t->bW t q.data.toList=if b then aO x else aN):=hg;clear hg hz hx;cases b)
  | (go_at_call 167;refine(Ar x _).mono ?_;rintro e w2 ⟨rfl,hG⟩))
 ·go_ret
  exact⟨6,rfl,(fun h=>by rw[eL,HG.out h];rfl),hB.alloc hB.size _⟩
 ·have hk:(x.bE == 2)=aH:=by simpa using(by assumption:(!(x.bE == 2))=aI)
  go_ret;exact⟨10,rfl,(fun h=>by rw[eL,HG.out h];simp at hk ⊢;simp[hk]),hB.alloc hB.size _ |>.trans (hG.below.mono (by have:=hB.size;simp;omega))⟩
 ·have hk:(x.bE == 2)=aI:=by simpa using(by assumption:(!(x.bE == 2))=aH)
  go_ret;exact⟨0,rfl,(fun h=>by rw[eL,HG.out h];simp at hk ⊢;simp[hk]),hB.alloc hB.size _ |>.trans (hG.below.mono (by have:=hB.size;simp;omega))⟩
theorem uj(t:aB bP)(q:aA)(p:aC aJ)(cap:aE)(w:aw)(hL:bI w p t)(hF:anM t)(hn:t.length<4611686018427387904)(hq:q.size<=maxLen)(YY:q.size<4611686018427387904):ay aP 166 #[ah p t.length cap,ai q] w (Cc (fun n=>b7 t->n=eL t (bU q)) w):=by
 have hcut:=Cf q w YY;have hs:=fun W (d:aA) (hd:d.size<=maxLen) (hg:au w.heap.size w W)=>Fi t d p cap W (hL.bB hg) hF hn hd
 go_enter func166,ntmps166;go_wp2_with (first
  | (go_at_call 136;refine hcut.mono ?_;clear hcut;rintro e w1 ⟨⟨d,nm,rfl,hd,Co⟩,m,rfl⟩)
  | (go_at_call 135;refine(hs _ d ?_ ?_).mono ?_))
 ·have:=nD q.data.toList
  have h1:d.size<=q.size:=by rw[<- ix d,<- ix q,hd];exact this
  exact bc h1 hq
 ·exact cG (aR _ _) _
 ·rintro e w' ⟨r,rfl,h,hB⟩
  go_wp2;go_ret;exact⟨r,rfl,(fun g=>by rw[h g,hd];rfl),Below.bK (cG (aR _ _) _) hB⟩
def pC(t:aB bP)(q:aB aD):aF:=if ∃ e∈t,e.p=q then 0 else 6
theorem A7(t:aB bP)(q:aA)(p:aC aJ)(cap:aE)(w:aw)(hL:bI w p t)(hF:anM t)(hn:t.length<4611686018427387904)(hq:q.size<=maxLen):ay aP 171 #[ah p t.length cap,ai q] w (Cc (fun n=>b7 t->n=pC t q) w):=by
 have hs:=CQ t q p cap w hL hF hn hq;go_enter func171,ntmps171;go_wp2_with (go_at_call 119;refine hs.mono ?_;clear hs;rintro e w1 ⟨i,rfl,hp,hB⟩;have HP:ax (fq _ _ _):=hp;clear hp;cases Sb:nJ t q i)
 ·go_ret
  exact⟨6,rfl,(fun h=>by rw[pC,aW];intro g;have:=(HP.there h).2 g;rw[Sb]at this;cases this),hB.below⟩
 ·go_ret
  exact⟨0,rfl,(fun h=>by rw[pC,aY];exact(HP.there h).1 Sb),hB.below⟩
def oJ(pr:bP->Bool)(t:aB bP)(w:aw)(r:Ending)(w':aw):Prop:=
 Grown w w'/\((r=aK (aa ag (-1))/\∀ x∈t,pr x=aH)\/∃ (k:aE) (y:bP),t[k]?=aO y/\r=aK (aa ag k)/\pr y=aI/\∀ x∈t.take k,pr x=aH)
theorem rM(hy:t[k]?=aO y)(hp:pr y=aH)(h:∀ x∈t.take k,pr x=aH):∀ x∈t.take (k+1),pr x=aH:=by
 obtain⟨h1,h2⟩:=aQ.1 hy;intro x hx;rw[dC h1]at hx;rcases bZ.1 hx with hx|hx
 ·exact h x hx
 ·simp at hx;rw[hx,h2];exact hp
theorem tj(pr:bP->Bool)(g:aE)(lb:Array az)(eg:∀ args w,(callFunc g args).run aP w=.ok (.enter g args) w)(t:aB bP)(p:aC aJ)(cap:aE)(w:aw)(hL:bI w p t)(hn:t.length<4611686018427387904)(hp:∀ W x,Grown w W->x∈t->ay aP g (#[ar #[ai x.bm, aa ag x.bE, ai x.text, aq x.opq]]++lb) W fun e w'=>e=aK (aq (pr x))/\Grown W w'):ay aP 217 #[ah p t.length cap,.func (.func g) #[] lb] w (oJ pr t w):=by
 have HP:ax _:=hp;have HL:ax (bI w p t):=hL;clear hL hp;obtain⟨n,eK⟩:=ee t.length
 have HN:ax (n=t.length):=eK;rw[<- eK]at hn ⊢;clear eK;go_enter func217,ntmps217;go_wp2;go_loopg [5,8] n (fun gg _ s8 wr=>∃ kk:aE,kk<=n/\n-kk<=gg/\s8=aa ag kk/\ax (Grown w wr)/\ax (∀ x∈t.take kk,pr x=aH))
 case atStart=>exact⟨0,bF _,by omega,rfl,Grown.refl w,by intro x hx;simp at hx⟩
 case round=>
  obtain⟨kk,tH,hg,rfl,BW,A⟩:=hrel;by_cases gm:kk<n
  ·have eN:(kk:aF)<(n:aF):=by omega
   obtain⟨y,hy⟩:∃ y,t[kk]?=aO y:=⟨_,aU (by have:=HN.out;omega)⟩
   have Y:ax (t[kk]?=aO y):=hy;have gW:=HP.out wr y BW.out (bw hy);rcases HL.out with h0|⟨b,off,rfl,hb,hc⟩
   ·rw[h0]at hy;simp at hy
   obtain⟨c0,c1,c2,c3⟩:=bI.cells hc hb BW.below hy;clear hc hy;cases hq:pr y with
   | true =>rw[hq]at gW;go_wp2_with (go_at_fn g;refine gW.mono ?_;rintro e w' ⟨rfl,ot⟩);go_ret;exact⟨BW.trans ot,.inr ⟨kk,y,Y.out,rfl,hq,A.out⟩⟩
   | false=>
    rw[hq]at gW;go_wp2_with (go_at_fn g;refine gW.mono ?_;rintro e w' ⟨rfl,ot⟩);go_roundg (n-(kk+1))
    case measure=>omega
    case rel=>exact⟨kk+1,by omega,by omega,by go_num,BW.trans ot,rM Y.out hq A.out⟩
  ·have eN:¬ (kk:aF)<(n:aF):=by omega
   have:kk=n:=by omega
   subst this;go_wp2;go_ret;refine⟨BW.out,.inl ⟨rfl,fun x hx=>A.out x ?_⟩⟩;rw[cz (by rw[HN.out];exact aV _)];exact hx
theorem yT(pr:bP->Bool)(g:aE)(lb:Array az)(eg:∀ args w,(callFunc g args).run aP w=.ok (.enter g args) w)(t:aB bP)(p:aC aJ)(cap:aE)(w:aw)(hL:bI w p t)(hn:t.length<4611686018427387904)(hp:∀ W x,Grown w W->x∈t->ay aP g (#[ar #[ai x.bm, aa ag x.bE, ai x.text, aq x.opq]]++lb) W fun e w'=>e=aK (aq (pr x))/\Grown W w'):ay aP 197 #[ah p t.length cap,.func (.func g) #[] lb] w fun e w'=>e=aK (aq (t.any pr))/\Grown w w':=by
 have hs:=tj pr g lb eg t p cap w hL hn hp;clear hp;go_enter func197,ntmps197;go_wp2_with (go_at_call 217;refine hs.mono ?_;clear hs;rintro e w' ⟨hG,⟨rfl,ha⟩|⟨k,y,hy,rfl,hpy,ha⟩⟩)
 ·go_ret
  refine⟨df ?_,hG⟩;have:t.any pr=aH:=ks.2 fun x hx=>by simp[ha x hx]
  rw[this]
 ·go_ret
  refine⟨df ?_,hG⟩;have:t.any pr=aI:=dy.2 ⟨y,bw hy,hpy⟩;rw[this]
theorem OM(e:bP)(q:aA)(B:aE)(w:aw)(he:e.bm.size<=maxLen)(hq:q.size<=maxLen)(hB:B<w)(hc:w.cell? B=aO (ai q)):ay aP 215 #[ar #[ai e.bm, aa ag e.bE, ai e.text, aq e.opq],aj (aO B)] w fun r w'=>r=aK (aq (anG e.p q))/\Grown w w':=by
 have hne:B≠w.heap.size:=by omega
 go_enter func215,ntmps215;go_wp2_with (go_at_call 134;refine(rq _ _ _ he hq).mono ?_;rintro r w' ⟨rfl,rfl⟩);go_ret;exact⟨rfl,(Grown.refl w).alloc _⟩
def qc(t:aB bP)(q:aB aD):aF:=if t.any (fun e=>anG e.p q)then 11 else 0
theorem Iu(t:aB bP)(q:aA)(p:aC aJ)(cap:aE)(w:aw)(hL:bI w p t)(hF:anM t)(hn:t.length<4611686018427387904)(hq:q.size<=maxLen):ay aP 172 #[ah p t.length cap,ai q] w fun r w'=>r=aK (aa ag (qc t q))/\au w w w':=by
 have eg:∀ args w,(callFunc 215 args).run aP w=.ok (.enter 215 args) w:=enters_of func215 (by kernel_rfl) rfl;have hs:=yT (fun e=>anG e.p q) 215 #[aj (aO ⟨w.heap.size,0,aN⟩)] eg t p cap (w.alloc (aM #[ai q] 9)) (hL.grown ((Grown.refl w).alloc _)) hn
  (fun W x hG hx=>OM x q w W (hF x hx).1 hq (by have:=hG.size;simp at this;omega) ((hG.cell (p:=w) (by simp)).trans (by simp)))
 clear eg;have HA:ax (qc t q.data.toList=if t.any (fun e=>anG e.p q)then 11 else 0):=rfl;generalize t.any (fun e=>anG e.p q)=bb at hs HA;cases bb
 ·go_enter func172,ntmps172
  go_wp2_with (go_at_call 197;refine hs.mono ?_;clear hs;rintro e w' ⟨rfl,hG⟩);go_ret;exact⟨gu (by rw[HA.out];rfl),((Grown.refl w).alloc _ |>.trans hG).below⟩
 ·go_enter func172,ntmps172
  go_wp2_with (go_at_call 197;refine hs.mono ?_;clear hs;rintro e w' ⟨rfl,hG⟩);go_ret;exact⟨gu (by rw[HA.out];rfl),((Grown.refl w).alloc _ |>.trans hG).below⟩
def kb:aB aF->aF
 | []=>0
 | x::r=>if x=0 then kb r else x
theorem Gw(xs:aB aF)(B cap:aE)(w:aw)(hn:xs.length<=100)(hc:∀ j x,xs[j]?=aO x->w.cell? ⟨B,j,aN⟩=aO (aa ag x)):ay aP 109 #[ah (aO B) xs.length cap] w fun e w'=>e=aK (aa ag (kb xs))/\w'=w:=by
 have HC:ax (∀ j x,xs[j]?=aO x->w.cell? ⟨B,j,aN⟩=aO (aa ag x)):=hc;obtain⟨n,eK⟩:=ee xs.length
 have HN:ax (n=xs.length):=eK;rw[<- eK]at hn ⊢;clear eK hc;go_enter func109,ntmps109;go_wp2;go_loop [8] (fun i=>∃ k:aE,k<=n/\i=aa ag k/\ax (kb (xs.drop k)=kb xs)) (fun i=>n-(intOf i).toNat)
 case atStart=>exact⟨0,bF _,rfl,by show _=_;rfl⟩
 case round=>
  obtain⟨k,hk,rfl,HA⟩:=hrel;by_cases gm:k<n
  ·have eN:(k:aF)<(n:aF):=by omega
   obtain⟨y,hy⟩:∃ y,xs[k]?=aO y:=⟨_,aU (by have:=HN.out;omega)⟩
   have hcell:=HC.out k y hy;have HD:ax (kb (xs.drop k)=if y=0 then kb (xs.drop (k+1))else y):=by obtain⟨h1,h2⟩:=aQ.1 hy;show _=_;rw[cP h1,kb,h2]
   clear hy;by_cases h0:y=0
   ·have HE:ax (kb (xs.drop (k+1))=kb xs):=by show _=_;rw[<- HA.out,HD.out,aY h0]
    clear HD HA;go_wp2;exact⟨⟨k+1,by omega,by go_num,HE⟩,by simp[intOf];omega⟩
   ·have HE:ax (kb xs=y):=by show _=_;rw[<- HA.out,HD.out,aW h0]
    clear HD HA;go_wp2;go_ret;exact⟨gu HE.symm,rfl⟩
  ·have eN:¬ (k:aF)<(n:aF):=by omega
   have HE:ax (kb xs=0):=by show _=_;rw[<- HA.out,cy (by have:=HN.out;omega)];rfl
   clear HA;go_wp2;go_ret;exact⟨gu HE.symm,rfl⟩
theorem oC(h:au (w.heap.size+1) (w.alloc o) W)(g:au W W W2):au (w.heap.size+1) (w.alloc o) W2:=h.trans (g.mono (by have:=h.size;simpa using this))
theorem eX(h:au (w.heap.size+1) (w.alloc o) W):au w w W:=((aR _ _).alloc (aV _) _).trans (h.mono (by omega))
def Kt(e:bP)(anH:Bool):Prop:=
 (dv e anH=1/\(((e.bE == 1)=aH/\(e.bE == 2)=aH/\(e.bE == 3)=aH/\(e.bE == 4)=aH/\(anH=aI\/anH=aH))\/e.bE=4/\anH=aH)) \/
 ((e.bE=1\/e.bE=2\/e.bE=3\/e.bE=4/\anH=aI) /\ ((dv e anH=7/\anI e.p=aH) \/ (dv e anH=4/\anI e.p=aI/\(100:aF)<(e.text.size:aF)) \/ (anI e.p=aI/\¬ (100:aF)<(e.text.size:aF) /\ ((dv e anH=8/\e.text.toList.isEmpty=aH/\(e.bE=2\/e.bE=4)) \/ (dv e anH=8/\e.text.toList.isEmpty=aI/\e.bE=3) \/ ((e.text.toList.isEmpty=aH/\(e.bE=1\/e.bE=3)\/e.text.toList.isEmpty=aI/\(e.bE=1\/e.bE=2\/e.bE=4)) /\ (dv e anH=0/\e.opq=aH\/dv e anH=8/\e.opq=aI/\anH=aH\/dv e anH=8/\e.opq=aI/\anH=aI/\(e.bE=1\/e.bE=3\/e.bE=4)\/dv e anH=0/\e.opq=aI/\anH=aI/\e.bE=2))))))
theorem Gn(b:aA):b.toList.isEmpty=decide (b.size=0):=by rw[bq,dN];rw[<- ix b];cases b.data.toList<;>simp
theorem ways(e:bP)(anH:Bool):Kt e anH:=by
 unfold Kt dv;rw[Gn];by_cases h1:e.bE=1
 ·cases anH<;>cases anI e.p<;>cases e.opq<;>by_cases h2:100<e.text.size<;>by_cases h3:e.text.size=0<;>simp[h1,h2,h3]<;>omega
 by_cases h1':e.bE=2
 ·cases anH<;>cases anI e.p<;>cases e.opq<;>by_cases h2:100<e.text.size<;>by_cases h3:e.text.size=0<;>simp[h1',h2,h3]<;>omega
 by_cases aaZ:e.bE=3
 ·cases anH<;>cases anI e.p<;>cases e.opq<;>by_cases h2:100<e.text.size<;>by_cases h3:e.text.size=0<;>simp[aaZ,h2,h3]<;>omega
 by_cases WQ:e.bE=4
 ·cases anH<;>cases anI e.p<;>cases e.opq<;>by_cases h2:100<e.text.size<;>by_cases h3:e.text.size=0<;>simp[WQ,h2,h3]<;>omega
 ·cases anH<;>simp[h1,h1',aaZ,WQ]
theorem S4{b:aA}(h:b.toList.isEmpty=aI):b.toList=[]:=by simpa using h
theorem Dq{b:aA}(h:b.toList.isEmpty=aH):¬ b.toList=[]:=by simpa using h
theorem AO(p:aA)(k:aF)(t:aA)(o:Bool)(anH:Bool)(m:aF)(w:aw)(he:p.size<=maxLen)(ht:t.size<=maxLen)(hm:w.cell? ⟨0,0,aN⟩=aO (aa ag m)):ay aP 154 #[ar #[ai p,aa ag k,ai t,aq o],aq anH] w fun r w'=>r=aK (aa ag (dv ⟨p,k,t,o⟩ anH))/\au w w w':=by
 have RY:=fun W (hB:au w.heap.size w W)=>z8 p m W he (held hB hm)
 have fg:au (w.heap.size+1) (w.alloc (aM #[ai p,aa ag k,ai t,aq o] 88)) (w.alloc (aM #[ai p,aa ag k,ai t,aq o] 88)):=aR _ _;unfold maxLen at ht;have sk:=ways ⟨p,k,t,o⟩ anH;unfold Kt at sk;generalize dv ⟨p,k,t,o⟩ anH=r at sk ⊢;simp only[bP.p]at sk;generalize anI p.data.toList=cl at sk RY;rcases sk with⟨hr,⟨k1,k2,k3,k4,hl|hl⟩|⟨hk,hl⟩⟩|⟨hk|hk|hk|⟨hk,hl⟩,⟨hr,hc⟩|⟨hr,hc,hs⟩|⟨hc,hs,⟨hr,h0,tH⟩|⟨hr,h0,tH⟩|⟨⟨h0,tH⟩|⟨h0,tH⟩,⟨hr,ho⟩|⟨hr,ho,YL⟩|⟨hr,ho,YL,j4⟩|⟨hr,ho,YL,j4⟩⟩⟩⟩;all_goals try (exfalso;omega)
 all_goals (try subst hk)
 all_goals (try subst hl)
 all_goals try contradiction
 all_goals (try subst YL)
 all_goals (try subst ho)
 all_goals (try subst hc)
 all_goals (try clear tH)
 all_goals (try clear j4)
 all_goals try have h0':=S4 h0
 all_goals try have h0':=Dq h0
 all_goals have HR:ax (_=_):=hr
 all_goals clear hr
 all_goals
  go_enter func154,ntmps154;go_wp2_with (first
   | (go_at_call 167;refine(A3 _ _ _ _ _).mono ?_;rintro rr w2 ⟨rfl,hG⟩;replace fg:=oC fg hG.below;clear hG;obtain⟨⟨c0,c1,c2,c3⟩,_⟩:=iv (bC _) fg)
   | (go_at_call 177;refine(RY _ (eX fg)).mono ?_;rintro rr w3 ⟨rfl,hN⟩;replace fg:=oC fg hN;clear hN;obtain⟨⟨c0,c1,c2,c3⟩,_⟩:=iv (bC _) fg))
  go_ret;exact⟨gu HR.symm,eX fg⟩
theorem wA(e:bP)(anH:Bool)(m:aF)(w:aw)(he:e.bm.size<=maxLen)(ht:e.text.size<=maxLen)(hm:w.cell? ⟨0,0,aN⟩=aO (aa ag m)):ay aP 154 #[ar #[ai e.bm, aa ag e.bE, ai e.text, aq e.opq],aq anH] w fun r w'=>r=aK (aa ag (dv e anH))/\au w w w':=AO e.bm e.bE e.text e.opq anH m w he ht hm
theorem wU{r:aF}(ha:kD t q=aH)(hr:b7 t->r=eL t (bU q))(hs:b7 t):mr t q=if r=0 then 0 else 10:=by rw[mr,ha,<- hr hs];rfl
theorem DQ(t:aB bP)(q:aA)(p:aC aJ)(cap:aE)(w:aw)(hL:bI w p t)(hF:anM t)(hn:t.length<4611686018427387904)(hq:q.size<=maxLen)(YY:q.size<4611686018427387904):ay aP 155 #[ah p t.length cap,ai q] w (Cc (fun n=>b7 t->n=mr t q) w):=by
 have hs:=fun W (hB:au w.heap.size w W)=>uj t q p cap W (hL.bB hB) hF hn hq YY
 by_cases h0:t=[]
 ·have HA:ax (kD t q.data.toList=aH):=by show _=_;rw[h0];rfl
  obtain⟨n,eK⟩:=ee t.length
  have hz:n=0:=by rw[eK,h0];rfl
  rw[<- eK]at hs ⊢;clear eK h0;subst hz;go_enter func155,ntmps155;go_wp2_with (go_at_call 166;refine(hs _ (aR _ _)).mono ?_;clear hs;rintro e w' ⟨r,rfl,hr,hB⟩;have HR:ax (b7 t->r=eL t (bU q)):=hr;clear hr;by_cases Qy:r=0)
  ·go_ret
   exact⟨_,rfl,(fun h=>by rw[wU HA.out HR.out h,aY Qy]),hB⟩
  ·go_ret
   exact⟨_,rfl,(fun h=>by rw[wU HA.out HR.out h,aW Qy]),hB⟩
 ·rcases hL with h|⟨b,off,rfl,hb,hc⟩
  ·exact aG h h0
  obtain⟨n,eK⟩:∃ n,t.length=n+1:=⟨t.length-1,by cases t with|nil=>exact aG rfl h0|cons=>simp⟩
  obtain⟨y,hy⟩:∃ y,t[n]?=aO y:=⟨_,aU (by omega)⟩
  have HA:ax (kD t q.data.toList=decide (0<=cmp y.p q)):=by
   show _=_;have:t.getLast?=aO y:=by rw[WI,eK];exact hy
   rw[kD,this]
  have hyp:=(hF.at hy).1;obtain⟨c0,_,_,_⟩:=bI.cells hc hb (aR _ w) hy;rw[eK]at hs hn ⊢;clear hc hy h0 eK hF;have OZ:=vE y.bm q w hyp hq;rw[show cmp y.bm q.data.toList=cmp y.p q from rfl]at OZ;generalize cmp y.p q.data.toList=c at OZ HA;have afN:((n:aF)+1-1)=n:=by omega
  by_cases gI:0<=c
  ·go_enter func155,ntmps155
   go_wp2_with (go_at_call 159;refine OZ.mono ?_;clear OZ;rintro e w' ⟨rfl,k,rfl⟩);go_ret;exact⟨2,rfl,(fun h=>by rw[mr,HA.out];simp[gI]),cG (aR _ _) _⟩
  ·have aby:decide (0<=c)=aH:=by simpa using gI
   have HA':ax (kD t q.data.toList=aH):=by show _=_;rw[HA.out,aby]
   go_enter func155,ntmps155;go_wp2_with (first
    | (go_at_call 159;refine OZ.mono ?_;clear OZ;rintro e w' ⟨rfl,k,rfl⟩)
    | (go_at_call 166;refine(hs _ (cG (aR _ _) _)).mono ?_;clear hs;rintro e w' ⟨r,rfl,hr,hB⟩;have HR:ax (b7 t->r=eL t (bU q)):=hr;clear hr;by_cases Qy:r=0))
   ·go_ret
    exact⟨_,rfl,(fun h=>by rw[wU HA'.out HR.out h,aY Qy]),Below.bK (cG (aR _ _) _) hB⟩
   ·go_ret
    exact⟨_,rfl,(fun h=>by rw[wU HA'.out HR.out h,aW Qy]),Below.bK (cG (aR _ _) _) hB⟩
theorem iI(hB:au (w.heap.size+1) (w.alloc o) W)(a b:az):au w w ((W.setCell w a).setCell ⟨w,1,aN⟩ b):=
 ((eX hB).setCell (aV _) _).setCell (aV _) _
theorem pA(h:au (w.alloc o).heap.size (w.alloc o) W):au w w W:=eX (h.mono (by simp))
theorem wO{c d:az}{t:TypeId}(h:au (w.alloc (aM #[a,b,c,d] t)).heap.size (w.alloc (aM #[a,b,c,d] t)) W)(g:au W.drew.heap.size W.drew W2):W2.cell? w=aO a:=
 (iv (bC _) (oC (h.drew.mono (by simp)) g)).1.1
theorem oO{anH:Bool}(hy:t[k]?=aO y):gF anH (t.take k) (t.drop k)=if ko anH (t.take k) y=0 then gF anH (t.take (k+1)) (t.drop (k+1))else(ko anH (t.take k) y,k):=by obtain⟨h1,h2⟩:=aQ.1 hy;rw[cP h1,gF,h2,dC h1,h2,bL,eM (by omega)]
theorem OQ{anH:Bool}(hy:t[k]?=aO y)(hg:PM.anJ anH (t.take k))(h:ko anH (t.take k) y=0):PM.anJ anH (t.take (k+1)):=by obtain⟨h1,h2⟩:=aQ.1 hy;rw[dC h1,h2];exact hg.snoc h
theorem fG{p:aA}(h:anI p.data.toList=aI):p.size<=80:=by have:=((qZ _).1 h).1;rwa [ix]at this
theorem vG(t:aB bP)(anH:Bool)(m:aF)(p:aC aJ)(cap:aE)(w:aw)(hL:bI w p t)(hF:anM t)(hn:t.length<4611686018427387904)(ir:t.length<=cap)(hm:w.cell? ⟨0,0,aN⟩=aO (aa ag m)):ay aP 107 #[ah p t.length cap,aq anH] w fun r w'=>r=aK (ar #[aa ag (cV anH t).1,aa ag ((cV anH t).2:aE)])/\au w w w':=by
 have HF:ax (anM t):=hF;have HL:ax (bI w p t):=hL;clear hF hL;obtain⟨n,eK⟩:=ee t.length
 have HN:ax (n=t.length):=eK;rw[<- eK]at hn ir ⊢;by_cases oq:80<n
 ·have g:(80:aF)<(n:aF):=by omega
  have HR:ax (cV anH t=(5,0)):=by show _=_;rw[cV,aY (by omega)]
  clear eK;go_enter func107,ntmps107;go_wp2;refine ba (v:=ar #[aa ag 5,aa ag 0]) (by simp[results,results107,go_sem]) rfl ?_;exact⟨by rw[HR.out];rfl,(aR _ _).alloc (aV _) _⟩
 ·have g:¬ (80:aF)<(n:aF):=by omega
  have HR:ax (cV anH t=gF anH [] t):=by show _=_;rw[cV,aW (by omega)]
  clear eK;go_enter func107,ntmps107;go_wp2;go_loopg [14] n (fun gg Zp wr=>∃ k:aE,k<=n/\n-k<=gg/\Zp=aa ag k/\ax (au (w.heap.size+1) (w.alloc (aM #[aa ag 0,aa ag 0] 56)) wr)/\ax (PM.anJ anH (t.take k))/\ax (gF anH (t.take k) (t.drop k)=cV anH t))
  case atStart=>exact⟨0,bF _,by omega,rfl,aR _ _,Ix _,HR.symm⟩
  case round=>
   obtain⟨k,hk,hg,rfl,BW,HG,HE⟩:=hrel;by_cases gm:k<n
   ·have eN:(k:aF)<(n:aF):=by omega
    obtain⟨y,hy⟩:∃ y,t[k]?=aO y:=⟨_,aU (by have:=HN.out;omega)⟩
    have HY:ax (t[k]?=aO y):=hy;have hf:=HF.at hy;have pJ:=eX BW.out;rcases HL.out with h0|⟨b,off,rfl,hb,hc⟩
    ·rw[h0]at hy;simp at hy
    obtain⟨c0,c1,c2,c3⟩:=bI.cells hc hb pJ hy;have HC:ax (∀ j e,t[j]?=aO e->∀ i v,(fy e)[i]?=aO v->w.cell? ⟨b,off+j*4+i,aN⟩=aO v):=hc;have ot:b<wr.heap.size:=aZ hb pJ.size;have hne:b≠wr.heap.size:=by omega
    clear hc hy;have BZ:=fun W (hB:au wr.heap.size wr W)=>wA y anH m W hf.1 hf.2 (held (Below.bK pJ hB) hm)
    have Ub:ax (ko anH (t.take k) y=if dv y anH=0 then mr (t.take k) y.p else dv y anH):=rfl;have HW:ax (dv y anH=0->y.bm.size<=80):=fun h=>fG (dX h)
    generalize dv y anH=r1 at BZ Ub HW;by_cases Cq:r1=0
    ·have qg:=HW.out Cq
     have hwp:∀ W,au w w W->ay aP 155 #[ah (aO ⟨b,off,aN⟩) k cap,ai y.bm] W (fun r w'=>r=aK (aa ag (mr (t.take k) y.p))/\au W.heap.size W w'):=fun W hB=>by have h:=DQ (t.take k) y.bm (aO ⟨b,off,aN⟩) cap W (bI.take (bI.bB (Or.inr ⟨b,off,rfl,hb,HC.out⟩) hB) k) (fun e he=>HF.out e (tO he)) (by rw[bL];have:=HN.out;omega) hf.1 (by omega);rw[bL,eM (by have:=HN.out;omega)]at h;refine h.mono ?_;rintro r w' ⟨x,rfl,hx,hB'⟩;exact⟨gu (hx HG.anF),hB'⟩
     have vt:ax (ko anH (t.take k) y=mr (t.take k) y.p):=by show _=_;rw[Ub.out,aY Cq]
     subst Cq;generalize mr (t.take k) y.p=r2 at hwp vt;have hkc:k<=cap:=by omega
     have abE:(k:aF)<=(cap:aF):=by omega
     clear Ub HW;by_cases Cr:r2=0
     ·subst Cr
      go_wp2_with (go_at_call 154;refine(BZ _ ((aR _ _).alloc (aV _) _)).mono ?_;clear BZ;rintro rr w1 ⟨rfl,fg⟩;obtain⟨⟨d0,d1,d2,d3⟩,_⟩:=iv (by simp) fg;have hX:=pA fg);go_region_held3 (fun w'=>w'.cell? wr=aO (ai y.bm)) (go_keep) (first|(go_at_call 155;refine(hwp _ (Below.drew (Below.bK pJ hX))).mono ?_;rintro rr w2 ⟨rfl,fC⟩;have hY:=Below.bK hX.drew fC;have e0:=wO fg fC));go_wp2;go_roundg (n-(k+1))
      case measure=>omega
      case rel=>exact⟨k+1,by omega,by omega,by go_num,oC BW.out hY,OQ HY.out HG.out vt.out,by have:=HE.out;rw[oO HY.out,aY vt.out]at this;exact this⟩
     ·go_wp2_with (go_at_call 154;refine(BZ _ ((aR _ _).alloc (aV _) _)).mono ?_;clear BZ;rintro rr w1 ⟨rfl,fg⟩;obtain⟨⟨d0,d1,d2,d3⟩,_⟩:=iv (by simp) fg;have hX:=pA fg)
      go_region_held3 (fun w'=>w'.cell? wr=aO (ai y.bm)) (go_keep) (first|(go_at_call 155;refine(hwp _ (Below.drew (Below.bK pJ hX))).mono ?_;rintro rr w2 ⟨rfl,fC⟩;have hY:=Below.bK hX.drew fC;have e0:=wO fg fC));obtain⟨⟨r0,r1⟩,⟨f0,f1⟩⟩:=nw (bC _) (oC BW.out hY);have HO:ax (au (w.heap.size+1) (w.alloc (aM #[aa ag 0,aa ag 0] 56)) w2):=oC BW.out hY;go_wp2;refine ba (v:=ar #[aa ag r2,aa ag k]) (by simp[results,results107,go_sem,r0,r1]) rfl ?_;exact⟨by rw[<- HE.out,oO HY.out,aW (by rw[vt.out];exact Cr),vt.out],iI HO.out _ _⟩
    ·have vt:ax (ko anH (t.take k) y=r1):=by show _=_;rw[Ub.out,aW Cq]
     clear Ub HW;go_wp2_with (go_at_call 154;refine(BZ _ ((aR _ _).alloc (aV _) _)).mono ?_;clear BZ;rintro rr w1 ⟨rfl,fg⟩;obtain⟨⟨r0,r1'⟩,⟨f0,f1⟩⟩:=nw (bC _) (oC BW.out (pA fg));have HO:ax (au (w.heap.size+1) (w.alloc (aM #[aa ag 0,aa ag 0] 56)) w1):=oC BW.out (pA fg));refine ba (v:=ar #[aa ag r1,aa ag k]) (by simp[results,results107,go_sem,r0,r1']) rfl ?_;exact⟨by rw[<- HE.out,oO HY.out,aW (by rw[vt.out];exact Cq),vt.out],iI HO.out _ _⟩
   ·have eN:¬ (k:aF)<(n:aF):=by omega
    have HZ:ax (cV anH t=(0,0)):=by have:=HE.out;rw[cy (by have:=HN.out;omega),gF]at this;exact this.symm
    obtain⟨⟨r0,r1⟩,⟨f0,f1⟩⟩:=nw (bC _) BW.out;go_wp2;refine ba (v:=ar #[aa ag 0,aa ag 0]) (by simp[results,results107,go_sem,r0,r1]) rfl ?_;exact⟨by rw[HZ.out];rfl,iI BW.out _ _⟩
theorem pW(t:aB bP)(m:aF)(p:aC aJ)(cap:aE)(w:aw)(hL:bI w p t)(hF:anM t)(hn:t.length<4611686018427387904)(ir:t.length<=cap)(hm:w.cell? ⟨0,0,aN⟩=aO (aa ag m)):ay aP 110 #[ah p t.length cap] w fun r w'=>r=aK (ar #[aa ag (cV aH t).1,aa ag ((cV aH t).2:aE)])/\au w w w':=by
 have hs:=fun W (hB:au w.heap.size w W)=>vG t aH m p cap W (hL.bB hB) hF hn ir (held hB hm)
 generalize (cV aH t).1=a at hs ⊢;generalize ((cV aH t).2:aF)=b at hs ⊢;go_enter func110,ntmps110;go_wp2_with (go_at_call 107;refine(hs _ ((aR _ _).alloc (aV _) _)).mono ?_;clear hs;rintro rr w1 ⟨rfl,fg⟩;obtain⟨⟨r0,r1⟩,⟨f0,f1⟩⟩:=nw (by simp) fg);refine ba (v:=ar #[aa ag a,aa ag b]) (by simp[results,results110,go_sem,r0,r1]) rfl ?_;exact⟨rfl,iI (fg.mono (by simp)) _ _⟩
def Own(w:aw)(g cap:aE)(l:aB bP):Prop:=
 ∃ eI:Array az,w.heap[g]?=aO (aM eI 88 (0,0))/\eI.size=cap*4/\l.length<=cap/\cap<=maxLen/\∀ j e,l[j]?=aO e->∀ i v,(fy e)[i]?=aO v->eI[j*4+i]?=aO v
theorem ky(e:bP):(fy e).length=4:=rfl
theorem tU(h:(fy e)[i]?=aO v):i<4:=by have:=(aQ.1 h).1;rwa [ky]at this
theorem iY(ns:aB bP):(ns.flatMap fy).length=ns.length*4:=by
 induction ns with
 | nil=>rfl
 | cons x r ih=>rw[eQ,cJ,ih,ky];simp;omega
section
variable {w w' W:aw}{g cap:aE}{l:aB bP}
theorem Own.lt(h:Own w g cap l):g<w.heap.size:=by obtain⟨eI,hc,_⟩:=h;exact(aX.1 hc).1
theorem Own.len(h:Own w g cap l):l.length<=cap:=by obtain⟨_,_,_,h,_⟩:=h;exact h
theorem Own.max(h:Own w g cap l):cap<=maxLen:=by obtain⟨_,_,_,_,h,_⟩:=h;exact h
theorem Own.frozen(h:Own w g cap l)(o:aE):w.frozen? ⟨g,o,aN⟩=aH:=by obtain⟨eI,hc,_⟩:=h;simp[World.frozen?,hc]
theorem Own.there(h:Own w g cap l){o:aE}(ho:o<cap*4):(w.cell? ⟨g,o,aN⟩).isSome=aI:=by obtain⟨eI,hc,hs,_⟩:=h;simp[World.cell?,hc,hs,ho]
theorem Own.cell(h:Own w g cap l)(he:l[j]?=.some e)(hv:(fy e)[i]?=.some v):w.cell? ⟨g,j*4+i,aN⟩=.some v:=by obtain⟨eI,hc,_,_,_,h⟩:=h;simp[World.cell?,hc,h j e he i v hv]
theorem Own.cells(h:Own w g cap l)(he:l[j]?=.some e):(w.cell? ⟨g,j*4,aN⟩=.some (ai e.bm)/\w.cell? ⟨g,j*4+1,aN⟩=.some (aa ag e.bE)/\w.cell? ⟨g,j*4+2,aN⟩=.some (ai e.text)/\w.cell? ⟨g,j*4+3,aN⟩=.some (aq e.opq)) /\
  (w.frozen? ⟨g,j*4,aN⟩=aH/\w.frozen? ⟨g,j*4+1,aN⟩=aH/\w.frozen? ⟨g,j*4+2,aN⟩=aH/\w.frozen? ⟨g,j*4+3,aN⟩=aH):=
 ⟨⟨h.cell he (i:=0) rfl,h.cell he (i:=1) rfl,h.cell he (i:=2) rfl,h.cell he (i:=3) rfl⟩,h.frozen _,h.frozen _,h.frozen _,h.frozen _⟩
theorem Own.anO(h:Own w g cap l):bI w (.some ⟨g,0,aN⟩) l:=
 .inr ⟨g,0,rfl,h.lt,fun j e he i v hv=>by rw[dD];exact h.cell he hv⟩
theorem Own.bB(h:Own w g cap l)(hk:w'.heap[g]?=w.heap[g]?):Own w' g cap l:=by obtain⟨eI,hc,h⟩:=h;exact⟨eI,hk.trans hc,h⟩
theorem Own.below(h:Own w g cap l)(hB:au B w w')(hg:g<B):Own w' g cap l:=h.bB (hB.block g hg)
theorem Own.grown(h:Own w g cap l)(hB:Grown w w'):Own w' g cap l:=h.below hB.below h.lt
theorem Own.take(h:Own w g cap l)(k:aE):Own w g cap (l.take k):=by
 obtain⟨eI,hc,hs,hl,hm,h⟩:=h;refine⟨eI,hc,hs,by rw[bL];omega,hm,fun j e he=>h j e ?_⟩;rw[dm]at he;split at he
 ·exact he
 ·cases he
theorem heap_set{eI:Array az}{t:TypeId}{f:aE × aE}(h:w.heap[g]?=.some (aM eI t f))(o:aE)(v:az):(w.setCell ⟨g,o,aN⟩ v).heap[g]?=.some (aM (eI.setIfInBounds o v) t f):=by simp[World.setCell,iJ,h]
theorem Own.setCells{vs:aB az}{o:aE}(h:Own w g cap l):∃ eI cur':Array az,w.heap[g]?=.some (aM eI 88 (0,0))/\(w.setCells g o vs).heap[g]?=.some (aM cur' 88 (0,0))/\cur'.size=eI.size/\(∀ x,x<o\/o+vs.length<=x->cur'[x]?=eI[x]?)/\(∀ j v,vs[j]?=.some v->o+j<eI.size->cur'[o+j]?=.some v):=by
 obtain⟨eI,hc,_⟩:=h;refine⟨eI,?_⟩;have key:∀ (vs:aB az) (o:aE) (w:aw) (eI:Array az),w.heap[g]?=.some (aM eI 88 (0,0))->∃ cur':Array az,(w.setCells g o vs).heap[g]?=.some (aM cur' 88 (0,0))/\cur'.size=eI.size/\(∀ x,x<o\/o+vs.length<=x->cur'[x]?=eI[x]?)/\(∀ j v,vs[j]?=.some v->o+j<eI.size->cur'[o+j]?=.some v):=by
  intro vs;induction vs with
  | nil=>intro o w eI hc;exact⟨eI,hc,rfl,fun _ _=>rfl,fun j v hj=>by simp at hj⟩
  | cons v r ih=>
   intro o w eI hc;obtain⟨cur',h1,h2,h3,h4⟩:=ih (o+1) (w.setCell ⟨g,o,aN⟩ v) _ (heap_set hc o v);refine⟨cur',h1,by rw[h2];simp,fun x hx=>?_,fun j u hj gm=>?_⟩
   ·rw[h3 x (by simp at hx;omega),fE,aW (by simp at hx;omega)]
   ·cases j with
    | zero =>simp at hj;subst hj;rw[Kq,h3 o (by omega),fE,aY rfl,aY (by omega)]
    | succ j=>rw[show o+(j+1)=o+1+j by omega];exact h4 j u (by simpa using hj) (by simp;omega)
 obtain⟨cur',h1,h2,h3,h4⟩:=key vs o w eI hc;exact⟨cur',hc,h1,h2,h3,h4⟩
theorem Own.beyond{vs:aB az}{o:aE}(h:Own w g cap l)(ho:l.length*4<=o):Own (w.setCells g o vs) g cap l:=by
 obtain⟨eI,cur',h0,h1,h2,h3,_⟩:=h.setCells (vs:=vs) (o:=o);obtain⟨c,hc,hs,hl,hm,hh⟩:=h;obtain rfl:c=eI:=by have:=hc.symm.trans h0;simpa using this
 refine⟨cur',h1,by rw[h2,hs],hl,hm,fun j e he i v hv=>?_⟩;have hj:=(aQ.1 he).1;have hi:=tU hv;rw[h3 _ (by omega)];exact hh j e he i v hv
theorem Own.over{ns:aB bP}(h:Own w g cap l)(hj:j<=l.length)(hc:j+ns.length<=cap):Own (w.setCells g (j*4) (ns.flatMap fy)) g cap (l.take j++ns++l.drop (j+ns.length)):=by
 obtain⟨eI,cur',h0,h1,h2,h3,h4⟩:=h.setCells (vs:=ns.flatMap fy) (o:=j*4);obtain⟨c,IE,hs,hl,hm,hh⟩:=h;obtain rfl:c=eI:=by have:=IE.symm.trans h0;simpa using this
 have hfl:=iY ns;refine⟨cur',h1,by rw[h2,hs],by simp;omega,hm,fun k e he i v hv=>?_⟩;have hi:=tU hv;by_cases c1:k<j
 ·rw[gl,bR (by rw[bL];omega),dm,aY c1]at he
  rw[h3 _ (by omega)];exact hh k e he i v hv
 ·by_cases c2:k<j+ns.length
  ·rw[gl,cg (by rw[bL];omega),bL,eM hj,bR (by omega)]at he
   rw[show k*4+i=j*4+((k-j)*4+i) by omega];refine h4 _ v ?_ (by rw[hs];omega);have key:∀ (ns:aB bP) (q:aE),ns[q]?=.some e->(ns.flatMap fy)[q*4+i]?=.some v:=by
    intro ns;induction ns with
    | nil=>intro q hq;simp at hq
    | cons x r ih=>
     intro q hq;rw[eQ];cases q with
     | zero=>simp at hq;subst hq;rw[bR (by rw[ky];omega)];simpa using hv
     | succ q =>rw[cg (by rw[ky];omega),ky,show(q+1)*4+i-4=q*4+i by omega];exact ih q (by simpa using hq)
   exact key ns _ he
  ·rw[cg (by rw[cJ,bL];omega),cJ,bL,eM hj,fN,show j+ns.length+(k-(j+ns.length))=k by omega]at he
   rw[h3 _ (by rw[hfl];omega)];exact hh k e he i v hv
theorem Mu(l:aB bP)(j:aE)(e:bP)(hj:j<l.length):l.take j++[e]++l.drop (j+1)=l.set j e:=by
 apply dz;intro k;rw[eR];by_cases c1:k<j
 ·rw[gl,bR (by rw[bL];omega),dm,aY c1,aW (by omega)]
 ·by_cases c2:k=j
  ·subst c2
   rw[gl,cg (by rw[bL];omega),bL,eM (by omega)];simp[hj]
  ·rw[cg (by simp;omega),aW (by omega)]
   simp only[cJ,bL,eM (bM hj),jL,fN];congr 1;omega
theorem Own.set(h:Own w g cap l)(hj:j<l.length)(e:bP):Own ((((w.setCell ⟨g,j*4,aN⟩ (ai e.bm)).setCell ⟨g,j*4+1,aN⟩ (aa ag e.bE)).setCell ⟨g,j*4+2,aN⟩ (ai e.text)).setCell ⟨g,j*4+3,aN⟩ (aq e.opq)) g cap (l.set j e):=by have:=h.over (ns:=[e]) (j:=j) (by omega) (by have:=h.len;simp;omega);rw[jL,Mu l j e hj]at this;exact this
/-! what else has turned -/
theorem k9(w:aw)(r:aC aE):w.grownBy w r:=⟨rfl,rfl,rfl,aV _,fun _ _ _=>rfl⟩
theorem jB(h:w.grownBy W (.some g))(hB:au W W w'):w.grownBy w' (.some g):=
 ⟨hB.os.trans h.os,hB.tape.trans h.tape,hB.output.trans h.output,bc h.size hB.size,fun k hk hn=>(hB.block k (aZ hk h.size)).trans (h.block k hk hn)⟩
theorem jT(h:w.grownBy W (.some g))(hB:Grown W w'):w.grownBy w' (.some g):=jB h hB.below
theorem Ag(h:w.grownBy W (.some g))(o:Obj):w.grownBy (W.alloc o) (.some g):=jT h ((Grown.refl W).alloc o)
theorem jN(h:w.grownBy W (.some g))(o:aE)(v:az):w.grownBy (W.setCell ⟨g,o,aN⟩ v) (.some g):=
 ⟨h.os,h.tape,h.output,by simp[World.setCell];exact h.size,fun k hk hn=>(cI _ _ _ _ (by intro e;exact hn (by rw[e]))).trans (h.block k hk hn)⟩
theorem kB:∀ (vs:aB az) (o:aE) (W:aw),w.grownBy W (.some g)->w.grownBy (W.setCells g o vs) (.some g)
 | [],_,_,h=>h
 | v::r,o,W,h=>kB r (o+1) _ (jN h o v)
theorem lZ(h:w.grownBy W (.some g)){a:aJ}(ha:a.block<w)(hn:a.block≠g):W.cell? a=w.cell? a:=ji (w:=w) (h.block _ ha (by simpa using hn))
theorem EX(h:w.grownBy W (.some g))(k:W.grownBy W2 (.some g)):w.grownBy W2 (.some g):=
 ⟨k.os.trans h.os,k.tape.trans h.tape,k.output.trans h.output,bc h.size k.size,fun i hi hn=>(k.block i (aZ hi h.size) hn).trans (h.block i hi hn)⟩
end
theorem Aa(h:Own w g cap l){c:aE}(hn:0<n)(hi:i+n<=cap):∃ zs,∀ ty,(Builtin.clear_ #[23] ty #[ah (aO ⟨g,i*4,aN⟩) n c]).run aP w=.ok (aL #[]) (w.setCells g (i*4) zs):=by
 refine⟨(Builtin.zeroCells #[ai ⟨#[]⟩,aa ag 0,ai ⟨#[]⟩,aq aH] n).toList,fun ty=>?_⟩;have hlen:(Builtin.zeroCells #[ai ⟨#[]⟩,aa ag 0,ai ⟨#[]⟩,aq aH] n).toList.length=n*4:=by simp[Builtin.zeroCells]
 have kQ:=Hi (P:=aP) g (i*4) (Builtin.zeroCells #[ai ⟨#[]⟩,aa ag 0,ai ⟨#[]⟩,aq aH] n).toList 0 w
  (fun j hj=>by rw[hlen]at hj;exact h.there (by omega)) (fun j _=>h.frozen _) (fun v hv=>by
    simp only[Builtin.zeroCells,Array.toList_map,fT]at hv;obtain⟨k,_,rfl⟩:=hv;have:k % 4<4:=U6 _ (by decide);show(#[Value.string ⟨#[]⟩,aa ag 0,ai ⟨#[]⟩,aq aH][k % 4]!).oneCell'=aI;generalize k % 4=r at this
    match r,this with
    | 0,_=>rfl
    | 1,_=>rfl
    | 2,_=>rfl
    | 3,_=>rfl)
 obtain⟨m,rfl⟩:∃ m,n=m+1:=⟨n-1,by omega⟩
 have Y5:(storeCells ⟨g,i*4,aN⟩ (Builtin.zeroCells #[ai ⟨#[]⟩,aa ag 0,ai ⟨#[]⟩,aq aH] (m+1)).toList).run aP w=.ok () (w.setCells g (i*4) (Builtin.zeroCells #[ai ⟨#[]⟩,aa ag 0,ai ⟨#[]⟩,aq aH] (m+1)).toList):=kQ;simp[Builtin.clear_,lW underlying23,Value.cells,Y5]
structure kI (pr:bP->Bool) (l:aB bP) (w:aw) (g cap i j:aE) (dk:aB bP) (W:aw):Prop where
 own:Own W g cap dk
 len:dk.length=l.length
 head:dk.take i=(l.take j).filter fun x => !pr x
 tail:dk.drop j=l.drop j
 OO:w.grownBy W (aO g)
theorem kI.at(h:kI pr l w g cap i j dk W)(hy:l[j]?=aO y):dk[j]?=aO y:=by have:=congrArg (·[0]?) h.tail;simpa[fN,hy]using this
theorem gi(hy:l[j]?=aO y):l.take (j+1)=l.take j++[y]:=by obtain⟨h1,h2⟩:=aQ.1 hy;rw[dC h1,h2]
theorem kI.skip(h:kI pr l w g cap i j dk W)(hy:l[j]?=aO y)(hp:pr y=aI)(hG:Grown W W2):kI pr l w g cap i (j+1) dk W2:=
 ⟨h.own.grown hG,h.len,by rw[gi hy,eu,h.head];simp[hp],by have:=congrArg (·.drop 1) h.tail;simpa[D9]using this,jT h.OO hG⟩
theorem kI.keep(h:kI pr l w g cap i j dk W)(hy:l[j]?=aO y)(hp:pr y=aH)(hG:Grown W W2)(O5:i<j):kI pr l w g cap (i+1) (j+1) (dk.set i y) ((((W2.setCell ⟨g,i*4,aN⟩ (ai y.bm)).setCell ⟨g,i*4+1,aN⟩ (aa ag y.bE)).setCell ⟨g,i*4+2,aN⟩ (ai y.text)).setCell ⟨g,i*4+3,aN⟩ (aq y.opq)):=by
 have hj:=(aQ.1 hy).1;have hi:i<dk.length:=by rw[h.len];omega
 refine⟨(h.own.grown hG).set hi y,by rw[fW,h.len],?_,?_,jN (jN (jN (jN (jT h.OO hG) _ _) _ _) _ _) _ _⟩
 ·rw[gi hy,eu,<- h.head,gi (y:=y) (by rw[eR,aY rfl,aY hi])]
  rw[ahz (aV _)];simp[hp]
 ·have:=congrArg (·.drop 1) h.tail
  rw[ahx (by omega)];simpa[D9]using this
theorem oJ.parts{r:Ending}(hn:n=t.length)(h:oJ pr t w r w'):Grown w w'/\((r=aK (aa ag (-1))/\∀ x∈t,pr x=aH)\/∃ (k:aE) (y:bP),k<n/\t[k]?=aO y/\r=aK (aa ag k)/\pr y=aI/\∀ x∈t.take k,pr x=aH):=by
 obtain⟨h1,h2|⟨k,y,h3,h4⟩⟩:=h
 ·exact⟨h1,.inl h2⟩
 ·exact⟨h1,.inr ⟨k,y,by rw[hn];exact(aQ.1 h3).1,h3,h4⟩⟩
theorem tS(pr:bP->Bool)(gf:aE)(lb:Array az)(eg:∀ args w,(callFunc gf args).run aP w=.ok (.enter gf args) w)(l:aB bP)(g cap:aE)(w:aw)(hO:Own w g cap l)(hn:l.length<4611686018427387904)(hp:∀ W x,w.grownBy W (aO g)->x∈l->ay aP gf (#[ar #[ai x.bm, aa ag x.bE, ai x.text, aq x.opq]]++lb) W fun e w'=>e=aK (aq (pr x))/\Grown W w'):ay aP 174 #[ah (aO g) l.length cap,.func (.func gf) #[] lb] w fun e w'=>
   e=aK (ah (aO g) (l.filter fun x => !pr x).length cap)/\Own w' g cap (l.filter fun x => !pr x)/\w.grownBy w' (aO g):=by
 have hI:=tj pr gf lb eg l (aO ⟨g,0,aN⟩) cap w hO.anO hn (fun W x hG hx=>hp W x (jT (k9 w _) hG) hx);have HO:ax (Own w g cap l):=hO;have HP:ax _:=hp;have ir:l.length<=cap:=hO.len;have KZ:=hO.max;unfold maxLen at KZ;clear hp hO;obtain⟨n,eK⟩:=ee l.length
 have HN:ax (n=l.length):=eK;rw[<- eK]at hn ir hI ⊢;clear eK;go_enter func174,ntmps174;go_wp2_with (go_at_call 217;refine hI.mono ?_;clear hI;intro e w1 Vo;rcases oJ.parts HN.out Vo with⟨hG,⟨rfl,ha⟩|⟨k0,y0,A1,hy0,rfl,YX,ha⟩⟩<;>clear Vo)
 ·go_ret
  have hf:(l.filter fun x => !pr x)=l:=qb.2 fun x hx=>by simp[ha x hx]
  rw[hf];exact⟨by rw[<- HN.out];rfl,HO.grown hG,jT (k9 w _) hG⟩
 ·have GZ:ax (kI pr l w g cap k0 (k0+1) l w1):=⟨HO.grown hG,rfl,by rw[gi hy0,eu,qb.2 (fun x hx=>by simp[ha x hx])];simp[YX],rfl,jT (k9 w _) hG⟩
  clear hy0 ha hG;have abN:((k0:aF) == -1)=aH:=dw.2 (by omega);go_wp2;go_loopg [5,6,7] n (fun gg s5 s6 _ wr=>∃ (i j:aE) (dk:aB bP),s5=aa ag i/\s6=aa ag j/\i<j/\j<=n/\n-j<=gg/\ax (kI pr l w g cap i j dk wr))
  case atStart=>exact⟨k0,k0+1,l,rfl,by go_num,by omega,by omega,by omega,GZ.out⟩
  case round=>
   obtain⟨i,j,dk,rfl,rfl,O5,hjn,oP,INV⟩:=hrel;have Gd:=INV.own.lt;have hne:g≠wr.heap.size:=by omega
   by_cases gm:j<n
   ·have eN:(j:aF)<(n:aF):=by omega
    obtain⟨y,hy⟩:∃ y,l[j]?=aO y:=⟨_,aU (by have:=HN.out;omega)⟩
    have HY:ax (l[j]?=aO y):=hy;obtain⟨⟨c0,c1,c2,c3⟩,_⟩:=INV.own.cells (INV.at hy);have gW:=HP.out _ y (Ag INV.OO (aM #[ai y.bm, aa ag y.bE, ai y.text, aq y.opq] 88)) (bw hy);obtain⟨z,hz⟩:∃ z,dk[i]?=aO z:=⟨_,aU (by rw[INV.len];have:=HN.out;omega)⟩
    have HZ:ax (dk[i]?=aO z):=hz;clear hy hz;cases hq:pr y with
    | true=>
     rw[hq]at gW;go_wp2_with (go_at_fn gf;refine gW.mono ?_;clear gW;rintro e w2 ⟨rfl,Ah⟩);go_roundg (n-(j+1))
     case measure=>omega
     case rel=>exact⟨i,j+1,dk,rfl,by go_num,by omega,by omega,aV _,INV.skip HY.out hq (((Grown.refl wr).alloc _).trans Ah)⟩
    | false=>
     rw[hq]at gW;go_wp2_with (go_at_fn gf;refine gW.mono ?_;clear gW;rintro e w2 ⟨rfl,Ah⟩;obtain⟨⟨b0,b1,b2,b3⟩,_⟩:=iv (by simp) Ah.below;obtain⟨⟨a0,a1,a2,a3⟩,⟨f0,f1,f2,f3⟩⟩:=(INV.own.grown (((Grown.refl wr).alloc _).trans Ah)).cells HZ.out);go_roundg (n-(j+1))
     case measure=>omega
     case rel=>exact⟨i+1,j+1,dk.set i y,by go_num,by go_num,by omega,by omega,aV _,INV.keep HY.out hq (((Grown.refl wr).alloc _).trans Ah) O5⟩
   ·obtain rfl:j=n:=by omega
    have eN:¬ (j:aF)<(j:aF):=by omega
    obtain⟨zs,hzs⟩:=Aa INV.own (i:=i) (n:=j-i) (c:=cap-i) (by omega) (by omega);have hic:¬ cap=i:=by omega
    go_wp2;go_ret;have hf:(l.filter fun x => !pr x)=dk.take i:=by rw[INV.head,HN.out,gh]
    have hl:(dk.take i).length=i:=by rw[bL,INV.len];have:=HN.out;omega
    rw[hf,hl];exact⟨rfl,(INV.own.take i).beyond (by rw[hl];exact aV _),kB _ _ _ INV.OO⟩
theorem GS(e:bP)(q:aA)(B:aE)(w:aw)(hB:B<w)(hc:w.cell? B=aO (ai q)):ay aP 216 #[ar #[ai e.bm, aa ag e.bE, ai e.text, aq e.opq],aj (aO B)] w fun r w'=>r=aK (aq (decide (e.p=q.data.toList)))/\Grown w w':=by
 have hne:B≠w.heap.size:=by omega
 have HE:ax ((e.bm.toList == q.toList)=decide (e.p=q.data.toList)):=by show _=_;rw[bq,bq,dN];simp[bP.p]
 go_enter func216,ntmps216;go_wp2;go_ret;exact⟨df HE.out,(Grown.refl w).alloc _⟩
theorem ue:∃ i0,Tryz.prog.info? 88=aO i0/\i0.zero=aO (ar #[ai ⟨#[]⟩,aa ag 0,ai ⟨#[]⟩,aq aH])/\i0.size=4/\i0.bytes=48:=by
 have h:(Tryz.prog.info? 88).map (fun i=>(i.zero,i.size,i.bytes))=aO (aO (ar #[ai ⟨#[]⟩,aa ag 0,ai ⟨#[]⟩,aq aH]),4,48):=by kernel_rfl
 cases hi:Tryz.prog.info? 88 with
 | none=>rw[hi]at h;cases h
 | some i0 =>rw[hi]at h;simp only[dF,dt,jX]at h;exact⟨i0,rfl,h.1,h.2.1,h.2.2⟩
theorem sU{u:az}(h:(t.flatMap fy)[k]?=aO u):∃ j e i,t[j]?=aO e/\(fy e)[i]?=aO u/\k=j*4+i:=by
 induction t generalizing k with
 | nil=>simp at h
 | cons x r ih=>
  rw[eQ]at h;by_cases hk:k<4
  ·rw[bR (by rw[ky];exact hk)]at h
   exact⟨0,x,k,rfl,h,by omega⟩
  ·rw[cg (by rw[ky];omega),ky]at h
   obtain⟨j,e,i,h1,h2,h3⟩:=ih h;exact⟨j+1,e,i,by simpa using h1,h2,by omega⟩
theorem yY(h:t[j]?=aO e)(hv:(fy e)[i]?=aO v):(t.flatMap fy)[j*4+i]?=aO v:=by
 have hi:=tU hv;induction t generalizing j with
 | nil=>simp at h
 | cons x r ih=>
  rw[eQ];cases j with
  | zero=>simp at h;subst h;rw[bR (by rw[ky];omega)];simpa using hv
  | succ j =>rw[cg (by rw[ky];omega),ky,show(j+1)*4+i-4=j*4+i by omega];exact ih (by simpa using h)
theorem kA{u:az}(h:u∈t.flatMap fy):u.oneCell'=aI:=by obtain⟨e,_,he⟩:=mW.1 h;simp[fy]at he;rcases he with rfl|rfl|rfl|rfl<;>rfl
theorem bI.flat{ad:aJ}(h:bI w (aO ad) t)(hW:au w w W):∀ j u,(t.flatMap fy)[j]?=aO u->W.cell? (ad.add j)=aO u:=by
 intro k u hu;obtain⟨j,e,i,h1,h2,rfl⟩:=sU hu;rcases h with rfl|⟨b,off,he,hb,hc⟩
 ·simp at h1
 ·cases he
  rw[dG,hW.cell (p:=⟨b,off+(j*4+i),aN⟩) hb,<- dh];exact hc j e h1 i u h2
theorem Own.pS(h:w.ownsRow aS 88 4 v n (t.flatMap fy))(hv:v≠ah aN 0 0)(hn:n=t.length):∃ g c,v=ah (aO ⟨g,0,aN⟩) t.length c/\aS<=g/\Own w g c t:=by
 obtain⟨h1,h2|⟨g,cap,eI,yE,hg,hh,C6,hm,hs,ht⟩⟩:=h
 ·exact aG h2.1 hv
 ·subst hn
  refine⟨g,cap,yE,hg,eI,hh,hs,C6,hm,fun j e he i v UF=>?_⟩;have:=yY he UF;rw[<- ht,dm]at this;split at this
  ·rw[<- gJ];exact this
  ·cases this
theorem om(w:aw)(H:aE)(hH:H=w):(w.alloc (aM #[] 88)).ownsRow H 88 4 (ah (aO H) 0 0) 0 []:=by subst hH;exact⟨rfl,.inr ⟨w.heap.size,0,#[],rfl,aV _,(by show(w.heap.push _)[w.heap.size]?=_;simp),aV _,by decide,rfl,rfl⟩⟩
theorem mC{ops:Array Oper}{rest:aB Oper}{o:Oper}{a:Act}{Q:Exit->Act->aw->Prop}(W:aw)(ly:o.guard=aN)(s x:Operand)(ho:o.op=.call { callee:=.builtin .append,args:=#[s,x],argTypes:=#[23,23] })(H:aE)(hs:a.eval s=ah (aO H) 0 0)(gG:W.ownsRow H 88 4 (ah (aO H) 0 0) 0 [])(p:aC aJ)(n cap:aE)(t:aB bP)(hx:a.eval x=ah p n cap)(hn:n=t.length)(hL:bI W p t)(iR:p=aN->cap=0)(oq:n<=80)(hH:H<=W)(h:∀ g c w',Own w' g c t->H<=g->au H W w'->wpList aP ops Q rest (a.put o.dst (ah (aO ⟨g,0,aN⟩) n c)) w'):wpList aP ops Q (o::rest) a W:=by
 obtain⟨i0,hi,ou,mL,mh⟩:=ue;cases p with
 | none=>
  obtain rfl:cap=0:=iR rfl;have ht:t=[]:=by
   rcases hL with h|⟨b,off,he,_⟩
   ·exact h
   ·cases he
  subst ht;obtain rfl:n=0:=hn;refine wpList_append_own_none ly s x 23 ho H 88 i0 4 underlying23 hi _ 0 [] hs gG hx ?_;obtain⟨g,c,hv,hg,Cp⟩:=Own.pS (t:=[]) gG (by simp) rfl;simp only[ib]at hv;rw[hv];exact h g c W Cp hg (aR _ _)
 | some ad =>refine dP W ly s x 23 ho H 88 i0 _ 4 48 underlying23 hi ou mL mh rfl (by decide) _ 0 [] hs gG ad n cap (t.flatMap fy) hx (by rw[iY,hn]) (hL.flat (aR _ _)) (fun u hu=>kA hu) (by unfold maxLen;omega) (by omega) hH ?_;intro v' w' jF hg Sc;rw[fo,dD]at jF;obtain⟨g,c,hv,oP,Cp⟩:=Own.pS jF (by intro e;have:=(Sc.1 e).1;cases this) hn;rw[hv,<- hn];exact h g c w' Cp oP ((aR H W).grown hg hH (fun k hk=>by simp[Value.ownBlock]at hk;omega))
def rY(t:aB bP)(q:aB aD)(w:aw)(e:Ending)(w':aw):Prop:=
 ∃ g c,e=aK (ah (aO ⟨g,0,aN⟩) (pq t q).length c)/\w.heap.size<=g/\Own w' g c (pq t q)/\au w w w'
theorem qp(t:aB bP)(q:aA)(p:aC aJ)(cap:aE)(w:aw)(hL:bI w p t)(iR:p=aN->cap=0)(hn:t.length<=80):ay aP 173 #[ah p t.length cap,ai q] w (rY t q w):=by
 have eg:∀ args w,(callFunc 216 args).run aP w=.ok (.enter 216 args) w:=enters_of func216 (by kernel_rfl) rfl;have xY:∀ (g c:aE) (W:aw),Own W g c t->w.heap.size+1<=g->au (w.heap.size+1) (w.alloc (aM #[ai q] 9)) W ->
   ay aP 174 #[ah (aO g) t.length c,.func (.func 216) #[] #[aj (aO w)]] W fun e w'=>e=aK (ah (aO g) (pq t q).length c)/\Own w' g c (pq t q)/\au (w.heap.size+1) (w.alloc (aM #[ai q] 9)) w':=by
  intro g c W hO hg hB;have Ui:=hB.size;simp at Ui;refine(tS (fun e=>decide (e.p=q.data.toList)) 216 #[aj (aO w)] eg t g c W hO (by omega) (fun W2 x hG hx=>GS x q w W2 (by have:=hG.size;omega) ?_)).mono ?_
  ·rw[lZ hG (by show w.heap.size<W;omega) (by show w≠g;omega),hB.cell (p:=w) (by simp)]
   simp
  ·rintro e w' ⟨rfl,CY,hG⟩
   exact⟨rfl,CY,hB.grown hG (by simpa using Ui) (fun k hk=>by simp at hk;omega)⟩
 have HL:ax (bI w p t):=hL;clear hL eg;obtain⟨n,eK⟩:=ee t.length
 have HN:ax (n=t.length):=eK;rw[<- eK]at hn xY ⊢;clear eK;generalize Lg:(pq t q).length=rl at xY;have HR:ax ((pq t q).length=rl):=Lg;clear Lg;go_enter func173,ntmps173;go_wp2_with (at_builtin;refine mC _ rfl _ _ rfl (w.heap.size+1) rfl ?_ p n cap t rfl HN.out ?_ iR hn ?_ ?_)
 ·exact om (w.alloc (aM #[ai q] 9)) _ (by simp)
 ·exact(HL.grown ((Grown.refl w).alloc _)).grown ((Grown.refl _).alloc _)
 ·simp
 ·intro g c w1 hO hg hB
  have hB':au (w.heap.size+1) (w.alloc (aM #[ai q] 9)) w1:=((aR _ _).alloc (by simp) _).trans hB;have gW:=xY g c w1 hO hg hB';clear xY;have H1:ax (w.heap.size+1<=g):=hg;clear hO hB hg;go_wp2_with (go_at_call 174;refine gW.mono ?_;clear gW;rintro e w2 ⟨rfl,Nh,fC⟩);go_ret;exact⟨g,c,by rw[HR.out];rfl,by have:=H1.out;omega,Nh,eX fC⟩
