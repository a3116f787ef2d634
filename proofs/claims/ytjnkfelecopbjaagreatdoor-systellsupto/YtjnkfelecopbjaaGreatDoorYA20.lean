import Derived.Test.YtjnkfelecopbjaaGreatDoorYA19
open Go.Proofs.Tryz
open Go.Value renaming int->aa,slice->ah,string->ai,pointer->aj,bool->aq,agg->ar,tuple->aL
open Go.IntKind renaming i64->ag
open Go.RowKit renaming Below->au
open Go renaming World->aw,Aside->ax,Calls->ay,Value->az,Addr->aJ
open _root_ renaming ByteArray->aA,List->aB,Option->aC,Nat->aE,Int->aF,absurd->aG
open Bool renaming false->aH,true->aI
open Go.Ending renaming returned->aK
open Go.Obj renaming cells->aM
open Option renaming none->aN,some->aO
open Go.Proofs.Tryz renaming prog->aP
set_option linter.all false
set_option maxHeartbeats 1000000
set_option maxRecDepth 100000
namespace Go.Proofs.YtjnkfelecopbjaaGreatDoor
open Go.RowKit PM Go.Sort
variable{X:aw}{c i j k n:aE}{f:Fl}{p:aC aJ}{q:aA}{up:aB bP}
def WK(n:aE)(sl:aB bP)(W:aw)(r:Ending)(w':aw):Prop:=∃ p c,r=aK (aL #[ah p n c,aa ag 0])/\ax (bI w' p sl/\n<=c/\(p=aN->c=0)/\∀ b off sp,p=aO ⟨b,off,sp⟩->W.heap.size<=b)/\au W W w'
def Hs(ae:aF)(up:aB bP)(pl:aC aJ)(ln cl:aE)(W:aw)(r:Ending)(w':aw):Prop:=∃ (p:aC aJ) (n c:aE) (qA:aC aJ) (tK cl':aE),r=aK (aL #[ar #[ah p n c,ah qA tK cl'],aa ag ae])/\au W W w'/\ax (ae=0->n=up.length/\qA=pl/\tK=ln/\cl'=cl/\bI w' p up/\n<=c/\(p=aN->c=0)/\∀ b off sp,p=aO ⟨b,off,sp⟩->W.heap.size<=b)
theorem sR{q:aB UInt8}(h:anI q=aI):q.length<=80:=by unfold anI at h;simp at h;exact h.1
theorem Ty{t:aB bP}{q:aB UInt8}(hr:du aH t)(h:eP t q=0):q≠[]/\q.length<=80:=by
 unfold eP at h;have h1:pC t q=0:=by
  unfold kb at h;split at h
  ·unfold kb at h
   split at h
   ·assumption
   ·rename_i h2;exact aG h h2
  ·rename_i h2;exact aG h h2
 unfold pC at h1;split at h1
 ·rename_i h2
  obtain⟨e,he,rfl⟩:=h2;exact⟨hr.ne he,sR (dX (hr.each e he))⟩
 ·omega
section
variable {w W wx wy:aw}{y:Lay}{lo:aB Lay}{pl:aC aJ}{cl yn ln:aE}
theorem mR(h0:(bH (y.es::lo.map (·.es))).1=0):lo.length<=4/\du aI y.es/\du aH (bG (lo.map (·.es))).2/\(∀ x∈y::lo,du aI x.es)/\jO ((y::lo).map (·.es))=(0,cO (y.es::lo.map (·.es)))/\(jO (lo.map (·.es))).2=(bG (lo.map (·.es))).2:=by
 obtain⟨h5,hz,hr⟩:=gT.1 h0;obtain⟨g1,g2,g3,_⟩:=sy hz;rw[cj,bQ]at h5;refine⟨by omega,g2,g3,fun x hx=>?_,?_,by rw[jO,aW (by rw[bQ];omega)]⟩
 ·rcases cX.1 hx with rfl|hx
  ·exact g2
  ·exact hr _ (by simp;exact .inr ⟨x,hx,rfl⟩)
 ·rw[jO,aW (by simp;omega),cO,aY h0]
  exact Ks hz rfl
theorem zJ(h0:(bH (y.es::lo.map (·.es))).1=0):∀ x∈y::lo,∀ e∈x.es,e.bm.size<=1048576/\e.text.size<=1048576:=fun x hx e he=>by have:=o4 ((mR h0).2.2.2.1 x hx) he;omega
theorem GN(hU:eZ W y lo pl cl)(h0:(bH (y.es::lo.map (·.es))).1=0)(ku:yn=y.es.length)(ka:ln=lo.length){sn:aE}(ik:sn=(cO (y.es::lo.map (·.es))).length):ay aP 26 #[ar #[ah y.ad yn y.cap,ah pl ln cl]] W (WK sn (cO (y.es::lo.map (·.es))) W):=by
 obtain⟨h4,hr,_,hra,hm,_⟩:=mR h0;have rU:=fun X p c (hX:au W.heap.size W X) (hT:gj X p (y::lo))=>qQ (y::lo) p c X hT (fun x hx=>(hU.all x hx).bB hX) (zJ h0)
 have QC:=Fm y lo pl cl W hU.anO (fun x hx X hX=>by have h:=(hU.all x hx).bB hX;exact jh x.es aI x.ad x.cap X h.anO (zJ h0 x hx) h.small h.cap) (fun X p c hX hT=>(rU X p c hX hT).mono fun r w' h=>h.tree) hU.nil;rw[show(y::lo).map (·.es)=y.es::lo.map (·.es)from rfl,h0]at QC;rw[hm]at rU;have Ek:=fun X (hB:au W.heap.size W X)=>Dx y lo pl cl X (hU.anO.bB hB) (by omega) hU.nil
 have Ca:ax ((y::lo).length=lo.length+1):=cj;generalize ((bH (y.es::lo.map (·.es))).2:aF)=ea at QC;generalize cO (y.es::lo.map (·.es))=sl at rU ik ⊢;rw[Ca.out]at rU;rw[<- ku,<- ka]at QC Ek;rw[<- ka]at rU Ca;have HS:ax (sn=sl.length):=ik;have lV:ax (au (W.heap.size+1) (W.alloc (aM #[ah y.ad yn y.cap,ah pl ln cl] 26)) (W.alloc (aM #[ah y.ad yn y.cap,ah pl ln cl] 26))):=aR _ _;simp only at rU;clear ku ka ik hU h0 hr hra hm;go_enter func26,ntmps26;go_wp2_with (first
  | (go_at_call 12;refine(QC _ (eX lV.out)).mono ?_;clear QC;rintro r w2 ⟨rfl,rB⟩;have nN:ax (au (W.heap.size+1) (W.alloc (aM #[ah y.ad yn y.cap,ah pl ln cl] 26)) (w2.alloc (aM #[aa ag 0,aa ag ea] 56))):=NR (oC lV.out rB);obtain⟨⟨u0,u1⟩,_⟩:=nw (bC _) nN.out;clear rB)
  | (go_at_call 23;refine(Ek _ (eX nN.out)).mono ?_;clear Ek;rintro e w8 ⟨⟨v8,rfl,uF⟩,xT⟩;have QH:ax (au W W w8):=eX (oC nN.out xT);obtain⟨p8,c8,rfl,BM⟩:=uF.form;rw[Ca.out];have QK:ax (gj w8 p8 (y::lo)):=BM;clear uF xT BM)
  | (go_at_call 25;refine(rU _ p8 c8 QH.out QK.out).mono ?_;clear rU;rintro rr w9 ⟨p9,c9,rfl,Um,RX,Pc,WW,ZZ⟩;have H9:ax (bI w9 p9 sl/\sl.length<=c9/\(p9=aN->c9=0)/\(∀ b off sp,p9=aO ⟨b,off,sp⟩->W.heap.size<=b)/\au W W w9):=⟨Um,RX,Pc,fun b off sp e=>bc QH.size (ZZ b off sp e),Below.bK QH.out WW⟩;clear Um WW ZZ RX Pc))
 go_ret2;exact⟨p9,c9,by rw[HS.out];rfl,⟨H9.1,by rw[HS.out];exact H9.2.1,H9.2.2.1,H9.2.2.2.1⟩,H9.2.2.2.2⟩
theorem Q3(w:aw)(o1 o2 o3:Obj):au w w (((w.alloc o1).alloc o2).alloc o3)/\(((w.alloc o1).alloc o2).alloc o3).heap[w.heap.size]?=aO o1/\(((w.alloc o1).alloc o2).alloc o3).heap[w.heap.size+1]?=aO o2/\(((w.alloc o1).alloc o2).alloc o3).heap[w.heap.size+1+1]?=aO o3:=by
 have s1:(w.alloc o1).heap.size=w.heap.size+1:=cE w o1;have s2:((w.alloc o1).alloc o2).heap.size=w.heap.size+1+1:=by rw[cE,s1]
 have b1:=(aR _ w).alloc (aV _) o1;have b2:=(aR _ (w.alloc o1)).alloc (aV _) o2;have b3:=(aR _ ((w.alloc o1).alloc o2)).alloc (aV _) o3;refine⟨Below.bK b1 (Below.bK b2 b3),?_,?_,?_⟩
 ·rw[b3.block _ (by omega),b2.block _ (by omega)];exact heap_alloc_last w o1
 ·rw[b3.block _ (by omega),<- s1];exact heap_alloc_last _ o2
 ·rw[<- s2];exact heap_alloc_last _ o3
structure UB (w:aw) (a b:az) (R:aE) (wx:aw):Prop where
 low:au w w wx
 u:wx.heap[w.heap.size]?=aO (aM #[a,b] 26 (0,0))
 r:wx.heap[R]?=aO (aM #[ah aN 0 0,ah aN 0 0] 26 (0,0))
 ne:w<R
variable {a b:az}{R:aE}
theorem UB.on(h:UB w a b R wx)(hB:au wx wx wy):UB w a b R wy:=
 ⟨Below.bK h.low hB,(hB.block _ (aX.1 h.u).1).trans h.u,(hB.block _ (aX.1 h.r).1).trans h.r,h.ne⟩
theorem UB.cells(h:UB w a b R wx):(wx.cell? w=aO a/\wx.cell? ⟨w,1,aN⟩=aO b)/\(wx.cell? R=aO (ah aN 0 0)/\wx.cell? ⟨R,1,aN⟩=aO (ah aN 0 0))/\(wx.frozen? R=aH/\wx.frozen? ⟨R,1,aN⟩=aH)/\(w≠R/\R≠w)/\w.heap.size<wx/\R<wx.heap.size:=by have:=h.ne;refine⟨⟨?_,?_⟩,⟨?_,?_⟩,⟨?_,?_⟩,⟨by omega,by omega⟩,(aX.1 h.u).1,(aX.1 h.r).1⟩<;>simp[World.cell?,World.frozen?,h.u,h.r]
theorem UB.done(h:UB w a b R wx)(v0 v1:az):((((wx.setCell R v0).setCell ⟨R,1,aN⟩ v1).cell? R=aO v0/\((wx.setCell R v0).setCell ⟨R,1,aN⟩ v1).cell? ⟨R,1,aN⟩=aO v1))/\au w w ((wx.setCell R v0).setCell ⟨R,1,aN⟩ v1):=by have h1:=dZ (dZ h.r 0 v0) 1 v1;have:=h.ne;exact⟨by constructor<;>simp[World.cell?,h1],(h.low.setCell (p:=R) (by show _<=R;omega) _).setCell (p:=⟨R,1,aN⟩) (by show _<=R;omega) _⟩
theorem rvDone(a:aC aJ)(k c:aE)(pl:aC aJ)(n cl:aE)(p:aC aJ)(l cp:aE)(w:aw)(de:aF)(wN:de=if 80<l then 5 else 0):ay aP 60 #[ar #[ah a k c,ah pl n cl],ah p l cp] w fun r w'=>∃ p' l' c' q n' d,r=aK (aL #[ar #[ah p' l' c',ah q n' d],aa ag de])/\au w w w'/\ax (l<=80->p'=p/\l'=l/\c'=cp/\q=pl/\n'=n/\d=cl):=by
 subst wN;by_cases h:80<l
 ·rw[aY h]
  exact(GD a k c pl n cl p l cp w h).mono fun r w' ⟨h1,h2⟩=>⟨_,_,_,_,_,_,h1,h2,fun e=>by omega⟩
 ·rw[aW h]
  exact(Jt a k c pl n cl p l cp w (by omega)).mono fun r w' ⟨h1,h2⟩=>⟨_,_,_,_,_,_,h1,h2,fun e=>⟨rfl,rfl,rfl,rfl,rfl,rfl⟩⟩
theorem UB.end(h:UB w a b R wx){ae:aF}{qA:aC aJ}{tK cl':aE}(H:ae=0->(n=up.length/\qA=pl/\tK=ln/\cl'=cl)/\bI wx p up/\n<=c/\(p=aN->c=0)/\∀ b off sp,p=aO ⟨b,off,sp⟩->w.heap.size<=b/\b≠R):Hs ae up pl ln cl w (aK (aL #[ar #[ah p n c,ah qA tK cl'],aa ag ae])) ((wx.setCell R (ah p n c)).setCell ⟨R,1,aN⟩ (ah qA tK cl')):=
 ⟨p,n,c,qA,tK,cl',rfl,(h.done _ _).2,fun e=>by
  obtain⟨⟨h1,h2,h3,h4⟩,h5,h6,h7,h8⟩:=H e;exact⟨h1,h2,h3,h4,vR (vR h5 _ _ (.inr fun b off s e=>(h8 b off s e).2)) _ _ (.inr fun b off s e=>(h8 b off s e).2),h6,h7,fun b off s e=>(h8 b off s e).1⟩⟩
theorem UB.new(w:aw)(a b:az):UB w a b (w.heap.size+1) ((w.alloc (aM #[a,b] 26)).alloc (aM #[ah aN 0 0,ah aN 0 0] 26)):=by
 obtain⟨h1,h2,h3,_⟩:=Q3 w (aM #[a,b] 26) (aM #[ah aN 0 0,ah aN 0 0] 26) (aM #[] 0);have s2:((w.alloc (aM #[a,b] 26)).alloc (aM #[ah aN 0 0,ah aN 0 0] 26)).heap.size=w.heap.size+1+1:=by rw[cE,cE]
 have b3:=(aR _ ((w.alloc (aM #[a,b] 26)).alloc (aM #[ah aN 0 0,ah aN 0 0] 26))).alloc (aV _) (aM #[] 0);exact⟨((aR _ _).alloc (aV _) _).alloc (by simp) _,by rw[<- b3.block _ (by omega)];exact h2,by rw[<- b3.block _ (by omega)];exact h3,by omega⟩
theorem GM(e:bP)(ku:yn=y.es.length)(ka:ln=lo.length)(hU:eZ W y lo pl cl)(h0:(bH (y.es::lo.map (·.es))).1=0)(he:e.bm.size<=1048576)(het:e.text.size<=1048576):ay aP 32 #[ar #[ah y.ad yn y.cap,ah pl ln cl],ar #[ai e.bm, aa ag e.bE, ai e.text, aq e.opq]] W (Hs (dg (bH (y.es::lo.map (·.es))).1 (dW (cO (y.es::lo.map (·.es))) e) (cZ y.es e).length) (cZ y.es e) pl ln cl W):=by
 obtain⟨sn,ik⟩:=ee ((cO (y.es::lo.map (·.es))).length)
 have Gh:=fun X (hX:au W.heap.size W X)=>GN (hU.bB hX) h0 ku ka ik
 have kG:=fun X p c (hL:bI X p (cO (y.es::lo.map (·.es)))) (hc:sn<=c)=>acN _ e p sn c X ik (cY _) hL hc he het
 have Ao:=fun(hz:dW (cO (y.es::lo.map (·.es))) e=0) X (hX:au W W X)=>by have hw:=(zz hz).2.1;have mz:=dX hw;have:=fG mz;have:=(mR h0).2.1.len;exact TI _ y.es e y.ad y.cap X (aV _) (tB (mR h0).2.1) (gM mz) he (tD hw) (by omega) (hU.up.bB hX).anO
 rw[<- ku]at Ao;have HE:ax (dg (bH (y.es::lo.map (·.es))).1 (dW (cO (y.es::lo.map (·.es))) e) (cZ y.es e).length=if(dW (cO (y.es::lo.map (·.es))) e)=0 then(if 80<(cZ y.es e).length then 5 else 0)else dW (cO (y.es::lo.map (·.es))) e):=by show _=_;rw[dg,aY h0]
 generalize dg _ _ _=ch at HE ⊢;generalize cZ y.es e=up at Ao HE ⊢;generalize dW _ e=ae at kG Ao HE;generalize cO _=sl at *;obtain⟨un,nI⟩:=ee up.length
 rw[<- nI]at HE;have U3:ax (un=up.length):=nI;clear ik ku ka hU h0 het nI;obtain⟨ep,ek,et,eo⟩:=e;simp only at kG Ao;go_enter func32,ntmps32;go_upto_region 0 with fail
 go_cut [2,3,4,5]from 2 to 5 (fun s2 s3 s4 s5 wx=>∃ E R,s2=aj (aO W)/\s3=aj (aO ⟨E,0,aN⟩)/\s4=aj (aO ⟨R,0,aN⟩)/\s5=aa ag 0/\ax (UB W (ah y.ad yn y.cap) (ah pl ln cl) R wx/\wx.heap[E]?=aO (aM #[ai ep,aa ag ek,ai et,aq eo] 88 (0,0))/\E≠R))
 case first=>
  go_wp2_with fail;go_meet
  case rel=>obtain⟨b1,b2,b3,b4⟩:=Q3 W _ _ _;exact⟨_,_,rfl,rfl,rfl,rfl,⟨b1,b2,b4,by omega⟩,b3,by omega⟩
 obtain⟨E,R,rfl,rfl,rfl,rfl,HU⟩:=hcut;have HN:ax (E≠R):=HU.2.2;have HR:ax (UB W _ _ R wc/\_):=⟨HU.1,HU.2.1⟩
 clear HU;obtain⟨⟨u0,u1⟩,_⟩:=HR.1.cells;go_wp2_with (first
  | (go_at_call 26;refine(Gh _ HR.1.low).mono ?_;clear Gh;rintro rr w1 ⟨p1,c1,rfl,H1,hN⟩;replace HR:ax (UB W _ _ R w1/\_):=⟨HR.1.on hN,(hN.block _ (aX.1 HR.2).1).trans HR.2⟩;obtain⟨⟨e0,e1,e2,e3⟩,_⟩:=cK HR.2;clear u0 u1 hN)
  | (go_at_call 59;refine(kG _ p1 c1 H1.1 H1.2.1).mono ?_;clear kG;rintro rr w2 ⟨⟨v2,rfl⟩,hN⟩;replace HR:ax (UB W _ _ R w2/\_):=⟨HR.1.on hN,(hN.block _ (aX.1 HR.2).1).trans HR.2⟩;clear e0 e1 e2 e3;obtain⟨⟨e0,e1,e2,e3⟩,_⟩:=cK HR.2;obtain⟨⟨u0,u1⟩,⟨r0,r1⟩,⟨g0,g1⟩,⟨n0,n1⟩,n2,n3⟩:=HR.1.cells;clear hN))
 ·have hz:¬ ae=0:=by simpa using ‹(ae != 0)=aI›
  obtain⟨⟨x0,x1⟩,_⟩:=HR.1.done (ah aN 0 0) (ah aN 0 0);refine ba (v:=aL #[ar #[ah aN 0 0,ah aN 0 0],aa ag ae]) (by simp[results,results32,go_sem,x0,x1]) rfl ?_;rw[HE.out,aW hz];exact HR.1.end fun e=>aG e hz
 have hz:ae=0:=by simpa using ‹(ae != 0)=aH›
 have hs:=Ao hz;obtain⟨de,wN⟩:∃ de:aF,de=if 80<un then 5 else 0:=⟨_,rfl⟩
 have HC:ax (ch=de/\de=if 80<un then 5 else 0):=⟨by rw[HE.out,aY hz,wN],wN⟩
 have HB:ax (UB W _ _ R w2):=HR.1;clear HR HE Ao wN;go_region_with (first
  | (go_at_call 61;refine(hs _ (HB.on (aR _ _).drew).low).mono ?_;clear hs;rintro rr w3 ⟨⟨v3,rfl,yC⟩,hN⟩;obtain⟨p3,c3,rfl,pK,zP,DZ,zf⟩:=qm U3.out yC;have H3:ax (bI w3 p3 up/\un<=c3/\(p3=aN->c3=0)/\∀ b off sp,p3=aO ⟨b,off,sp⟩->W.heap.size<=b/\b≠R):=⟨pK,zP,DZ,fun b off sp e=>(by have:=zf b off sp e;have:=HB.cells.2.2.2.2;have:w2.drew.heap.size=w2.heap.size:=rfl;omega)⟩;replace HB:ax (UB W _ _ R w3):=(HB.on (aR _ _).drew).on hN;clear u0 u1 r0 r1 g0 g1 n2 n3;obtain⟨⟨u0,u1⟩,⟨r0,r1⟩,⟨g0,g1⟩,_,n2,n3⟩:=HB.cells;clear yC pK zP DZ zf hN)
  | (go_at_call 60;refine(rvDone _ _ _ _ _ _ p3 un c3 _ de HC.2).mono ?_;rintro rr w4 ⟨p4,l4,c4,q4,n4,d4,rfl,hN,H4⟩;replace H3:ax _:=fB (H3.1.bB hN) H3.2;replace HB:ax (UB W _ _ R w4):=HB.on hN;clear u0 u1 r0 r1 g0 g1 n2 n3;obtain⟨⟨u0,u1⟩,⟨r0,r1⟩,⟨g0,g1⟩,_,n2,n3⟩:=HB.cells;clear hN))
 all_goals
  go_wp2_with fail;obtain⟨⟨x0,x1⟩,_⟩:=HB.done (ah p4 l4 c4) (ah q4 n4 d4);refine ba (v:=aL #[ar #[ah p4 l4 c4,ah q4 n4 d4],aa ag de]) (by simp[results,results32,go_sem,x0,x1]) rfl ?_;rw[HC.1];exact HB.end fun e=>by obtain⟨rfl,rfl,rfl,rfl,rfl,rfl⟩:=H4.out (by rw[HC.2]at e;split at e<;>omega);exact⟨⟨U3.out,rfl,rfl,rfl⟩,H3.out⟩
end
structure iU (aS B:aE) (s':Sy) (L:ja) (W W':aw):Prop where
 ex:∃ L',cW aS W' B s' L'/\(∀ b,gV B L' b->gV B L b\/W.heap.size<=b)/\L'.ex=L.ex
 low:au aS W W'
 keep:cA (gV B L) W W'
structure oM (aS B:aE) (s':Sy) (L:ja) (W W':aw):Prop where
 ex:∃ L',cW aS W' B s' L'/\(∀ b,gV B L' b->gV B L b\/W.heap.size<=b)/\L'.ex=L.ex/\L'.vd=L.vd
 low:au aS W W'
 keep:cA (gV B L) W W'
theorem oM.post{aS B:aE}{s':Sy}{L:ja}{W W':aw}(h:oM aS B s' L W W'):iU aS B s' L W W':=by obtain⟨⟨L',a,b,c,_⟩,d,e⟩:=h;exact⟨⟨L',a,b,c⟩,d,e⟩
section
variable {aS:aE}{W:aw}{B:aE}{s:Sy}{L:ja}
theorem FB(h:cW aS W B s L)(a b:az)(o:Obj){w3:aw}(hB:au (((W.setCell B a).setCell ⟨B,1,aN⟩ b).alloc o).heap.size (((W.setCell B a).setCell ⟨B,1,aN⟩ b).alloc o) w3):cA (·=B) W w3/\oI w3 B (fun j=>if j=1 then b else if j=0 then a else cellW s L j)/\W.heap.size<=(((W.setCell B a).setCell ⟨B,1,aN⟩ b).alloc o).heap.size/\au aS W w3:=by
 have hs:W.heap.size<=(((W.setCell B a).setCell ⟨B,1,aN⟩ b).alloc o).heap.size:=by simp
 have hK1:cA (·=B) W ((W.setCell B a).setCell ⟨B,1,aN⟩ b):=(cA.set (sp:=(·=B)) rfl W 0 a).trans (cA.set (sp:=(·=B)) rfl _ 1 b);have hA:=((Grown.refl ((W.setCell B a).setCell ⟨B,1,aN⟩ b)).alloc o).below;have gm:B<((W.setCell B a).setCell ⟨B,1,aN⟩ b).heap.size:=aZ h.lt hK1.size;exact⟨hK1.trans ((cA.dB _ hA).trans (cA.dB _ hB)),((h.blk.put 0 a).put 1 b).same ((hB.block B (aZ gm hA.size)).trans (hA.block B gm)),hs,((((aR aS W).setCell (p:=B) h.aS a).setCell (p:=⟨B,1,aN⟩) h.aS b).alloc (by have:=h.aS;have:=h.lt;simp;omega) o).trans (hB.mono (by have:=h.aS;have:=h.lt;omega))⟩
theorem Qi(h:cW aS W B s L){w3:aw}{y:Lay}{lo:aB Lay}{pl:aC aJ}{cl:aE}(hk:cA (·=B) W w3)(hb:oI w3 B (fun j=>if j=1 then ah pl lo.length cl else if j=0 then ah y.ad y.es.length y.cap else cellW s L j))(hl:au aS W w3)(hU:St (yJ B L) W fun Y=>eZ Y y lo pl cl)(hL:bI w3 p (s.di y.es (lo.map (·.es))).bA)(hc:(s.di y.es (lo.map (·.es))).bA.length<=c)(hn:p=aN->c=0)(hw:∀ b off sp,p=aO ⟨b,off,sp⟩->W.heap.size<=b):oM aS B (s.di y.es (lo.map (·.es))) L W (w3.setCell ⟨B,2,aN⟩ (ah p (s.di y.es (lo.map (·.es))).bA.length c)):=by
 have ZV:=cA.set (sp:=(·=B)) rfl w3 2 (ah p (s.di y.es (lo.map (·.es))).bA.length c);have hK:=hk.trans ZV;obtain⟨h1,h2⟩:=h.union (y:=y) (lo:=lo) (pl:=pl) (cl:=cl) (ps:=p) (sc:=c) hK ((hb.put 2 _).as fun i hi=>by
  match i with
  | 0|1|2|3|4=>rfl
  | k+5=>
   show(if k+5=2 then _ else if k+5=1 then _ else if k+5=0 then _ else cellW s L (k+5))=_;rw[aW (by omega),aW (by omega),aW (by omega)];rfl) (fun Y hY=>⟨hU Y ((hK.pw fun b hb=>.inl (.inl hb)).trans hY),bI.st hL (fun b off sp e hb=>by have:=(h.Mz hb).2;have:=hw b off sp e;omega) Y ((ZV.pw fun b hb=>.inl (.inl hb)).trans hY)⟩) hc hn
 exact⟨⟨_,h1,fun b hb=>.inl hb,rfl,rfl⟩,hl.setCell (p:=⟨B,2,aN⟩) h.aS _,h2⟩
theorem AM(h:cW aS W B s L)(y:Lay)(lo:aB Lay)(pl:aC aJ)(cl yn ln:aE)(ku:yn=y.es.length)(ka:ln=lo.length)(hU:St (yJ B L) W fun Y=>eZ Y y lo pl cl)(h0:(bH (y.es::lo.map (·.es))).1=0):ay aP 13 #[aj (aO B),ar #[ah y.ad yn y.cap,ah pl ln cl],aa ag 0] W fun r W'=>r=aK (aa ag 0)/\oM aS B (s.di y.es (lo.map (·.es))) L W W':=by
 have KR:B<W.heap.size:=h.lt;obtain⟨c0,c1,_⟩:=h.cells;have f0:=h.EW 0;have f1:=h.EW 1;obtain⟨sn,ik⟩:=ee ((cO (y.es::lo.map (·.es))).length)
 have Gh:∀ V,eZ V y lo pl cl->ay aP 26 #[ar #[ah y.ad yn y.cap,ah pl ln cl]] V (WK sn (cO (y.es::lo.map (·.es))) V):=fun V hV=>GN hV h0 ku ka ik
 have HH:ax (cW aS W B s L/\St (yJ B L) W (fun Y=>eZ Y y lo pl cl)/\yn=y.es.length/\ln=lo.length/\sn=(cO (y.es::lo.map (·.es))).length):=⟨h,hU,ku,ka,ik⟩
 have a0:=fun o=>bj o c0
 have a1:=fun o=>bj o c1
 have e0:=fun o=>(AQ (w:=W) o B 0 KR).trans f0
 have e1:=fun o=>(AQ (w:=W) o B 1 KR).trans f1
 have n1:B≠W.heap.size:=by omega
 have n2:W≠B:=by omega
 clear h ku ka ik hU h0;go_enter func13,ntmps13;go_wp2_with (first
  | (go_at_call 26;refine(Gh _ (HH.2.1 _ ((FB HH.1 _ _ _ (aR _ _)).1.pw fun b hb=>.inl (.inl hb)))).mono ?_;clear Gh;rintro r w3 ⟨p,c,rfl,H3,eG⟩;have HM:ax _:=FB HH.1 _ _ _ eG;have g2:=HM.2.1.cell (i:=2) (by decide);have g3:=HM.2.1.EW 2;clear eG)
  | fail)
 go_ret;obtain⟨h,hU,rfl,rfl,rfl⟩:=HH.out;exact⟨rfl,Qi h HM.1 HM.2.1 HM.2.2.2 hU H3.1 H3.2.1 H3.2.2.1 fun b off sp e=>bc HM.2.2.1 (H3.2.2.2 b off sp e)⟩
end
section
variable {aS:aE}{W:aw}{B:aE}{s:Sy}{L:ja}
def PM.Sy.sV(s:Sy)(o:aE):aF:=if s.eF o<0 then 8 else s.eF o
theorem CP(h:s.fds k=aN):DT s k = -1:=by unfold DT;rw[h]
theorem mI(h:s.fds k=aO j):DT s k=(j:aF):=by unfold DT;rw[h]
theorem yu(h:cW aS W B s L)(o:aE)(ho:o<4):ay aP 54 #[aj (aO B),aa ag o] W fun r W'=>r=aK (aa ag (s.sV o))/\W'=W:=by
 have HS:ax (cW aS W B s L):=h;have zg:(o:aF)<4:=by omega
 clear h;generalize hR:s.sV o=R;have HR:ax (s.sV o=R):=hR;clear hR;go_enter func54,ntmps54;go_wp2;go_loopg [5] 8 (fun gg s7 wr=>∃ k:aE,k<=8/\8-k<=gg/\s7=aa ag k/\wr=W/\ax (∀ j,j<k->¬ s.fds (o*8+j)=aN))
 case atStart=>exact⟨0,bF _,by omega,rfl,rfl,fun j hj=>aG hj (by omega)⟩
 case round=>
  obtain⟨k,hk,oP,rfl,rfl,HA⟩:=hrel;by_cases gm:k<8
  ·have eN:(k:aF)<8:=by omega
   have c0:wr.cell? ⟨B,5+o*8+k,aN⟩=aO (aa ag (DT s (o*8+k))):=by rw[dh 5];exact HS.fd (by omega)
   cases hf:s.fds (o*8+k)with
   | none=>
    rw[CP hf]at c0;have HZ:ax (R=k):=by show R=k;have:=ET gm hf HA.out;rw[<- HR.out,Sy.sV,this,aW (by omega)]
    go_wp2;go_ret;exact⟨by rw[HZ.out];rfl,rfl⟩
   | some j=>
    rw[mI hf]at c0;have hj0:(0:aF)<=(j:aF):=by omega
    go_wp2;go_roundg (8-(k+1))
    case measure=>omega
    case rel=>exact⟨k+1,by omega,by omega,by go_num,rfl,fun i hi=>by
     by_cases e:i=k
     ·rw[e,hf];simp
     ·exact HA.out i (by omega)⟩
  ·have eN:¬ (k:aF)<8:=by omega
   obtain rfl:k=8:=by omega
   have HZ:ax (R=8):=by show R=8;have:=ES (s:=s) (o:=o) HA.out;rw[<- HR.out,Sy.sV,this,aY (by omega)]
   go_wp2;go_ret;exact⟨by rw[HZ.out];rfl,rfl⟩
end
theorem Ed(t:aB bP)(q:aA)(p:aC aJ)(n cap:aE)(W:aw)(hn:n=t.length)(hL:bI W p t)(hr:du aH t)(e:bP)(b:Bool)(he:(bW t q).getD cR=e)(hb:(bW t q).isSome=b):ay aP 31 #[ah p n cap,ai q] W fun r w'=>r=aK (aL #[ar #[ai e.bm, aa ag e.bE, ai e.text, aq e.opq],aq b])/\au W W w':=by subst hn;exact ij t q p cap W hL (by have:=hr.len;omega) e b he hb
theorem Th(t:aA)(W:aw)(ht:t.size<=1048576):ay aP 58 #[ai t] W (eW W (en t).1 (en t).2):=GF t W (by omega)
theorem ae0(t:aA)(W:aw)(ht:t.size<=1048576):ay aP 51 #[ai t] W fun e w'=>(∃ d n:aA,e=aK (aL #[ai d,ai n])/\d.data.toList=bU t)/\au W W w':=
 (Dy t W (by omega)).mono fun e w' ⟨⟨d,n,h1,h2,_⟩,h3⟩=>⟨⟨d,n,h1,h2⟩,below_draws h3⟩
def XU(er:aF)(nm:aB (aB UInt8))(W:aw)(r:Ending)(w':aw):Prop:=∃ (p:aC aJ) (k c:aE) (bs:aB aA),r=aK (aL #[ah p k c,aa ag er])/\au W W w'/\ax (k=bs.length/\bs.map (·.data.toList)=nm/\k<=c/\(p=aN->c=0)/\jy w' p bs/\∀ b off sp,p=aO ⟨b,off,sp⟩->W.heap.size<=b)
theorem acz(t:aB bP)(q:aA)(p:aC aJ)(n cap:aE)(W:aw)(hn:n=t.length)(hL:bI W p t)(hr:du aH t):ay aP 37 #[ah p n cap,ai q] W (XU (l7 t q).2 (l7 t q).1 W):=by
 subst hn;refine(Ju t q p cap W hL (fun e he=>by have:=o4 hr he;omega) (by have:=hr.len;omega)).mono fun r w' h=>?_
 obtain⟨⟨v,bs,rfl,hS,hl⟩,hB⟩:=h;obtain⟨p,c,rfl,h1,h2,h3,h4⟩:=hS.yZ;exact⟨p,bs.length,c,bs,rfl,hB,rfl,hl,h2,h3,h1,h4⟩
section
variable {aS:aE}{W:aw}{B:aE}{s:Sy}{L:ja}
theorem cW.obj(h:cW aS W B s L)(hf:s.bh[i]?=aO f):∃ g c x,L.vo=ah (aO ⟨g,0,aN⟩) s.bh.length c/\L.ov[i]?=aO x/\g<W.heap.size/\W.cell? ⟨g,i*3,aN⟩=aO (ai f.bm)/\W.cell? ⟨g,i*3+1,aN⟩=aO (ai f.text)/\W.cell? ⟨g,i*3+2,aN⟩=aO (ah x.p f.b9.length x.c)/\(∀ j,W.frozen? ⟨g,j,aN⟩=aH)/\x.bm=f.bm/\x.text=f.text/\x.k=f.b9.length/\LK.bI W x.p f.b9/\f.b9.length<=x.c/\(x.p=aN->x.c=0):=by obtain⟨x,hx,e1,e2,e3,e4,e5,e6⟩:=h.data.now.b9 i f hf;have ho:=h.objs;rw[<- h.num]at ho;obtain⟨g,c,hv,hg,_,hc,hz⟩:=acL WN ho hx;rw[h.num]at hv;exact⟨g,c,x,hv,hx,hg,by rw[<- e1];exact hc 0 _ rfl,by rw[<- e2];exact hc 1 _ rfl,by rw[<- e3];exact hc 2 _ rfl,hz,e1,e2,e3,e4,by rw[<- e3];exact e5,e6⟩
theorem kN(h:cW aS W B s L)(i:aE)(f:Fl)(hf:s.bh[i]?=aO f)(iL:s.bh.length<1000000):ay aP 55 #[aj (aO B),aa ag i] W fun r W'=>r=aK (ai (s.cQ f))/\au W W W':=by
 obtain⟨g,c,x,hv,hx,hg,p0,p1,p2,_⟩:=h.obj hf;obtain⟨_,_,c2,c3,_⟩:=h.cells;rw[hv]at c3;have hi:i<s.bh.length:=(aQ.1 hf).1;have KR:=h.lt;obtain⟨n,hn⟩:=ee s.bh.length
 obtain⟨sn,ik⟩:∃ n,n=s.bA.length:=⟨_,rfl⟩
 rw[<- hn]at c3 hi iL;rw[<- ik]at c2;have mq:(i:aF)<(n:aF):=by omega
 by_cases h0:f.bm.data.toList=[]
 ·have ht:s.cQ f=f.text:=by unfold Sy.cQ;rw[aY h0]
  have hp:f.bm=⟨#[]⟩:=fV h0;rw[ht];rw[hp]at p0;clear h hv hx hf hn ik ht hp h0;go_enter func55,ntmps55;go_wp2;go_ret;exact⟨rfl,aR _ _⟩
 ·have ht:s.cQ f=((bW s.bA f.bm).getD cR).text:=by unfold Sy.cQ;rw[aW h0]
  rw[ht];have gI:=fun Y (hY:au W.heap.size W Y)=>Ed s.bA f.bm L.ps sn L.sc Y ik ((h.data.now.bA).bB hY) (cY s.all) ((bW s.bA f.bm).getD cR) (bW s.bA f.bm).isSome rfl rfl
  have he:f.bm.toList.isEmpty=aH:=by rw[bq];simpa using h0
  generalize (bW s.bA f.bm).getD cR=e at gI ⊢;generalize (bW s.bA f.bm).isSome=b at gI;generalize f.bm=q at gI p0 he;obtain⟨ep,ek,et,eo⟩:=e;have n0:=World.new_ne W ⟨B,1+1,aN⟩ c2;have n1:=World.new_ne W ⟨B,3,aN⟩ c3;have n2:=World.new_ne W ⟨g,i*3,aN⟩ p0;clear h hv hx hf hn ik ht h0;go_enter func55,ntmps55;go_wp2_with fail;go_region_held3 (fun w'=>w'.cell? ⟨B,2,aN⟩=aO (ah L.ps sn L.sc)/\w'.cell? ⟨B,3,aN⟩=aO (ah (aO g) n c)/\w'.cell? ⟨g,i*3,aN⟩=aO (ai q)) (go_keep) (first
   | (go_at_call 31;refine(gI _ (aR _ _).drew).mono ?_;clear gI;rintro r w4 ⟨rfl,eO⟩;have fA:au W W w4:=((aR _ _).drew).trans eO;have z0:=(fA.cell (p:=⟨B,2,aN⟩) KR).trans c2;have z1:=(fA.cell (p:=⟨B,3,aN⟩) KR).trans c3;have z2:=(fA.cell (p:=⟨g,i*3,aN⟩) hg).trans p0;have Yh:True:=trivial)
   | (go_at_call 31;refine(gI _ (((aR _ _).alloc (aV _) _).drew)).mono ?_;clear gI;rintro r w4 ⟨rfl,eO⟩;have fA:au W W w4:=(((aR _ _).alloc (aV _) _).drew).trans (eO.mono (by rw[show ∀ o,(W.alloc o).drew.heap.size=W.heap.size+1 from fun o=>cE W o];omega));have z0:=(fA.cell (p:=⟨B,2,aN⟩) KR).trans c2;have z1:=(fA.cell (p:=⟨B,3,aN⟩) KR).trans c3;have z2:=(fA.cell (p:=⟨g,i*3,aN⟩) hg).trans p0;have hN7:w4.heap[W.heap.size]?=aO (aM #[ai ⟨#[]⟩,aa ag 0,ai ⟨#[]⟩,aq aH] 88):=(eO.block W (by rw[show ∀ o,(W.alloc o).drew.heap.size=W.heap.size+1 from fun o=>cE W o];omega)).trans (heap_alloc_last W _);obtain⟨⟨x0,x1,x2,x3⟩,y0,y1,y2,y3⟩:=cK hN7;clear hN7))
  all_goals (clear eO)
  all_goals have HB:ax (au W W w4):=fA
  all_goals go_wp2
  all_goals go_ret
  ·exact⟨rfl,HB.alloc HB.size _⟩
  ·exact⟨rfl,(((HB.setCell (p:=W) (aV _) _).setCell (p:=⟨W,1,aN⟩) (aV _) _).setCell (p:=⟨W,2,aN⟩) (aV _) _).setCell (p:=⟨W,3,aN⟩) (aV _) _⟩
end
section
variable {aS:aE}{W:aw}{B:aE}{s:Sy}{L:ja}
theorem TX(h:cW aS W B s L)(hL:bI W p up)(hc:up.length<=c)(hn:p=aN->c=0)(hf:∀ b off sp,p=aO ⟨b,off,sp⟩->¬ yJ B L b)(hr:du aI up):St (yJ B L) W fun Y=>eZ Y ⟨p,c,up⟩ L.lo L.pl L.cl:=fun Y hY=>by have hu:=(h.data Y hY).un;exact⟨⟨bI.st hL hf Y hY,fun e he=>by have:=o4 hr he;unfold maxLen;omega,hc,by have:=hr.len;show up.length<_;omega⟩,hn,hu.anO,hu.each,hu.nil,hu.cap⟩
theorem T4(u1 u2:aC aJ)(k1 k2 z1 z2:aE)(ae:aF)(hne:¬ ae=0):ay aP 13 #[aj (aO B),ar #[ah u1 k1 z1,ah u2 k2 z2],aa ag ae] W fun r W'=>r=aK (aa ag ae)/\au W W W':=by
 have h1:(ae == 0)=aH:=by simpa using hne
 have h2:decide (ae=0)=aH:=by simpa using hne
 go_enter func13,ntmps13;go_wp2_with fail;go_ret;exact⟨rfl,((Grown.refl W).alloc _).below⟩
theorem wY(h:cW aS W B s L){ae:aF}{qA:aC aJ}{tK cl':aE}(hB:au W W X)(H:ae=0->n=up.length/\qA=L.pl/\tK=L.lo.length/\cl'=L.cl/\bI X p up/\n<=c/\(p=aN->c=0)/\∀ b off sp,p=aO ⟨b,off,sp⟩->W.heap.size<=b)(h0:ae=0->(bH (up::s.cq)).1=0):ay aP 13 #[aj (aO B),ar #[ah p n c,ah qA tK cl'],aa ag ae] X fun r W'=>r=aK (aa ag ae)/\oM aS B (if ae=0 then s.di up s.cq else s) L W W':=by
 have hX:=h.bB hB;have Vw:au aS W X:=hB.mono (bc h.aS (bM h.lt));by_cases hz:ae=0
 ·subst hz
  obtain⟨rfl,rfl,rfl,rfl,e1,e2,e3,e4⟩:=H rfl;have hw:=h0 rfl;have hr:du aI up:=(gT.1 hw).2.2 up (by simp);have:=AM hX ⟨p,c,up⟩ L.lo L.pl L.cl up.length L.lo.length rfl rfl (TX hX e1 e2 e3 (fun b off sp e hb=>by have:=(h.Mz hb).2;have:=e4 b off sp e;omega) hr) (by rw[h.low];exact hw);refine this.mono fun r W' ⟨hr,hp⟩=>⟨hr,?_⟩
  rw[aY rfl,<- h.low];obtain⟨⟨L',g1,g2,g5,g6⟩,g3,g4⟩:=hp;exact⟨⟨L',g1,fun b hb=>(g2 b hb).imp id (fun e=>bc hB.size e),g5,g6⟩,Vw.trans g3,(cA.dB _ hB).trans g4⟩
 ·refine(T4 p qA n tK c cl' ae hz).mono fun r W' ⟨hr,hp⟩=>⟨hr,?_⟩
  rw[aW hz];exact⟨⟨L,hX.bB hp,fun b hb=>.inl hb,rfl,rfl⟩,Vw.trans (hp.mono (bc (bc h.aS (bM h.lt)) hB.size)),(cA.dB _ hB).trans (cA.dB _ hp)⟩
end
section
variable {aS:aE}{W:aw}{B:aE}{s:Sy}{L:ja}
theorem iU.refl(h:cW aS W B s L)(hB:au W W X):iU aS B s L W X:=⟨⟨L,h.bB hB,fun b hb=>.inl hb,rfl⟩,hB.mono (bc h.aS (bM h.lt)),cA.dB _ hB⟩
theorem oM.refl(h:cW aS W B s L)(hB:au W W X):oM aS B s L W X:=⟨⟨L,h.bB hB,fun b hb=>.inl hb,rfl,rfl⟩,hB.mono (bc h.aS (bM h.lt)),cA.dB _ hB⟩
theorem MT(h:cW aS W B s L)(hf:s.bh[i]?=aO f){g:aE}(hv:L.vo=ah (aO g) s.bh.length c)(t:aA):oM aS B (s.dQ i { f with text:=t }) L W (W.setCell ⟨g,i*3+1,aN⟩ (ai t)):=by obtain⟨_,_,x,yE,hx,_,_,_,_,_,e1,e2,e3,e4,e5,e6⟩:=h.obj hf;obtain⟨k1,k2⟩:=h.Ba (y:={ x with text:=t }) hx hv (j:=1) (v:=ai t) (by decide) rfl;obtain⟨g1,g2⟩:=h.cM (f':={ f with text:=t }) k2 k1 e1 rfl e3 (fun Y hY=>by obtain⟨x',Ph,_,_,_,hl,_⟩:=(h.data Y hY).b9 i f hf;rw[hx]at Ph;cases Ph;exact hl) (by rw[e3];exact e5) e6;refine⟨⟨_,g1,fun b hb=>.inl hb,rfl,rfl⟩,(aR aS W).setCell (p:=⟨g,i*3+1,aN⟩) ?_ _,g2⟩;exact(h.objs.lt g (by rw[hv];rfl)).1
theorem FA(h:cW aS W B s L)(i:aE)(f:Fl)(hf:s.bh[i]?=aO f)(iL:s.bh.length<1000000)(h0:(bH s.all).1=0)(hp:f.bm.size<=1048576)(t:aA)(ht:t.size<=1048576):ay aP 57 #[aj (aO B),aa ag i,ai t] W fun r W'=>r=aK (aa ag (s.eh f t))/\oM aS B (if s.eh f t=0 then s.eT i f t else s) L W W':=by
 obtain⟨g,c,x,hv,hx,hg,p0,p1,p2,Nr,_⟩:=h.obj hf;obtain⟨c0,c1,_,c3,_⟩:=h.cells;rw[hv]at c3;have hi:i<s.bh.length:=(aQ.1 hf).1;have KR:=h.lt;have f1:=Nr (i*3+1);obtain⟨n,hn⟩:=ee s.bh.length
 rw[<- hn]at c3 hi iL;have mq:(i:aF)<(n:aF):=by omega
 by_cases hq:f.bm.data.toList=[]
 ·have BU:f.bm=⟨#[]⟩:=fV hq
  have hk:s.eh f t=0:=by unfold Sy.eh;simp[hq]
  have hd:s.eT i f t=s.dQ i { f with text:=t }:=by
   unfold Sy.eT;split
   ·rename_i e
    have lz:s.cQ f=f.text:=by unfold Sy.cQ;rw[aY hq]
    rw[lz]at e;have:t=f.text:=fV e;subst this;show s={ s with bh:=s.bh.set i f }
    rw[show s.bh.set i f=s.bh by obtain⟨gm,e⟩:=aQ.1 hf;rw[<- e];exact Cz gm]
   ·simp
  rw[hk,aY rfl,hd];have HW:ax (oM aS B (s.dQ i { f with text:=t }) L W (W.setCell ⟨g,i*3+1,aN⟩ (ai t))):=MT h hf hv t;rw[BU]at p0;clear h hv hx hf hn hk hd BU hq Nr;go_enter func57,ntmps57;go_wp2;go_ret;exact⟨rfl,HW.out⟩
 ·have lz:=kN h i f hf (by omega)
  have he:f.bm.toList.isEmpty=aH:=by rw[bq];simpa using hq
  by_cases hs:t.data.toList=(s.cQ f).data.toList
  ·have hk:s.eh f t=0:=by unfold Sy.eh;rw[aY hs]
   have hd:s.eT i f t=s:=by unfold Sy.eT;rw[aY hs]
   have hts:s.cQ f=t:=fV hs.symm;rw[hk,aY rfl,hd];rw[hts]at lz;have HH:ax (cW aS W B s L):=h;generalize f.bm=q at p0 he;clear h hv hx hf hn hk hd hq hs hts Nr;go_enter func57,ntmps57;go_wp2_with (first|(go_at_call 55;refine lz.mono ?_;clear lz;rintro r w3 ⟨rfl,eG⟩)|fail);go_ret;exact⟨rfl,oM.refl HH.out eG⟩
  ·have hne:(t.toList == (s.cQ f).toList)=aH:=by rw[bq,bq];simpa using hs
   obtain⟨yn,ku⟩:∃ n,n=L.y.es.length:=⟨_,rfl⟩
   obtain⟨ln,ka⟩:∃ n,n=L.lo.length:=⟨_,rfl⟩
   have rh:=fun Y (hY:au W.heap.size W Y)=>GM (W:=Y) (pl:=L.pl) (cl:=L.cl) ⟨f.bm,1,t,aH⟩ ku ka ((h.data.now.un).bB hY) (by rw[h.up,h.low];exact h0) hp ht
   rw[h.up,h.low]at rh;have hk:s.eh f t=dg (bH (s.up::s.cq)).1 (dW (cO (s.up::s.cq)) ⟨f.bm,1,t,aH⟩) (cZ s.up ⟨f.bm,1,t,aH⟩).length:=by unfold Sy.eh;rw[aW hs,aW hq];rfl
   have hd:s.eT i f t=s.di (cZ s.up ⟨f.bm,1,t,aH⟩) s.cq:=by unfold Sy.eT;rw[aW hs,aW hq]
   rw[<- hk]at rh;have hw:s.eh f t=0->(bH (cZ s.up ⟨f.bm,1,t,aH⟩::s.cq)).1=0:=fun e=>(oB (by rw[<- hk];exact e)).1
   rw[hd];have HH:ax (cW aS W B s L/\ln=L.lo.length/\(s.eh f t=0->(bH (cZ s.up ⟨f.bm,1,t,aH⟩::s.cq)).1=0)):=⟨h,ka,hw⟩
   rw[<- ku]at c0;rw[<- ka]at c1;generalize s.eh f t=ae at rh HH ⊢;generalize cZ s.up ⟨f.bm,1,t,aH⟩=up at rh HH ⊢;generalize s.cQ f=tx at lz hne;generalize f.bm=q at p0 he rh;generalize UD:(if ae=0 then s.di up s.cq else s)=s';have HS:ax ((if ae=0 then s.di up s.cq else s)=s'):=UD;clear UD;clear h hv hx hf hn hk hd hq hs Nr ku ka hw hp ht h0;go_enter func57,ntmps57;go_wp2_with (first|(go_at_call 55;refine lz.mono ?_;clear lz;rintro r w3 ⟨rfl,eG⟩;have mm:ax (au W W w3):=eG;have c0:=(eG.cell (p:=B) KR).trans c0;have c1:=(eG.cell (p:=⟨B,1,aN⟩) KR).trans c1;have c3:=(eG.cell (p:=⟨B,3,aN⟩) KR).trans c3;have p0:=(eG.cell (p:=⟨g,i*3,aN⟩) hg).trans p0;clear eG)|fail);go_region_with (first
    | (go_at_call 32;refine(rh _ mm.drew).mono ?_;clear rh;rintro r w4 ⟨p,n4,c4,vp,vk,ve,rfl,eO,H4⟩;have kT:ax (au W W w4):=Below.bK mm.drew eO;clear eO)
    | (go_at_call 13;refine(wY HH.1 kT.out (fun e=>by obtain⟨a1,a2,a3,a4,a5,a6,a7,a8⟩:=H4.out e;exact⟨a1,a2,a3.trans HH.2.1,a4,a5,a6,a7,fun b off sp e=>bc mm.size (a8 b off sp e)⟩) HH.2.2).mono ?_;rintro r w5 ⟨rfl,D1⟩;rw[HS.out]at D1)
    | fail)
   all_goals
    go_wp2;go_ret;exact⟨rfl,D1⟩
end
section
variable {aS:aE}{W X Y:aw}{B:aE}{s s1 s2:Sy}{L:ja}
theorem iU.trans(h1:iU aS B s1 L W X)(h2:∀ L',cW aS X B s1 L'->iU aS B s2 L' X Y):iU aS B s2 L W Y:=by obtain⟨⟨L1,a1,a2,a5⟩,a3,a4⟩:=h1;obtain⟨⟨L2,b1,b2,b5⟩,b3,b4⟩:=h2 L1 a1;exact⟨⟨L2,b1,fun b hb=>(b2 b hb).elim (fun e=>a2 b e) (fun e=>.inr (bc a4.size e)),b5.trans a5⟩,a3.trans b3,⟨bc a4.size b4.size,fun b hb hn=>(b4.block b (aZ hb a4.size) (fun e=>(a2 b e).elim hn (fun e=>by omega))).trans (a4.block b hb hn)⟩⟩
theorem iU.on{L1:ja}(a1:cW aS X B s1 L1)(a2:(∀ b,gV B L1 b->gV B L b\/W.heap.size<=b)/\L1.ex=L.ex)(a3:au aS W X)(a4:cA (gV B L) W X)(h2:iU aS B s2 L1 X Y):iU aS B s2 L W Y:=by obtain⟨⟨L2,b1,b2,b5⟩,b3,b4⟩:=h2;obtain⟨a2,a5⟩:=a2;exact⟨⟨L2,b1,fun b hb=>(b2 b hb).elim (fun e=>a2 b e) (fun e=>.inr (bc a4.size e)),b5.trans a5⟩,a3.trans b3,⟨bc a4.size b4.size,fun b hb hn=>(b4.block b (aZ hb a4.size) (fun e=>(a2 b e).elim hn (fun e=>by omega))).trans (a4.block b hb hn)⟩⟩
theorem MO(h:cW aS W B s L)(hf:s.bh[i]?=aO f){g:aE}(hv:L.vo=ah (aO g) s.bh.length c)(t:aA):iU aS B (s.dQ i ⟨⟨#[]⟩,t,f.b9⟩) L W ((W.setCell ⟨g,i*3+1,aN⟩ (ai t)).setCell ⟨g,i*3,aN⟩ (ai ⟨#[]⟩)):=by
 have hi:=(aQ.1 hf).1;obtain⟨_,_,x,yE,hx,_,_,_,_,_,e1,e2,e3,e4,e5,e6⟩:=h.obj hf;have kQ:∀ Y,cA (yJ B L) W Y->LK.bI Y x.p f.b9:=fun Y hY=>by obtain⟨x',Ph,_,_,_,hl,_⟩:=(h.data Y hY).b9 i f hf;rw[hx]at Ph;cases Ph;exact hl
 obtain⟨k1,k2⟩:=h.Ba (y:={ x with text:=t }) hx hv (j:=1) (v:=ai t) (by decide) rfl;obtain⟨g1,g2⟩:=h.cM (f':={ f with text:=t }) k2 k1 e1 rfl e3 kQ (by rw[e3];exact e5) e6;have tJ:(L.ov.set i { x with text:=t })[i]?=aO { x with text:=t }:=jt (by rw[h.num];exact hi);have hv1:L.vo=ah (aO g) (s.dQ i { f with text:=t }).bh.length c:=by rw[hv];simp[Sy.dQ]
 obtain⟨l1,l2⟩:=g1.Ba (y:={ x with text:=t,bm:=⟨#[]⟩ }) tJ hv1 (j:=0) (v:=ai ⟨#[]⟩) (by decide) rfl;obtain⟨m1,m2⟩:=g1.cM (f':=⟨⟨#[]⟩,t,f.b9⟩) l2 l1 rfl rfl e3 (fun Y hY=>kQ Y ((g2.pw fun b hb=>.inl hb).trans hY)) (by show x.k<=x.c;rw[e3];exact e5) e6;have he:(s.dQ i { f with text:=t }).dQ i ⟨⟨#[]⟩,t,f.b9⟩=s.dQ i ⟨⟨#[]⟩,t,f.b9⟩:=by simp[Sy.dQ,List.set_set]
 rw[he]at m1;have hb:=(h.objs.lt g (by rw[hv];rfl)).1;exact⟨⟨_,m1,fun b hb=>.inl hb,rfl⟩,((aR aS W).setCell (p:=⟨g,i*3+1,aN⟩) hb _).setCell (p:=⟨g,i*3,aN⟩) hb _,g2.trans m2⟩
def PM.Sy.iZ(s:Sy)(q:aA)(k:aE):Sy:={ s with bh:=s.bh.mapIdx fun i f=>if i<k then s.oG q f else f }
theorem Ci(hf:s.bh[k]?=aO f):(s.iZ q k).bh[k]?=aO f:=by show(s.bh.mapIdx _)[k]?=_;rw[bO,hf];simp
theorem OP(q:aA):s.iZ q 0=s:=by
 unfold Sy.iZ;have:(s.bh.mapIdx fun i f=>if i<0 then s.oG q f else f)=s.bh:=by apply dz;intro i;rw[bO];cases s.bh[i]?<;>simp
 rw[this]
theorem EZ(hf:s.bh[k]?=aO f):s.iZ q (k+1)=(s.iZ q k).dQ k (s.oG q f):=by
 unfold Sy.iZ Sy.dQ;congr 1;apply dz;intro i;simp only;rw[bO,eR];by_cases e:k=i
 ·subst e
  have hl:=(aQ.1 hf).1;rw[aY rfl,aY (by simpa using hl),hf];simp
 ·rw[aW e,bO]
  cases h:s.bh[i]? with
  | none=>rfl
  | some x=>
   simp only[dF];by_cases hi:i<k
   ·rw[aY hi,aY (by omega)]
   ·rw[aW hi,aW (by omega)]
theorem ZS(q:aA)(k:aE)(f:Fl):(s.iZ q k).cQ f=s.cQ f:=rfl
theorem yv(h:cW aS W B s L)(q:aA)(iL:s.bh.length<1000000):ay aP 34 #[aj (aO B),ai q] W fun r W'=>r=aK (aL #[])/\iU aS B (s.iZ q s.bh.length) L W W':=by
 obtain⟨_,_,_,c3,_⟩:=h.cells;have KR:=h.lt;have HH:ax (cW aS W B s L):=h;obtain⟨n,hn⟩:=ee s.bh.length
 obtain⟨po,co,hv⟩:∃ po co,L.vo=ah po n co:=by
  rcases h.objs.2 with⟨e,e0⟩|⟨g,c,eI,e,_⟩
  ·exact⟨aN,0,by rw[e,hn,e0]⟩
  ·exact⟨_,_,by rw[e,hn]⟩
 have HN:ax (n=s.bh.length):=hn;rw[hv]at c3;rw[<- hn]at iL ⊢;clear h hn hv;go_enter func34,ntmps34;go_wp2;go_loopg [10] n (fun gg s7 wr=>∃ k:aE,k<=n/\n-k<=gg/\s7=aa ag k/\ax (iU aS B (s.iZ q k) L W wr))
 case atStart=>exact⟨0,bF _,by omega,rfl,by rw[OP];exact iU.refl HH.out (aR _ _)⟩
 case round=>
  obtain⟨k,hk,oP,rfl,HI⟩:=hrel;by_cases gm:k<n
  ·have eN:(k:aF)<(n:aF):=by omega
   obtain⟨f,hf⟩:∃ f,s.bh[k]?=aO f:=⟨_,aU (by have:=HN.out;omega)⟩
   obtain⟨L1,h1,xu⟩:=HI.ex;have hlen:(s.iZ q k).bh.length=n:=by rw[HN.out];simp[Sy.iZ]
   obtain⟨g,c,x,hv,hx,hg,p0,p1,p2,Nr,_⟩:=h1.obj (Ci hf);obtain⟨_,_,_,d3,_⟩:=h1.cells;rw[hv,hlen]at d3;have xq:=h1.lt;have f1:=Nr (k*3+1);have f0:=Nr (k*3);have lz:=fun Y (hY:au wr.heap.size wr Y)=>kN (h1.bB hY) k f (Ci hf) (by omega)
   simp only[ZS]at lz;by_cases hq:f.bm.data.toList=q.data.toList
   ·have rb:f.bm=q:=fV hq
    have hrel:s.oG q f=⟨⟨#[]⟩,s.cQ f,f.b9⟩:=by unfold Sy.oG;rw[aY hq]
    have HW:ax (∀ Y,au wr wr Y->iU aS B (s.iZ q (k+1)) L W ((Y.setCell ⟨g,k*3+1,aN⟩ (ai (s.cQ f))).setCell ⟨g,k*3,aN⟩ (ai ⟨#[]⟩))):=fun Y hY=>by rw[EZ hf,hrel];exact iU.on h1 xu HI.low HI.keep (iU.on (h1.bB hY) ⟨fun b hb=>.inl hb,rfl⟩ (hY.mono (bc h1.aS (bM h1.lt))) (cA.dB _ hY) (MO (h1.bB hY) (Ci hf) hv (s.cQ f)))
    have hgB:g≠B:=h1.rJ (.inl (by rw[hv];rfl));have hBg:B≠g:=fun e=>hgB e.symm
    rw[rb]at p0;generalize s.cQ f=tx at lz HW;generalize f.text=ft at p1;clear h1 xu hv hx hf hrel rb hq Nr p2 hlen;have n0:=World.new_ne wr ⟨B,3,aN⟩ d3;go_wp2_with fail;go_region_held3 (fun w'=>w'.cell? ⟨B,3,aN⟩=aO (ah (aO g) n c)) (go_keep) (first
     | (go_at_call 55;refine(lz _ (aR _ _).drew).mono ?_;clear lz;rintro r w4 ⟨rfl,eO⟩;have fA:au wr wr w4:=((aR _ _).drew).trans eO;have z0:=(fA.cell (p:=⟨B,3,aN⟩) xq).trans d3;have z1:=(fA.cell (p:=⟨g,k*3+1,aN⟩) hg).trans p1;have z2:=(fA.cell (p:=⟨g,k*3,aN⟩) hg).trans p0;have y1:w4.frozen? ⟨g,k*3+1,aN⟩=aH:=(dU (fA.block g hg)).trans f1;have y0:w4.frozen? ⟨g,k*3,aN⟩=aH:=(dU (fA.block g hg)).trans f0;have HZ:ax _:=HW.out _ fA;clear eO fA)
     | fail)
    go_wp2;go_roundg (n-(k+1))
    case measure=>omega
    case rel=>exact⟨k+1,by omega,by omega,by go_num,HZ.out⟩
   ·have hne:(f.bm.toList == q.toList)=aH:=by rw[bq,bq];simpa using hq
    have HW:ax (iU aS B (s.iZ q (k+1)) L W wr):=by
     show iU _ _ _ _ _ _;rw[EZ hf,show s.oG q f=f by unfold Sy.oG;rw[aW hq]];rw[show(s.iZ q k).dQ k f=s.iZ q k by
      unfold Sy.dQ;obtain⟨gm,e⟩:=aQ.1 (Ci (q:=q) hf);rw[show(s.iZ q k).bh.set k f=(s.iZ q k).bh by rw[<- e];exact Cz gm]]
     exact HI.out
    generalize f.bm=fp at p0 hne;clear h1 xu hv hx hf hq Nr p2 hlen lz;go_wp2;go_roundg (n-(k+1))
    case measure=>omega
    case rel=>exact⟨k+1,by omega,by omega,by go_num,HW.out⟩
  ·have eN:¬ (k:aF)<(n:aF):=by omega
   obtain rfl:k=n:=by omega
   go_wp2;exact sM (eC rfl _ _ _) rfl ⟨rfl,HI.out⟩
end
theorem Mv:(Tryz.prog.info? 61).map (·.size)=aO 8:=by kernel_rfl
theorem Wl:(Tryz.prog.info? 62).map (·.size)=aO 32:=by kernel_rfl
theorem Zt:(Tryz.prog.info? 3).map (·.size)=aO 1:=by kernel_rfl
theorem Eu(cs:Array az)(o:aE)(ho:o<4)(hs:cs.size=32)(w:aw):(Instr.index 62 (ar cs) (aa ag o)).run aP w=.ok (ar (cs.extract (o*8) (o*8+8))) w:=by
 have h1:(0:aF)<=(o:aF)/\(o:aF)<((4:aE):aF):=by omega
 have h2:=qV w underlying61;have h3:=pZ w Mv;simp[Instr.index,lW underlying62,asIntOf,go_sem,h1,h3,part];intro h;omega
theorem GK(cs:Array az)(i:aE)(v:az)(hi:i<8)(hs:cs[i]?=aO v)(w:aw):(Instr.index 61 (ar cs) (aa ag i)).run aP w=.ok v w:=by
 have h1:(0:aF)<=(i:aF)/\(i:aF)<((8:aE):aF):=by omega
 have h2:=qV w underlying3;have h3:=pZ w Zt;simp[Instr.index,lW underlying61,asIntOf,go_sem,h1,h3,part];rw[aY hi,hs];rfl
section
variable {ops:Array Oper}{rest:aB Oper}{o:Oper}{a:Act}{w:aw}{Q:Exit->Act->aw->Prop}
theorem Zb(ly:o.guard=aN)(x y:Operand)(ho:o.op=.index 62 x y)(cs:Array az)(k:aE)(hk:k<4)(hs:cs.size=32)(hx:a.eval x=ar cs)(hy:a.eval y=aa ag k)(sub:Array az)(Ap:sub=cs.extract (k*8) (k*8+8))(h:wpList aP ops Q rest (a.put o.dst (ar sub)) w):wpList aP ops Q (o::rest) a w:=
 oD ly fun K hK=>by subst Ap;unfold Oper.wp execOp;simp only[ho,hx,hy,lx,my,Eu cs k hk hs w,iQ];exact hK _ _ h
theorem SH(ly:o.guard=aN)(x y:Operand)(ho:o.op=.index 61 x y)(cs:Array az)(i:aE)(v:az)(hi:i<8)(hs:cs[i]?=aO v)(hx:a.eval x=ar cs)(hy:a.eval y=aa ag i)(h:wpList aP ops Q rest (a.put o.dst v) w):wpList aP ops Q (o::rest) a w:=
 oD ly fun K hK=>by unfold Oper.wp execOp;simp only[ho,hx,hy,lx,my,GK cs i v hi hs w,iQ];exact hK _ _ h
theorem Wn(ly:o.guard=aN)(x y:Operand)(ho:o.op=.store 61 x y)(c sub:Array az)(hx:a.eval x=aj (aO w))(hy:a.eval y=ar sub)(hs:sub.size=8)(hc:c.size=8)(h1:sub.all (·.oneCell')=aI)(h:wpList aP ops Q rest (a.put o.dst undef) (w.alloc (aM sub 61))):wpList aP ops Q (o::rest) a (w.alloc (aM c 61)):=
 oD ly fun K hK=>by unfold Oper.wp execOp;simp only[ho,hx,hy,lx,my,run_storeAt_new w 61 c sub (by rw[Mv,hs]) (by rw[hc,hs]) h1,iQ];exact hK _ _ h
end
section
variable {aS:aE}{W:aw}{B:aE}{s:Sy}{L:ja}
theorem iu:i∈s.eH n↔∃ k j,k<n/\s.fds k=aO j/\s.anK j=i:=by
 induction n with
 | zero=>simp[Sy.eH]
 | succ n ih=>
  rw[Sy.eH];cases hf:s.fds n with
  | none=>
   simp only;rw[ih];constructor
   ·rintro⟨k,j,hk,h⟩;exact⟨k,j,by omega,h⟩
   ·rintro⟨k,j,hk,h1,h2⟩
    refine⟨k,j,?_,h1,h2⟩;by_cases e:k=n
    ·rw[e,hf]at h1;cases h1
    ·omega
  | some j0=>
   simp only[BJ];constructor
   ·intro h
    split at h
    ·obtain⟨k,j,hk,h⟩:=ih.1 h;exact⟨k,j,by omega,h⟩
    ·rcases bZ.1 h with h|h
     ·obtain⟨k,j,hk,h⟩:=ih.1 h;exact⟨k,j,by omega,h⟩
     ·simp at h;exact⟨n,j0,by omega,hf,h.symm⟩
   ·rintro⟨k,j,hk,h1,h2⟩
    by_cases e:k=n
    ·rw[e,hf]at h1
     cases h1;split
     ·rw[<- h2];assumption
     ·simp[h2]
    ·have:=ih.2 ⟨k,j,by omega,h1,h2⟩
     split
     ·exact this
     ·exact pg _ this
theorem cW.row(h:cW aS W B s L):∃ cs:Array az,cs.size=32/\W.rangeAt B 5 cs.toList/\∀ k,k<32->cs[k]?=aO (aa ag (DT s k)):=by obtain⟨arr,hb,hs,hf⟩:=h.blk;refine⟨arr.extract 5 (5+32),by simp[hs],World.rangeAt_of_block hb 5 32,fun k hk=>?_⟩;rw[rN];simp only[hs];rw[aY (by omega),nA 5 k];exact hf (k+5) (by omega)
theorem cW.desc(h:cW aS W B s L){o:qI}(ho:s.bJ[j]?=aO o):∃ g c,L.vd=ah (aO ⟨g,0,aN⟩) s.bJ.length c/\g<W.heap.size/\W.cell? ⟨g,j*3,aN⟩=aO (aa ag o.cM)/\W.cell? ⟨g,j*3+1,aN⟩=aO (aa ag o.use)/\W.cell? ⟨g,j*3+2,aN⟩=aO (aa ag o.pos)/\∀ i,W.frozen? ⟨g,i,aN⟩=aH:=by obtain⟨g,c,hv,hg,_,hc,hz⟩:=acL WM h.nC ho;exact⟨g,c,hv,hg,hc 0 _ rfl,hc 1 _ rfl,hc 2 _ rfl,hz⟩
theorem DM(h:cW aS W B s L)(f:aE):ay aP 15 #[aj (aO B),aa ag f] W fun r W'=>r=aK (aq (decide (f∈s.cr)))/\au W W W':=by
 obtain⟨cs,hcs,jF,nY⟩:=h.row;have HS:ax (cW aS W B s L):=h;have HG:ax (∀ k,k<32->cs[k]?=aO (aa ag (DT s k))):=nY;have HR:ax (W.rangeAt B 5 cs.toList):=jF;have HZ:ax (cs.size=32):=hcs;obtain⟨R,hR⟩:=ee (decide (f∈s.cr))
 rw[<- hR];have HRR:ax (R=decide (f∈s.cr)):=hR;clear h hcs jF nY hR;go_enter func15,ntmps15;go_wp2_with (refine wpList_load_mid rfl 62 (.tmp 11) rfl B 5 rfl cs.toList _ HR.out underlying62 rfl (by rw[Wl];simp[HZ.out]) ?_;rw[tM]);go_loopg [13] 4 (fun gg s12 wr=>∃ o:aE,o<=4/\4-o<=gg/\s12=aa ag o/\ax ((∀ k j,k<o*8->s.fds k=aO j->¬ s.anK j=f)/\au W W wr))
 case atStart=>exact⟨0,by omega,by omega,rfl,fun k j hk=>aG hk (by omega),aR _ _⟩
 case round=>
  obtain⟨o,ho,oP,rfl,HI⟩:=hrel;by_cases gm:o<4
  ·have eN:(o:aF)<4:=by omega
   obtain⟨sub,Ap⟩:=ee (cs.extract (o*8) (o*8+8))
   have HU:ax (sub=cs.extract (o*8) (o*8+8)):=Ap;have XR:ax (sub.size=8):=by show _=_;rw[Ap];simp[HZ.out];omega
   have XS:ax (∀ i,i<8->sub[i]?=aO (aa ag (DT s (o*8+i)))):=by show ∀ i,_;intro i hi;rw[Ap,rN,HZ.out,aY (by omega)];exact HG.out _ (by omega)
   have ZG:ax (sub.all (·.oneCell')=aI):=by
    show _=aI;rw[Array.all_eq_true];intro i hi;have h8:=XR.out;have:=XS.out i (by omega);rw[Wu hi]at this;injection this with this
    rw[this];rfl
   clear Ap;go_wp2_with (first|(refine Zb rfl (.tmp 12) (.tmp 13) rfl cs o gm HZ.out rfl rfl sub HU.out ?_)|(refine Wn rfl (.tmp 6) (.tmp 15) rfl _ sub rfl rfl XR.out rfl ZG.out ?_)|(refine wpList_load_mid rfl 61 (.tmp 6) rfl wr 0 rfl sub.toList _ (Bg wr sub 61) underlying61 rfl (by rw[Mv];simp[XR.out]) ?_;rw[tM]));have lV:ax (au W W (wr.alloc (aM sub 61))):=Below.bK HI.2 ((Grown.refl wr).alloc _).below;go_loopg [17] 8 (fun gg s16 wq=>∃ i:aE,i<=8/\8-i<=gg/\s16=aa ag i/\ax ((∀ k j,k<o*8+i->s.fds k=aO j->¬ s.anK j=f)/\au W W wq))
   case atStart=>exact⟨0,by omega,by omega,rfl,HI.1,lV.out⟩
   case round=>
    obtain⟨i,hi,afI,rfl,HJ⟩:=hrel;by_cases rT:i<8
    ·have IJ:(i:aF)<8:=by omega
     cases l6:s.fds (o*8+i)with
     | none=>
      have HX:ax (sub[i]?=aO (aa ag (-1))):=by have:=XS.out i rT;rw[CP l6]at this;exact this
      have HE:ax (∀ k j,k<o*8+(i+1)->s.fds k=aO j->¬ s.anK j=f):=(fun k j hk hj=>by
       by_cases e:k=o*8+i
       ·rw[e,l6]at hj;cases hj
       ·exact HJ.1 k j (by omega) hj)
      go_wp2_with (refine SH rfl (.tmp 16) (.tmp 17) rfl sub i (aa ag (-1)) rT HX.out rfl rfl ?_);go_roundg (8-(i+1))
      case measure=>omega
      case rel=>exact⟨i+1,by omega,by omega,by go_num,HE.out,HJ.2⟩
     | some j=>
      have HX:ax (sub[i]?=aO (aa ag (j:aF))):=by have:=XS.out i rT;rw[mI l6]at this;exact this
      obtain⟨op,gX⟩:∃ op,s.bJ[j]?=aO op:=⟨_,aU (HS.qo _ _ l6)⟩
      have Qx:s.anK j=op.cM:=by simp[Sy.anK,gX]
      have hK:=HS.bB HJ.2;obtain⟨g,c,hv,hg,q0,_⟩:=hK.desc gX;obtain⟨_,_,_,_,d4⟩:=hK.cells;rw[hv]at d4;have hj1:j<s.bJ.length:=(aQ.1 gX).1;obtain⟨n,hn⟩:=ee s.bJ.length
      rw[<- hn]at d4 hj1;have O6:(j:aF)<(n:aF):=by omega
      have hj0:(0:aF)<=(j:aF):=by omega
      by_cases R7:op.cM=f
      ·have HT:ax (R=aI):=by
        show R=aI;rw[HRR.out,ew];exact iu.2 ⟨o*8+i,j,by omega,l6,by rw[Qx];exact R7⟩
       rw[R7]at q0;clear hK hv gX Qx hn R7 l6;go_wp2_with (refine SH rfl (.tmp 16) (.tmp 17) rfl sub i (aa ag (j:aF)) rT HX.out rfl rfl ?_);go_ret;exact⟨by rw[HT.out];rfl,HJ.2⟩
      ·have hne:¬ ((op.cM:aF)=(f:aF)):=by omega
       have Sm:((op.cM:aF) == (f:aF))=aH:=by simpa using hne
       have HE:ax (∀ k j,k<o*8+(i+1)->s.fds k=aO j->¬ s.anK j=f):=(fun k j' hk hj=>by
        by_cases e:k=o*8+i
        ·rw[e,l6]at hj;cases hj;rw[Qx];exact R7
        ·exact HJ.1 k j' (by omega) hj)
       clear hK hv gX Qx hn R7 l6;generalize op.cM=of at q0 hne Sm;go_wp2_with (refine SH rfl (.tmp 16) (.tmp 17) rfl sub i (aa ag (j:aF)) rT HX.out rfl rfl ?_);go_roundg (8-(i+1))
       case measure=>omega
       case rel=>exact⟨i+1,by omega,by omega,by go_num,HE.out,HJ.2⟩
    ·have IJ:¬ (i:aF)<8:=by omega
     obtain rfl:i=8:=by omega
     go_wp2;go_roundg (4-(o+1))
     case measure=>omega
     case rel=>exact⟨o+1,by omega,by omega,by go_num,fun k j hk=>HJ.1 k j (by omega),HJ.2⟩
  ·have eN:¬ (o:aF)<4:=by omega
   obtain rfl:o=4:=by omega
   have HT:ax (R=aH):=by show R=aH;rw[HRR.out,ra];intro hm;obtain⟨k,j,hk,h1,h2⟩:=iu.1 hm;exact HI.1 k j (by omega) h1 h2
   go_wp2;go_ret;exact⟨by rw[HT.out];rfl,HI.2⟩
end
theorem acU(C:aE)(cn f:aF)(w:aw)(h:w.cell? ⟨C,3,aN⟩=aO (aa ag cn)):ay aP 53 #[aa ag f,aj (aO C)] w fun r w'=>r=aK (aq (bits BinOp.and IntKind.i64 cn f == f))/\w'=w:=by go_enter func53,ntmps53;go_wp2;go_ret;exact⟨rfl,rfl⟩
namespace PM
def jZ(use x:aF):Bool:=bits BinOp.and IntKind.i64 use x == x
theorem RT:∀ n:Fin 64,jZ n.val 1=has n.val 1/\jZ n.val 2=has n.val 2/\jZ n.val 4=has n.val 4/\jZ n.val 8=has n.val 8/\jZ n.val 16=has n.val 16/\jZ n.val 32=has n.val 32:=by decide +kernel
theorem OI:∀ n:Fin 64,sS n.val = !(decide ((n.val:aF)<1) || (!jZ n.val 1 && !jZ n.val 2) || (!jZ n.val 2 && (jZ n.val 4 || jZ n.val 32)) || (jZ n.val 16 && !jZ n.val 8)):=by decide +kernel
theorem Vv{n x:aF}(h0:0<=n)(h1:n<=63)(hx:x=1\/x=2\/x=4\/x=8\/x=16\/x=32):jZ n x=has n x:=by
 obtain⟨m,rfl⟩:∃ m:aE,n=m:=⟨n.toNat,by omega⟩
 obtain⟨a1,a2,a3,a4,a5,a6⟩:=RT ⟨m,by omega⟩;rcases hx with rfl|rfl|rfl|rfl|rfl|rfl
 ·exact a1
 ·exact a2
 ·exact a3
 ·exact a4
 ·exact a5
 ·exact a6
theorem Rx(n:aF):sS n = !(decide (n<1) || decide (63<n) || (!jZ n 1 && !jZ n 2) || (!jZ n 2 && (jZ n 4 || jZ n 32)) || (jZ n 16 && !jZ n 8)):=by
 by_cases h:n<1\/63<n
 ·have h1:sS n=aH:=by unfold sS;rw[aY h]
  rw[h1];rcases h with h|h
  ·simp[h]
  ·simp[h]
 ·obtain⟨m,rfl⟩:∃ m:aE,n=m:=⟨n.toNat,by omega⟩
  have:=OI ⟨m,by omega⟩;simp only at this;rw[this,show decide ((63:aF)<(m:aF))=aH by simp;omega];simp
end PM
def aek(e:aF)(w:aw)(r:Ending)(w':aw):Prop:=r=aK (ar #[aa ag e,aa ag 0,ai ⟨#[]⟩,ah aN 0 0])/\au w w w'
theorem fP(e:aF)(w:aw):ay aP 27 #[aa ag e] w (aek e w):=by go_enter func27,ntmps27;go_wp2;refine ba (v:=ar #[aa ag e,aa ag 0,ai ⟨#[]⟩,ah aN 0 0]) (by simp[results,results27,go_sem]) rfl ?_;exact⟨rfl,((Grown.refl w).alloc _).below⟩
theorem aft{C:aE}{cn x:aF}{b:Bool}{w:aw}(h:w.cell? ⟨C,3,aN⟩=aO (aa ag cn))(e:jZ cn x=b):ay aP 53 #[aa ag x,aj (aO C)] w fun r w'=>r=aK (aq b)/\w'=w:=by have:=acU C cn x w h;unfold jZ at e;rw[e]at this;exact this
section
variable {aS:aE}{W w w':aw}{B:aE}{s s':Sy}{L L1:ja}{c:Cl}
theorem cW.aside(h:cW aS W B s L)(o:Obj):cW aS (W.alloc o) B s { L with ex:=fun b=>b=W.heap.size\/L.ex b }:=by
 have hB:=((Grown.refl W).alloc o).below;have k:=h.bB hB;refine⟨k.blk.as (tR rfl rfl rfl rfl rfl rfl rfl rfl rfl rfl),k.objs,k.nC,fun Y hY=>?_,k.num,k.up,k.low,k.sI,k.sJ,k.qo,k.pV,?_,k.aS⟩
 ·have:=h.data Y ⟨bc hB.size hY.size,fun b hb hn=>(hY.block b (aZ hb hB.size) (fun e=>e.elim (fun e=>hn (.inl e)) (fun e=>e.elim (fun e=>by omega) (fun e=>hn (.inr e))))).trans (hB.block b hb)⟩
  exact⟨this.un,this.bA,this.b9⟩
 ·rintro b (rfl|e)
  ·exact⟨bc h.aS (bM h.lt),by simp⟩
  ·exact k.wF b e
theorem cW.AV(h:cW aS W B s L){R:aE}{cs:Array az}(hx:L.ex R)(hb:W.heap[R]?=aO (aM cs 38 (0,0)))(i:aE)(v:az):cW aS (W.setCell ⟨R,i,aN⟩ v) B s L:=by
 have hm:=h.other hb (by decide) (by decide) (by decide);have hn:∀ g,gV B L g->(W.setCell ⟨R,i,aN⟩ v).heap[g]?=W.heap[g]?:=fun g hg=>cI _ _ _ _ (by rintro rfl;exact hm hg)
 have hK:cA (yJ B L) W (W.setCell ⟨R,i,aN⟩ v):=cA.set (.inr hx) W _ _;exact⟨h.blk.same (hn B (.inl rfl)),fw h.objs fun g hg=>hn g (.inr (.inl hg)),fw h.nC fun g hg=>hn g (.inr (.inr hg)),h.data.on hK,h.num,h.up,h.low,h.sI,h.sJ,h.qo,h.pV,fun b hb=>⟨(h.wF b hb).1,aZ (h.wF b hb).2 hK.size⟩,h.aS⟩
structure gL (aS B:aE) (s:Sy) (L:ja) (W:aw) (c:Cl) (w:aw):Prop where
 ex:∃ L1,cW aS w B s L1/\(∀ b,gV B L1 b->gV B L b\/W.heap.size<=b)/\L1.ex=fun b=>b=W.heap.size+1\/L.ex b
 low:au aS W w
 keep:cA (gV B L) W w
 box:w.heap[W.heap.size]?=aO (aM #[aa ag c.bE, aa ag c.owner, aa ag c.fd, aa ag c.n, aa ag c.m, ai c.bm, ai c.tw, ai c.text, aq c.alone] 51)
 gz:w.heap[W.heap.size+1]?=aO (aM #[aa ag 0,aa ag 0,ai ⟨#[]⟩,ah aN 0 0] 38)
theorem gL.start(h:cW aS W B s L)(c:Cl):gL aS B s L W c ((W.alloc (aM #[aa ag c.bE, aa ag c.owner, aa ag c.fd, aa ag c.n, aa ag c.m, ai c.bm, ai c.tw, ai c.text, aq c.alone] 51)).alloc (aM #[aa ag 0,aa ag 0,ai ⟨#[]⟩,ah aN 0 0] 38)):=by have hB:=((Grown.refl W).alloc (aM #[aa ag c.bE, aa ag c.owner, aa ag c.fd, aa ag c.n, aa ag c.m, ai c.bm, ai c.tw, ai c.text, aq c.alone] 51)).below;have fC:=((Grown.refl (W.alloc (aM #[aa ag c.bE, aa ag c.owner, aa ag c.fd, aa ag c.n, aa ag c.m, ai c.bm, ai c.tw, ai c.text, aq c.alone] 51))).alloc (aM #[aa ag 0,aa ag 0,ai ⟨#[]⟩,ah aN 0 0] 38)).below;have hs:(W.alloc (aM #[aa ag c.bE, aa ag c.owner, aa ag c.fd, aa ag c.n, aa ag c.m, ai c.bm, ai c.tw, ai c.text, aq c.alone] 51)).heap.size=W.heap.size+1:=cE W _;have ha:=(h.bB hB).aside (aM #[aa ag 0,aa ag 0,ai ⟨#[]⟩,ah aN 0 0] 38);rw[hs]at ha;refine⟨⟨_,ha,fun b hb=>.inl hb,rfl⟩,(hB.trans (fC.mono hB.size)).mono (bc h.aS (bM h.lt)),cA.dB _ (hB.trans (fC.mono hB.size)),(fC.block _ (by omega)).trans (heap_alloc_last W _),?_⟩;rw[<- hs];exact heap_alloc_last _ _
theorem gL.pure(h:gL aS B s L W c w)(hB:au w w w'):gL aS B s L W c w':=by obtain⟨⟨L1,a1,a2,a3⟩,h2,h3,h4,h5⟩:=h;exact⟨⟨L1,a1.bB hB,a2,a3⟩,h2.trans (hB.mono (bc a1.aS (bM a1.lt))),h3.trans (cA.dB _ hB),(hB.block _ (aX.1 h4).1).trans h4,(hB.block _ (aX.1 h5).1).trans h5⟩
theorem gL.step(h:gL aS B s L W c w)(a:cW aS w B s L1/\(∀ b,gV B L1 b->gV B L b\/W.heap.size<=b)/\L1.ex=fun b=>b=W.heap.size+1\/L.ex b)(h2:iU aS B s' L1 w w'):gL aS B s' L W c w':=by obtain⟨_,h3,h4,h5,h6⟩:=h;obtain⟨a1,a2,a3⟩:=a;obtain⟨⟨L2,b1,b2,b3⟩,b4,b5⟩:=h2;exact⟨⟨L2,b1,fun b hb=>(b2 b hb).elim (fun e=>a2 b e) (fun e=>.inr (bc h4.size e)),b3.trans a3⟩,h3.trans b4,⟨bc h4.size b5.size,fun b hb hn=>(b5.block b (aZ hb h4.size) (fun e=>(a2 b e).elim hn (fun e=>by omega))).trans (h4.block b hb hn)⟩,(b5.block _ (aX.1 h5).1 (a1.other h5 (by decide) (by decide) (by decide))).trans h5,(b5.block _ (aX.1 h6).1 (a1.other h6 (by decide) (by decide) (by decide))).trans h6⟩
theorem gL.cells(h:gL aS B s L W c w):(w.cell? W=aO (aa ag c.bE)/\w.cell? ⟨W,1,aN⟩=aO (aa ag c.owner)/\w.cell? ⟨W,2,aN⟩=aO (aa ag c.fd)/\w.cell? ⟨W,3,aN⟩=aO (aa ag c.n)/\w.cell? ⟨W,4,aN⟩=aO (aa ag c.m)/\w.cell? ⟨W,5,aN⟩=aO (ai c.bm)/\w.cell? ⟨W,6,aN⟩=aO (ai c.tw)/\w.cell? ⟨W,7,aN⟩=aO (ai c.text)/\w.cell? ⟨W,8,aN⟩=aO (aq c.alone))/\W.heap.size+1<w.heap.size:=by refine⟨⟨?_,?_,?_,?_,?_,?_,?_,?_,?_⟩,(aX.1 h.gz).1⟩<;>simp[World.cell?,h.box]
def ic(aS B:aE)(s':Sy)(an:An)(L:ja)(W:aw)(r:Ending)(W':aw):Prop:=∃ (p:aC aJ) (k q:aE),r=aK (ar #[aa ag an.err,aa ag an.n,ai an.text,ah p k q])/\(∃ L',cW aS W' B s' L'/\(∀ b,yJ B L' b->yJ B L b\/W.heap.size<=b)/\(∀ b,L.ex b->L'.ex b)/\QD (yJ B L') W' an ⟨an.err,an.n,an.text,p,k,q⟩)/\au aS W W'/\cA (gV B L) W W'
theorem gL.ret(h:gL aS B s L W c w){an:An}{q:aE}{bs:aB aA}(h1:bs.map (·.data.toList)=an.names)(h2:k=bs.length)(h3:k<=q)(h4:p=aN->q=0)(a:cW aS w B s L1/\(∀ b,gV B L1 b->gV B L b\/W.heap.size<=b)/\L1.ex=fun b=>b=W.heap.size+1\/L.ex b)(hl:St (yJ B L1) w fun Y=>jy Y p bs):ic aS B s an L W (aK (ar #[aa ag an.err,aa ag an.n,ai an.text,ah p k q])) ((((w.setCell ⟨↑W+1,0,aN⟩ (aa ag an.err)).setCell ⟨↑W+1,1,aN⟩ (aa ag an.n)).setCell ⟨↑W+1,2,aN⟩ (ai an.text)).setCell ⟨↑W+1,3,aN⟩ (ah p k q)):=by
 obtain⟨_,h5,h6,h7,h8⟩:=h;obtain⟨a1,a2,a3⟩:=a;have hx:L1.ex (W.heap.size+1):=by rw[a3];exact .inl rfl
 have k1:=dZ h8 0 (aa ag an.err);have k2:=dZ k1 1 (aa ag an.n);have k3:=dZ k2 2 (ai an.text);have hb:aS<=W.heap.size+1:=(a1.wF _ hx).1;have hK:∀ (Y:aw) (i:aE) (v:az),cA (yJ B L1) Y (Y.setCell ⟨↑W+1,i,aN⟩ v):=fun Y i v=>cA.set (.inr hx) Y i v
 have hn:∀ (Y:aw) (i:aE) (v:az),cA (gV B L) W Y->cA (gV B L) W (Y.setCell ⟨↑W+1,i,aN⟩ v):=fun Y i v hY=>⟨bc hY.size (by simp[World.setCell]),fun b hb hm=>(cI _ _ _ _ (by show b≠W.heap.size+1;omega)).trans (hY.block b hb hm)⟩
 refine⟨p,k,q,rfl,⟨L1,(((a1.AV hx h8 0 _).AV hx k1 1 _).AV hx k2 2 _).AV hx k3 3 _,fun b hb=>?_,fun b hb=>by rw[a3];exact .inr hb,rfl,rfl,rfl,bs,h2,h1,by rw[<- h2];exact h3,h4,hl.on ((((hK _ _ _).trans (hK _ _ _)).trans (hK _ _ _)).trans (hK _ _ _))⟩,(((h5.setCell (p:=_) hb _).setCell (p:=⟨_,1,aN⟩) hb _).setCell (p:=⟨_,2,aN⟩) hb _).setCell (p:=⟨_,3,aN⟩) hb _,hn _ _ _ (hn _ _ _ (hn _ _ _ (hn _ _ _ h6)))⟩;rcases hb with e|e
 ·exact(a2 b e).imp .inl id
 ·rw[a3]at e
  rcases e with rfl|e
  ·exact .inr (by omega)
  ·exact .inl (.inr e)
theorem gL.iT(h:gL aS B s L W c w)(e n:aF)(t:aA):ic aS B s ⟨e,n,t,[]⟩ L W (aK (ar #[aa ag e,aa ag n,ai t,ah aN 0 0])) ((((w.setCell ⟨↑W+1,0,aN⟩ (aa ag e)).setCell ⟨↑W+1,1,aN⟩ (aa ag n)).setCell ⟨↑W+1,2,aN⟩ (ai t)).setCell ⟨↑W+1,3,aN⟩ (ah aN 0 0)):=
 by
 obtain⟨L1,a⟩:=h.ex;exact h.ret (an:=⟨e,n,t,[]⟩) (bs:=[]) rfl rfl (aV _) (fun _=>rfl) a fun _ _=>.inl rfl
theorem gL.call(h:gL aS B s L W c w){an:An}{r:Ending}(a:cW aS w B s L1/\(∀ b,gV B L1 b->gV B L b\/W.heap.size<=b)/\L1.ex=fun b=>b=W.heap.size+1\/L.ex b)(h2:ic aS B s' an L1 w r w'):∃ (p:aC aJ) (k q:aE),r=aK (ar #[aa ag an.err,aa ag an.n,ai an.text,ah p k q])/\w'.heap[W.heap.size+1]?=aO (aM #[aa ag 0,aa ag 0,ai ⟨#[]⟩,ah aN 0 0] 38)/\ax (ic aS B s' an L W r ((((w'.setCell ⟨↑W+1,0,aN⟩ (aa ag an.err)).setCell ⟨↑W+1,1,aN⟩ (aa ag an.n)).setCell ⟨↑W+1,2,aN⟩ (ai an.text)).setCell ⟨↑W+1,3,aN⟩ (ah p k q))):=by
 obtain⟨_,h5,h6,h7,h8⟩:=h;obtain⟨a1,a2,a3⟩:=a;obtain⟨p,k,q,rfl,⟨L',b1,b2,b3,b4⟩,b5,b6⟩:=h2;have hR:=(b6.block _ (aX.1 h8).1 (a1.other h8 (by decide) (by decide) (by decide))).trans h8;have hx:L'.ex (W.heap.size+1):=b3 _ (by rw[a3];exact .inl rfl);have k1:=dZ hR 0 (aa ag an.err);have k2:=dZ k1 1 (aa ag an.n);have k3:=dZ k2 2 (ai an.text);have hb:aS<=W.heap.size+1:=(b1.wF _ hx).1;have hK:∀ (Y:aw) (i:aE) (v:az),cA (yJ B L') Y (Y.setCell ⟨↑W+1,i,aN⟩ v):=fun Y i v=>cA.set (.inr hx) Y i v
 have hn:∀ (Y:aw) (i:aE) (v:az),cA (gV B L) W Y->cA (gV B L) W (Y.setCell ⟨↑W+1,i,aN⟩ v):=fun Y i v hY=>⟨bc hY.size (by simp[World.setCell]),fun b hb hm=>(cI _ _ _ _ (by show b≠W.heap.size+1;omega)).trans (hY.block b hb hm)⟩
 have h9:cA (gV B L) W w':=⟨bc h6.size b6.size,fun b hb hn=>(b6.block b (aZ hb h6.size) (fun e=>(a2 b e).elim hn (fun e=>by omega))).trans (h6.block b hb hn)⟩
 have h10:=h5.trans b5;obtain⟨e1,e2,e3,bs,e4,e5,e6,e7,e8⟩:=b4;refine⟨p,k,q,rfl,hR,p,k,q,rfl,⟨L',(((b1.AV hx hR 0 _).AV hx k1 1 _).AV hx k2 2 _).AV hx k3 3 _,fun b hb=>?_,fun b hb=>b3 b (by rw[a3];exact .inr hb),e1,e2,e3,bs,e4,e5,e6,e7,e8.on ((((hK _ _ _).trans (hK _ _ _)).trans (hK _ _ _)).trans (hK _ _ _))⟩,(((h10.setCell (p:=_) hb _).setCell (p:=⟨_,1,aN⟩) hb _).setCell (p:=⟨_,2,aN⟩) hb _).setCell (p:=⟨_,3,aN⟩) hb _,hn _ _ _ (hn _ _ _ (hn _ _ _ (hn _ _ _ h9)))⟩;rcases b2 b hb with(e|e)|e
 ·exact(a2 b e).imp .inl id
 ·rw[a3]at e
  rcases e with rfl|e
  ·exact .inr (by omega)
  ·exact .inl (.inr e)
 ·exact .inr (bc h6.size e)
end
namespace PM
def oU:Fl:=⟨⟨#[]⟩,⟨#[]⟩,[]⟩
def Sy.eU(s:Sy):Sy:={ s with bh:=s.bh.mapIdx fun i f=>if i∈s.cr then f else oU }
variable {s:Sy}
theorem ig{t:Sy}(h1:t.fds=s.fds)(h2:∀ j,t.anK j=s.anK j):∀ k,t.eH k=s.eH k
 | 0=>rfl
 | k+1=>by
  rw[Sy.eH,Sy.eH,h1,ig h1 h2 k];cases s.fds k with
  | none=>rfl
  | some j=>simp only;rw[h2]
theorem LP:s.eU.cr=s.cr:=ig (s:=s) (t:=s.eU) rfl (fun _=>rfl) 32
theorem mN:s.eU.bh.length=s.bh.length:=by simp[Sy.eU]
theorem vU(hf:s.bh[i]?=aO f):s.eU.bh[i]?=aO (if i∈s.cr then f else oU):=by show(s.bh.mapIdx _)[i]?=_;rw[bO,hf];rfl
theorem oV{t u:Sy}(h1:t.up=u.up)(h2:t.cq=u.cq)(h3:t.bh=u.bh)(h4:t.bJ=u.bJ)(h5:t.fds=u.fds):t=u:=by obtain⟨a,b,c,d,e⟩:=t;obtain⟨a',b',c',d',e'⟩:=u;simp only at h1 h2 h3 h4 h5;rw[h1,h2,h3,h4,h5]
theorem AF(hi:i∈s.cr)(f:Fl):(s.dQ i f).eU=s.eU.dQ i f:=by
 have hr:(s.dQ i f).cr=s.cr:=ig (s:=s) (t:=s.dQ i f) rfl (fun _=>rfl) 32;refine oV rfl rfl ?_ rfl rfl;show((s.bh.set i f).mapIdx fun k g=>if k∈(s.dQ i f).cr then g else oU)=(s.bh.mapIdx fun k g=>if k∈s.cr then g else oU).set i f;rw[hr];apply dz;intro k;rw[bO,eR,eR];by_cases e:i=k
 ·subst e
  rw[aY rfl,aY rfl];by_cases hl:i<s.bh.length
  ·rw[aY hl,aY (by simpa using hl)]
   simp[hi]
  ·rw[aW hl,aW (by simpa using hl)]
   rfl
 ·rw[aW e,aW e,bO]
theorem AG{o o':qI}(ho:s.bJ[j]?=aO o)(hf:o'.cM=o.cM):(s.jw j o').eU=s.eU.jw j o':=by
 have hr:(s.jw j o').cr=s.cr:=ig (s:=s) (t:=s.jw j o') rfl (fun k=>by
  unfold Sy.anK Sy.jw;simp only;by_cases hk:j=k
  ·subst hk
   rw[jt (aQ.1 ho).1,ho];simp[hf]
  ·rw[mo hk]) 32
 refine oV rfl rfl ?_ rfl rfl;show(s.bh.mapIdx fun k g=>if k∈(s.jw j o').cr then g else oU)=s.bh.mapIdx fun k g=>if k∈s.cr then g else oU
 rw[hr]
theorem yx(u:aB bP)(l:aB (aB bP)):(s.di u l).eU=s.eU.di u l:=rfl
theorem E8(hi:i∈s.cr)(f:Fl)(t:aA):(s.eT i f t).eU=s.eU.eT i f t:=by
 unfold Sy.eT;show Sy.eU (if _ then _ else _)=if t.data.toList=(s.cQ f).data.toList then _ else _
 split
 ·rfl
 ·split
  ·exact AF hi _
  ·rfl
theorem EY(hq:¬ q.data.toList=[]):s.eU.iZ q s.eU.bh.length=(s.anN q).eU:=by
 have hr:(s.anN q).cr=s.cr:=ig (s:=s) (t:=s.anN q) rfl (fun _=>rfl) 32;refine oV rfl rfl ?_ rfl rfl;show(s.eU.bh.mapIdx fun i f=>if i<s.eU.bh.length then s.eU.oG q f else f)=(s.bh.mapIdx fun i f=>if i∈s.cr then s.oG q f else f).mapIdx fun i f=>if i∈(s.anN q).cr then f else oU
 rw[hr];apply dz;intro k;rw[bO,bO,bO];cases hk:s.bh[k]? with
 | none=>
  have:s.eU.bh[k]?=aN:=by show(s.bh.mapIdx _)[k]?=aN;rw[bO,hk];rfl
  rw[this];rfl
 | some f=>
  have hl:k<s.eU.bh.length:=by rw[mN];exact(aQ.1 hk).1
  rw[vU hk];simp only[dF];rw[aY hl];by_cases hm:k∈s.cr
  ·simp only[aY hm]
   rfl
  ·simp only[aW hm]
   unfold Sy.oG;rw[aW (fun e=>hq e.symm)]
end PM
