import Derived.Test.YtjnkfelecopbjaaGreatDoorYA1
import Derived.Shelf.Spec.SlicesInsertGrow
import Derived.Test.YtjnkfelecopbjaaGreatDoorSortLay
open Go.Proofs.Tryz
open Go.Value renaming int->aa,slice->ah,string->ai,bool->aq,agg->ar,tuple->aL
open Go.IntKind renaming i64->ag
open Go.RowKit renaming Below->au
open Go renaming World->aw,Aside->ax,Calls->ay,Value->az,Addr->aJ
open _root_ renaming ByteArray->aA,List->aB,Option->aC,UInt8->aD,Nat->aE,Int->aF,absurd->aG
open Bool renaming false->aH,true->aI
open Go.Ending renaming returned->aK
open Go.Obj renaming cells->aM
open Option renaming none->aN,some->aO
open Go.Proofs.Tryz renaming prog->aP
set_option linter.all false
set_option maxHeartbeats 4000000
set_option maxRecDepth 100000
namespace Go.Proofs.YtjnkfelecopbjaaGreatDoor
open Go.RowKit PM Go.Sort
variable{R l t:aB bP}{W w:aw}{cap g i k:aE}{e y:bP}{bS anW:aA}
theorem NG(a b c:aF)(W:aw):ay aP 109 #[ah (aO W) 3 3] (W.alloc (aM #[aa ag a,aa ag b,aa ag c] 31)) fun e w'=>e=aK (aa ag (kb [a,b,c]))/\w'=W.alloc (aM #[aa ag a,aa ag b,aa ag c] 31):=
 Gw [a,b,c] W.heap.size 3 _ (by simp) (fun j x hx=>by
  match j,hx with
  | 0,hx=>simp at hx;subst hx;simp
  | 1,hx=>simp at hx;subst hx;simp
  | 2,hx=>simp at hx;subst hx;simp
  | j+3,hx=>simp at hx)
theorem nQ(a b:aF)(W:aw):ay aP 109 #[ah (aO W) 2 2] (W.alloc (aM #[aa ag a,aa ag b] 31)) fun e w'=>e=aK (aa ag (kb [a,b]))/\w'=W.alloc (aM #[aa ag a,aa ag b] 31):=
 Gw [a,b] W.heap.size 2 _ (by simp) (fun j x hx=>by
  match j,hx with
  | 0,hx=>simp at hx;subst hx;simp
  | 1,hx=>simp at hx;subst hx;simp
  | j+2,hx=>simp at hx)
def iB(err:aF)(l:aB bP)(w:aw)(e:Ending)(w':aw):Prop:=
 ∃ p c,e=aK (aL #[ah p l.length c,aa ag err])/\bI w' p l/\l.length<=c/\(p=aN->c=0)/\au w w w'
theorem iB.none{err:aF}{w':aw}(hB:au w w w'):iB err [] w (aK (aL #[ah .none 0 0,aa ag err])) w':=⟨.none,0,rfl,bI.nil _ _,aV _,fun _=>rfl,hB⟩
def eP(t:aB bP)(q:aB aD):aF:=kb [(cV aH t).1,pC t q,qc t q]
theorem PX(t:aB bP)(q:aB aD)(r:aF)(hr:b7 t->r=pC t q):kb [(cV aH t).1,r,qc t q]=eP t q:=by
 unfold eP;by_cases h:(cV aH t).1=0
 ·rw[hr (fO.1 h).anF]
 ·simp[kb,h]
theorem nM{a:aF}{r:aB aF}:kb (a::r)=0↔a=0/\kb r=0:=by rw[kb];by_cases h:a=0<;>simp[h]
theorem vZ{q:aB aD}(h:eP t q=0):du aH t/\(∃ e∈t,e.p=q)/\∀ x∈t,anG x.p q=aH:=by
 unfold eP at h;obtain⟨h1,h⟩:=nM.1 h;obtain⟨h2,h⟩:=nM.1 h;obtain⟨h3,_⟩:=nM.1 h;refine⟨fO.1 h1,?_,?_⟩
 ·unfold pC at h2
  split at h2
  ·assumption
  ·omega
 ·unfold qc at h3
  split at h3
  ·omega
  ·rename_i g;intro x hx;simpa using fun hu=>g (dy.2 ⟨x,hx,hu⟩)
theorem wG(a b:az)(w:aw):Sem.run aP (Instr.field 56 (ar #[a,b]) 0) w=.ok a w:=by first|kernel_rfl|simp[go_sem]|rfl
theorem Mk(t:aB bP)(q:aA)(m:aF)(p:aC aJ)(cap:aE)(w:aw)(hL:bI w p t)(hF:anM t)(hn:t.length<4611686018427387904)(ir:t.length<=cap)(iR:p=aN->cap=0)(hq:q.size<=maxLen)(hm:w.cell? ⟨0,0,aN⟩=aO (aa ag m)):ay aP 126 #[ah p t.length cap,ai q] w (iB (eP t q) (if eP t q.data.toList=0 then pq t q else[]) w):=by
 have iM:=fun W (hB:au w.heap.size w W)=>pW t m p cap W (hL.bB hB) hF hn ir (held hB hm)
 have Hf:=fun W (hB:au w.heap.size w W)=>A7 t q p cap W (hL.bB hB) hF hn hq
 have Yz:=fun W (hB:au w.heap.size w W)=>Iu t q p cap W (hL.bB hB) hF hn hq
 have IX:=fun(h:eP t q.data.toList=0) W (hB:au w w W)=>qp t q p cap W (hL.bB hB) iR (vZ h).1.len
 have zL:ax (∀ r:aF,(b7 t->r=pC t q)->kb [(cV aH t).1,r,qc t q.data.toList]=eP t q):=PX t q.data.toList;have hB:au w w w:=aR _ _;clear hL hF ir iR hm;generalize t.length=n at *;generalize (cV aH t).1=f at iM zL;generalize ((cV aH t).2:aF)=fa at iM;generalize qc t q.data.toList=u at Yz zL;obtain⟨l,hl⟩:∃ l,l=if eP t q.data.toList=0 then pq t q else[]:=⟨_,rfl⟩
 rw[<- hl];have HL:ax (l=if eP t q.data.toList=0 then pq t q else[]):=hl;clear hl;generalize eP t q.data.toList=er at zL IX HL ⊢;have Gc:=wG;go_enter func126,ntmps126;go_wp2_with (first
  | (go_at_call 110;refine(iM _ hB).mono ?_;clear iM;rintro e w1 ⟨rfl,hN⟩;replace hB:=Below.bK hB hN;clear hN)
  | (go_at_call 171;refine(Hf _ hB).mono ?_;clear Hf;rintro e w2 ⟨r,rfl,hr,hN⟩;have HE:ax (kb [f,r,u]=er):=zL.out r hr;clear hr zL;replace hB:=Below.bK hB hN;clear hN)
  | (go_at_call 172;refine(Yz _ hB).mono ?_;clear Yz;rintro e w3 ⟨rfl,hN⟩;replace hB:=Below.bK hB hN;clear hN)
  | (go_at_call 109;refine(NG _ _ _ _).mono ?_;rintro e w4 ⟨rfl,hw⟩;subst hw;replace hB:=hB.alloc hB.size (aM #[aa ag f,aa ag r,aa ag u] 31);rw[HE.out];by_cases ni:er=0)
  | (go_at_call 173;refine(IX ni _ hB).mono ?_;clear IX;rintro e w5 ⟨g,c,rfl,hg,hO,hN⟩;replace hB:=Below.bK hB hN;clear hN))
 ·go_ret2
  have hl:=HL.out;rw[aY ni]at hl;subst hl ni;exact⟨aO ⟨g,0,aN⟩,c,rfl,hO.anO,hO.len,nofun,hB⟩
 ·go_ret2
  have hl:=HL.out;rw[aW ni]at hl;subst hl;exact iB.none hB
theorem AB(w:aw)(cs:Array az)(cap:aE)(l:aB bP)(hs:cs.size=cap*4)(hl:l.length<=cap)(hm:cap<=maxLen)(hc:∀ (k:aE) (v:az),(l.flatMap fy)[k]?=aO v->cs[k]?=aO v):Own (w.alloc (aM cs 88)) w cap l:=
 ⟨cs,(by show(w.heap.push _)[w.heap.size]?=_;simp),hs,hl,hm,fun j e he i v hv=>hc _ v (yY he hv)⟩
theorem FF(n:aE):(Builtin.zeroCells #[ai ⟨#[]⟩,aa ag 0,ai ⟨#[]⟩,aq aH] n).size=n*4:=by simp[Builtin.zeroCells]
theorem append_left{cs:aB az}{r:Array az}{v:az}(h:cs[k]?=aO v):(cs.toArray++r)[k]?=aO v:=by have hk:=(aQ.1 h).1;rw[lA (by simpa using hk)];simpa using h
theorem wW(W:aw)(dT sT ty:TypeId)(hu:Tryz.prog.underlying dT=aO (.slice 88))(g o dLen dCap:aE)(a:aJ)(sLen sCap:aE)(ns:aB bP)(hn:ns.length=Nat.min sLen dLen)(Pf:∀ j v,(ns.flatMap fy)[j]?=aO v->W.cell? (a.add j)=aO v)(hc:∀ j,j<ns.length*4->(W.cell? ⟨g,o+j,aN⟩).isSome=aI)(hf:∀ j,j<ns.length*4->W.frozen? ⟨g,o+j,aN⟩=aH):(Builtin.copy_ #[dT,sT] ty #[ah (aO ⟨g,o,aN⟩) dLen dCap,ah (aO a) sLen sCap]).run aP W=.ok (goInt ns.length) (W.setCells g o (ns.flatMap fy)):=by obtain⟨i0,hi,ou,mL,mh⟩:=ue;have hl:=run_loadCells_list (P:=aP) W a (ns.flatMap fy) Pf;have kQ:=Hi (P:=aP) g o (ns.flatMap fy) 0 W (fun j hj=>by rw[iY]at hj;exact hc j hj) (fun j hj=>by rw[iY]at hj;exact hf j hj) (fun v hv=>kA hv);rw[iY]at hl;simp[Builtin.copy_,lW hu,Builtin.lenOf,Builtin.firstCells,sizeOf,typeInfo,hi,mL,<- hn,hl,kQ]
theorem GJ(l:aB bP)(e:bP)(g cap:aE)(w:aw)(hO:Own w g cap l)(vb:aE)(hv:∀ j u,(fy e)[j]?=aO u->w.cell? ⟨vb,j,aN⟩=aO u)(hn:l.length<=10000):∃ g' c' w',(∀ ty,(Builtin.append_ #[23,22] ty #[ah (aO g) l.length cap,ah (aO vb) 1 1]).run aP w=.ok (ah (aO ⟨g',0,aN⟩) (l.length+1) c') w')/\Own w' g' c' (l++[e])/\(g'=g\/w.heap.size<=g')/\w.grownBy w' (aO g):=by
 obtain⟨i0,hi,ou,mL,mh⟩:=ue;have Pf:Src aP i0.size 22 (ah (aO vb) 1 1) 1 (fy e) w:=by rw[mL];exact Src.ofSlice w underlying22 ⟨vb,0,aN⟩ 1 1 (fy e) rfl (fun j u hj=>by rw[dG,dD];exact hv j u hj) (fun u hu=>kA (t:=[e]) (by simpa using hu))
 by_cases zh:l.length+1<=cap
 ·refine⟨g,cap,w.setCells g (l.length*4) (fy e),fun ty=>?_,?_,.inl rfl,kB _ _ _ (k9 _ _)⟩
  ·have:=run_append_room_src (P:=aP) w 23 22 ty 88 i0 underlying23 hi g 0 l.length cap _ 1 (fy e) Pf zh
    (fun j hj=>by rw[mL,dD];rw[ky]at hj;exact hO.there (by omega)) (fun j _=>hO.frozen _)
   rw[mL,dD]at this;exact this
  ·have:=hO.over (ns:=[e]) (j:=l.length) (aV _) (by simpa using zh)
   rw[gh,cy (by simp),fj]at this;simpa using this
 ·have hold:(Builtin.firstCells i0.size l.length (ah (aO g) l.length cap)).run aP w.drew=.ok (l.flatMap fy).toArray w.drew:=by
   rw[mL];exact run_firstCells_some w.drew 4 l.length ⟨g,0,aN⟩ l.length cap (l.flatMap fy) (iY l) (hO.anO.flat (W:=w.drew) ((aR _ _).drew))
  have hr:=fun ty=>run_append_grow_src (P:=aP) w 23 22 ty 88 i0 _ underlying23 hi ou (aO ⟨g,0,aN⟩) l.length cap (l.flatMap fy) hold _ 1 (fy e) Pf (by omega) (by omega) (by rw[mh];exact growslice_fits (by omega) (by omega))
  refine⟨_,_,_,hr,?_,.inr (aV _),jB (k9 w _) (((aR w w).drew).alloc (aV _) _)⟩;have gI:=Vk w (l.length+1) cap 88;refine AB w.drew _ _ _ ?_ (by simpa using gI) (grownCap_le_maxLen w _ _ _ (by unfold maxLen;omega)) (fun k v hk=>append_left (by simpa using hk));rw[Array.size_append];simp only[Value.cells,FF,ju,cJ,iY,ky];omega
theorem SK(l:aB bP)(e:bP)(i:aE)(hi:i<l.length):(l.take (i+1)++l.drop i).take i++[e]++(l.take (i+1)++l.drop i).drop (i+1)=l.take i++e::l.drop i:=by rw[List.take_append_of_le_length (by rw[bL];omega),List.take_take,eM (by omega),List.drop_append,bL,eM (by omega),aaK,cy (by rw[bL];omega)];simp
theorem PH(h:Own w g cap l)(e:bP)(hi:i<l.length)(hr:l.length+1<=cap):Own ((w.setCells g ((i+1)*4) ((l.drop i).flatMap fy)).setCells g (i*4) (fy e)) g cap (l.take i++e::l.drop i):=by have h1:=h.over (ns:=l.drop i) (j:=i+1) (by omega) (by rw[fZ];omega);have hz:l.drop (i+1+(l.drop i).length)=[]:=cy (by rw[fZ];omega);rw[hz,fj]at h1;have h2:=h1.over (ns:=[e]) (j:=i) (by simp;omega) (by simp;omega);rw[jL,SK l e i hi]at h2;simpa using h2
def wB(l:aB bP)(g:aE)(w:aw)(r:Ending)(w':aw):Prop:=
 ∃ g' c',r=aK (ah (aO ⟨g',0,aN⟩) l.length c')/\Own w' g' c' l/\(g'=g\/w.heap.size<=g')/\w.grownBy w' (aO g)
theorem Ln(l:aB bP)(e:bP)(g cap:aE)(w:aw)(hO:Own w g cap l)(vb:aE)(hv:∀ j u,(fy e)[j]?=aO u->w.cell? ⟨vb,j,aN⟩=aO u)(hn:l.length<=10000):ay aP 168 #[ah (aO g) l.length cap,aa ag l.length,ah (aO vb) 1 1] w (wB (l++[e]) g w):=by
 obtain⟨g',c',w',hr,CY,Ei,Z6⟩:=GJ l e g cap w hO vb hv hn;have ir:=hO.len;have KZ:=hO.max;unfold maxLen at KZ;have HN:ax (l.length+1=(l++[e]).length):=by show _=_;simp
 clear hO hv;generalize l.length=n at *;go_enter func168,ntmps168;go_wp2_with (at_builtin;refine Lib.wpList_append_run _ rfl _ _ _ _ rfl _ _ rfl rfl _ _ (hr _) ?_);all_goals go_ret
 all_goals exact⟨g',c',by rw[<- HN.out];rfl,CY,Ei,Z6⟩
theorem JK{b:aE}{cs:Array az}{t:TypeId}{f:aE × aE}(h:w.heap[b]?=aO (aM cs t f)):w.shape? b=aO (t,cs.size):=by simp[World.shape?,h]
theorem PG(h:Own w g cap l):w.shape? g=aO (88,cap*4):=by obtain⟨eI,hc,hs,_⟩:=h;rw[JK hc,hs]
theorem Gm(l:aB bP)(e:bP)(i g cap:aE)(w:aw)(hO:Own w g cap l)(vb:aE)(hb:w.heap[vb]?=aO (aM (fy e).toArray 88 (0,0)))(hvb:vb≠g)(hi:i<l.length)(zh:l.length+1<=cap)(hn:l.length<=10000):ay aP 168 #[ah (aO g) l.length cap,aa ag i,ah (aO vb) 1 1] w (wB (l.take i++e::l.drop i) g w):=by
 have KZ:=hO.max;unfold maxLen at KZ;have Eo:∀ lb cb,(callFunc 213 #[ah (aO vb) 1 1,ah (aO ⟨g,(i+1)*4,aN⟩) lb cb]).run aP w=.ok (.value (aq aH)) w:=fun lb cb=>by
  rw[run_callFunc_extern func213 (by kernel_rfl) (by kernel_rfl) (by kernel_rfl) (e:=Extern.SlicesOverlaps.overlaps #[22,22] #[4]) (by kernel_rfl),Lib.run_overlaps_apart w 22 4 88 underlying22 4 Tryz.sizeOf88 ⟨vb,0,aN⟩ ⟨g,(i+1)*4,aN⟩ 1 1 lb cb hvb 88 88 4 (cap*4) (JK hb) (PG hO) (by omega) (by simp[World.frozen?,hb]) (by simp[World.frozen?,hb])]
  rfl
 have Yu:∀ ty dc sc,(Builtin.copy_ #[23,23] ty #[ah (aO ⟨g,(i+1)*4,aN⟩) (l.length+1-(i+1)) dc,ah (aO ⟨g,i*4,aN⟩) (l.length+1-i) sc]).run aP w.drew=.ok (goInt (l.drop i).length) (w.drew.setCells g ((i+1)*4) ((l.drop i).flatMap fy)):=fun ty dc sc=>
  wW w.drew _ _ ty underlying23 g ((i+1)*4) _ dc ⟨g,i*4,aN⟩ _ sc (l.drop i) (by rw[fZ];simp only[Qo];split<;>omega)
   (fun j v hj=>by
     obtain⟨a,x,b,h1,h2,rfl⟩:=sU hj;rw[fN]at h1;rw[dG,show i*4+(a*4+b)=(i+a)*4+b by omega];exact hO.cell h1 h2)
   (fun j hj=>by rw[fZ]at hj;exact hO.there (by omega)) (fun j _=>hO.frozen _)
 have Uo:Own (w.drew.setCells g ((i+1)*4) ((l.drop i).flatMap fy)) g cap (l.take (i+1)):=((hO.bB (w':=w.drew) rfl).take (i+1)).beyond (by rw[bL];omega);have Ga:∀ j u,(fy e)[j]?=aO u->(w.drew.setCells g ((i+1)*4) ((l.drop i).flatMap fy)).cell? ⟨vb,j,aN⟩=aO u:=fun j u hu=>by rw[qX g _ _ _ ⟨vb,j,aN⟩ (fun h _=>aG h hvb)];simp only[World.cell?,World.drew,hb];simpa using hu
 obtain⟨W1,vJ⟩:=ee (w.drew.setCells g ((i+1)*4) ((l.drop i).flatMap fy))
 have HO:ax (Own (W1.setCells g (i*4) (fy e)) g cap (l.take i++e::l.drop i)):=by rw[vJ];exact PH (hO.bB (w':=w.drew) rfl) e hi zh
 have HG:ax (w.grownBy (W1.setCells g (i*4) (fy e)) (aO g)):=by rw[vJ];exact kB _ _ _ (kB _ _ _ (jB (k9 w _) (aR _ _).drew))
 rw[<- vJ]at Yu Uo Ga;have afy:∀ (W:aw),(∀ x,W.cell? x=W1.cell? x)->(∀ x,W.frozen? x=W1.frozen? x)->∀ ty dc,(Builtin.copy_ #[23,22] ty #[ah (aO ⟨g,i*4,aN⟩) (l.length+1-i) dc,ah (aO vb) 1 1]).run aP W=.ok (goInt 1) (W.setCells g (i*4) (fy e)):=fun W hWc hWf ty dc=>by
  have:=wW W 23 22 ty underlying23 g (i*4) (l.length+1-i) dc ⟨vb,0,aN⟩ 1 1 [e] (by simp only[Qo,jL];split<;>omega)
   (fun j v hj=>by rw[dG,dD,hWc];exact Ga j v (by simpa using hj))
   (fun j hj=>by rw[hWc];simp at hj;exact Uo.there (by omega)) (fun j _=>by rw[hWf];exact Uo.frozen _)
  simpa using this
 have HN:ax (l.length+1=(l.take i++e::l.drop i).length):=by show _=_;simp;omega
 have BQ:(l.drop i).length=l.length-i:=fZ ..;rw[BQ]at Yu;generalize l.length=n at *;have mixed:Tryz.prog.follows .mixedOrders=aI:=by kernel_rfl
 have mh:¬ ((i:aF)=(n:aF)):=by omega
 have qM:IntKind.i64.wrap ((i:aF)+1)=(i:aF)+1:=by rw[qq];omega
 have si:(0:aF)<=(i:aF)+1:=by omega
 have mq:i<=n:=by omega
 have htn:((i:aF)+1).toNat=i+1:=by omega
 have uX:¬ (cap=i+1):=by omega
 have zf:(i:aF)<=(n:aF)+1:=by omega
 have Nk:¬ (cap=i):=by omega
 clear hO Uo Ga BQ hb vJ ;go_enter func168,ntmps168;go_wp2_with (simp only[Eo]);go_region_law_o (refine step_copy_runI rfl _ _ 23 23 rfl (ah (aO ⟨g,(i+1)*4,aN⟩) (n+1-(i+1)) (cap-(i+1))) (ah (aO ⟨g,i*4,aN⟩) (n+1-i) (cap-i)) (by simp[Act.eval,Act.put]) (by simp[Act.eval,Act.put]) (Yu _ _ _) ?_);go_wp2_with (at_builtin;refine wpList_copy_runI _ rfl _ _ 23 22 rfl _ _ rfl rfl (afy _ (fun _=>rfl) (fun _=>rfl) _ _) ?_);go_ret;exact⟨g,cap,by rw[<- HN.out];rfl,HO.out,.inl rfl,HG.out⟩
theorem IZ(l:aB bP)(e:bP)(i g cap:aE)(w:aw)(hO:Own w g cap l)(vb:aE)(hv:∀ j u,(fy e)[j]?=aO u->w.cell? ⟨vb,j,aN⟩=aO u)(hi:i<l.length)(zh:¬ l.length+1<=cap)(hn:l.length<=10000):ay aP 168 #[ah (aO g) l.length cap,aa ag i,ah (aO vb) 1 1] w (wB (l.take i++e::l.drop i) g w):=by
 obtain⟨i0,hi0,ou,mL,mh⟩:=ue;have hlen:=hO.len;have Gd:=hO.lt;have agq:vb<w.heap.size:=by
  have:=hv 0 _ rfl;rcases gR vb w with h'|h'
  ·exact h'
  ·simp[World.cell?,il h']at this
 have hold:(Builtin.firstCells i0.size i (ah (aO g) i cap)).run aP w.drew=.ok ((l.take i).flatMap fy).toArray w.drew:=by rw[mL];exact run_firstCells_some w.drew 4 i ⟨g,0,aN⟩ i cap ((l.take i).flatMap fy) (by rw[iY,bL];omega) ((hO.take i).anO.flat (W:=w.drew) ((aR _ _).drew))
 have Su:=fun ty=>Lib.run_append_grow_zeros (P:=aP) w 23 3 ty 88 i0 _ .i64 .i64 underlying23 underlying3 hi0 ou (aO ⟨g,0,aN⟩) i cap ((l.take i).flatMap fy) hold (l.length+1-i) (by omega) (by omega) (by omega) (by omega) (by rw[mh];omega) (by rw[mh];exact growslice_fits (by omega) (by omega))
 rw[show i+(l.length+1-i)=l.length+1 by omega,show((l.length+1-i:aE):aF)=(l.length:aF)+1-(i:aF) by omega]at Su;obtain⟨G,hG⟩:=ee (grownCap w (l.length+1) cap 88)
 obtain⟨ROW,Vr⟩:=ee (((l.take i).flatMap fy).toArray++Builtin.zeroCells (Value.agg #[ai ⟨#[]⟩,aa ag 0,ai ⟨#[]⟩,aq aH]).cells (l.length+1-i)++Builtin.zeroCells (Value.agg #[ai ⟨#[]⟩,aa ag 0,ai ⟨#[]⟩,aq aH]).cells (G-(l.length+1)):Array az)
 rw[<- hG]at Su;rw[<- Vr]at Su;have hGn:l.length+1<=G:=by rw[hG];exact Vk w _ _ _
 have hGm:G<=maxLen:=by rw[hG];exact grownCap_le_maxLen w _ _ _ (by unfold maxLen;omega)
 have Uo:Own (w.drew.alloc (aM ROW 88)) w G (l.take i):=by refine AB w.drew _ _ _ ?_ (by rw[bL];omega) hGm (fun k v hk=>by rw[Vr,Array.append_assoc];exact append_left hk);rw[Vr];simp only[Array.size_append,Value.cells,FF,ju,iY,bL];omega
 have K5:∀ j u,(fy e)[j]?=aO u->(w.drew.alloc (aM ROW 88)).cell? ⟨vb,j,aN⟩=aO u:=fun j u hu=>by rw[((aR w w).drew.alloc (aV _) _).cell (p:=⟨vb,j,aN⟩) agq];exact hv j u hu
 have K4:∀ j u,((l.drop i).flatMap fy)[j]?=aO u->(w.drew.alloc (aM ROW 88)).cell? ⟨g,i*4+j,aN⟩=aO u:=fun j u hu=>by rw[((aR w w).drew.alloc (aV _) _).cell (p:=⟨g,i*4+j,aN⟩) Gd];obtain⟨a,x,b,h1,h2,rfl⟩:=sU hu;rw[fN]at h1;rw[show i*4+(a*4+b)=(i+a)*4+b by omega];exact hO.cell h1 h2
 obtain⟨W1,vJ⟩:=ee (w.drew.alloc (aM ROW 88))
 have afn:W1=(w.alloc (aM ROW 88)).drew:=by rw[vJ];rfl
 have R9:w.grownBy W1 (aO g):=by rw[vJ];exact jB (k9 w _) ((aR w w).drew.alloc (aV _) _)
 rw[<- vJ]at Su Uo K5 K4;have Si:(l.take i).length=i:=by rw[bL];omega
 have abn:∀ ty dc,(Builtin.copy_ #[23,22] ty #[ah (aO ⟨w,i*4,aN⟩) (l.length+1-i) dc,ah (aO vb) 1 1]).run aP W1=.ok (goInt 1) (W1.setCells w (i*4) (fy e)):=fun ty dc=>by
  have:=wW W1 23 22 ty underlying23 w (i*4) (l.length+1-i) dc ⟨vb,0,aN⟩ 1 1 [e] (by simp only[Qo,jL];split<;>omega)
   (fun j v hj=>by rw[dG,dD];exact K5 j v (by simpa using hj))
   (fun j hj=>by simp at hj;exact Uo.there (by omega)) (fun j _=>Uo.frozen _)
  simpa using this
 have Nh:Own (W1.setCells w (i*4) (fy e)) w G (l.take i++[e]):=by have:=Uo.over (ns:=[e]) (j:=i) (by omega) (by simp;omega);rw[cz (by omega),cy (by simp[Si]),fj]at this;simpa using this
 obtain⟨W2,xD⟩:=ee (W1.setCells w (i*4) (fy e))
 have Np:∀ j u,((l.drop i).flatMap fy)[j]?=aO u->W2.cell? ⟨g,i*4+j,aN⟩=aO u:=fun j u hu=>by rw[xD,qX _ _ _ _ ⟨g,i*4+j,aN⟩ (fun h _=>by simp at h;omega)];exact K4 j u hu
 rw[<- xD]at Nh abn;have afz:∀ ty dc sc,(Builtin.copy_ #[23,23] ty #[ah (aO ⟨w.heap.size,(i+1)*4,aN⟩) (l.length+1-(i+1)) dc,ah (aO ⟨g,i*4,aN⟩) (l.length-i) sc]).run aP W2.drew=.ok (goInt ((l.length-i:aE):aF)) (W2.drew.setCells w ((i+1)*4) ((l.drop i).flatMap fy)):=fun ty dc sc=>by
  have:=wW W2.drew 23 23 ty underlying23 w ((i+1)*4) (l.length+1-(i+1)) dc ⟨g,i*4,aN⟩ (l.length-i) sc (l.drop i) (by rw[fZ];simp only[Qo];split<;>omega)
   (fun j v hj=>by rw[dG];exact Np j v hj)
   (fun j hj=>by rw[fZ]at hj;exact Nh.there (by omega)) (fun j _=>Nh.frozen _)
  rw[fZ]at this;exact this
 have HO:ax (Own (W2.drew.setCells w ((i+1)*4) ((l.drop i).flatMap fy)) w G (l.take i++e::l.drop i)):=by have:=(Nh.bB (w':=W2.drew) rfl).over (ns:=l.drop i) (j:=i+1) (by simp[Si]) (by rw[fZ];omega);have hd:(l.take i++[e]).drop (i+1+(l.drop i).length)=[]:=cy (by simp[Si]);rw[cz (by simp[Si]),hd]at this;show Own _ _ _ _;simpa using this
 have HG:ax (w.grownBy (W2.drew.setCells w ((i+1)*4) ((l.drop i).flatMap fy)) (aO g)):=by
  have key:∀ (vs:aB az) (o:aE) (W:aw),w.grownBy W (aO g)->w.grownBy (W.setCells w o vs) (aO g):=by
   intro vs;induction vs with
   | nil=>intro o W h;exact h
   | cons v r ih =>intro o W h;exact ih (o+1) _ ⟨h.os,h.tape,h.output,by simp[World.setCell];exact h.size,fun k hk Co=>(cI _ _ _ _ (by show k≠w.heap.size;omega)).trans (h.block k hk Co)⟩
  refine key _ _ _ (jB (W:=W2) ?_ (aR _ _).drew);rw[xD];exact key _ _ _ R9
 have HN:ax (l.length+1=(l.take i++e::l.drop i).length):=by show _=_;simp;omega
 generalize l.length=n at *;have mixed:Tryz.prog.follows .mixedOrders=aI:=by kernel_rfl
 have alS:((i:aF) == (n:aF))=aH:=dw.2 (by omega);have hz3:(cap:aF)<(n:aF)+1:=by omega
 have qM:IntKind.i64.wrap ((i:aF)+1)=(i:aF)+1:=by rw[qq];omega
 have si:(0:aF)<=(i:aF)+1:=by omega
 have mq:i<=n:=by omega
 have htn:((i:aF)+1).toNat=i+1:=by omega
 have zf:(i:aF)<=(n:aF):=by omega
 have hGi:¬ (G=i):=by omega
 have aj2:¬ (G=i+1):=by omega
 have hci:¬ (cap=i):=by omega
 unfold maxLen at hGm;have HD:ax (W1=w.drew.alloc (aM ROW 88)):=vJ;clear hO Uo Nh K5 K4 Np hold Vr hG Si R9 vJ afn xD hv hi0 ou mL mh;go_enter func168,ntmps168;go_wp2_with (first
  | (at_builtin;refine Lib.wpList_append_run _ rfl _ _ 23 3 rfl _ _ rfl rfl _ _ (Su _) ?_)
  | (at_builtin;refine wpList_copy_runI _ rfl _ _ 23 22 rfl _ _ rfl rfl (abn _ _) ?_))
 go_region_law_o (refine step_copy_runI rfl _ _ 23 23 rfl (ah (aO ⟨w.heap.size,(i+1)*4,aN⟩) (n+1-(i+1)) (G-(i+1))) (ah (aO ⟨g,i*4,aN⟩) (n-i) (cap-i)) (by simp[Act.eval,Act.put]) (by simp[Act.eval,Act.put]) (afz _ _ _) ?_);go_wp2;go_ret;exact⟨w.heap.size,G,by rw[<- HN.out];rfl,HO.out,.inr (aV _),HG.out⟩
theorem Dh(l:aB bP)(e:bP)(i g cap:aE)(w:aw)(hO:Own w g cap l)(vb:aE)(hb:w.heap[vb]?=aO (aM (fy e).toArray 88 (0,0)))(hvb:vb≠g)(hi:i<=l.length)(hn:l.length<=10000):ay aP 168 #[ah (aO g) l.length cap,aa ag i,ah (aO vb) 1 1] w (wB (l.take i++e::l.drop i) g w):=by
 have hv:∀ j u,(fy e)[j]?=aO u->w.cell? ⟨vb,j,aN⟩=aO u:=fun j u hu=>by simp only[World.cell?,hb];simpa using hu
 by_cases h1:i<l.length
 ·by_cases h2:l.length+1<=cap
  ·exact Gm l e i g cap w hO vb hb hvb h1 h2 hn
  ·exact IZ l e i g cap w hO vb hv h1 h2 hn
 ·obtain rfl:i=l.length:=by omega
  rw[gh,List.drop_length];exact Ln l e g cap w hO vb hv hn
def j9(t:aB bP)(e:bP):aF:=kb [(cV aH t).1,dv e aH,eL t (bU e.p)]
open Classical in
noncomputable def dW(t:aB bP)(e:bP):aF:=
 if j9 t e=0 then(if ∃ x∈t,x.p=e.p/\¬ ((x.bE == 2)=(e.bE == 2))then 7 else if(∀ x∈t,x.p≠e.p)/\t.length=80 then 5 else 0)else j9 t e
theorem PQ(t:aB bP)(e:bP)(r:aF)(hr:b7 t->r=eL t (bU e.p)):kb [(cV aH t).1,dv e aH,r]=j9 t e:=by
 unfold j9;by_cases h:(cV aH t).1=0
 ·rw[hr (fO.1 h).anF]
 ·simp[kb,h]
theorem sm(h:j9 t e=0):du aH t/\dv e aH=0/\eL t (bU e.p)=0:=by unfold j9 at h;obtain⟨h1,h⟩:=nM.1 h;obtain⟨h2,h⟩:=nM.1 h;obtain⟨h3,_⟩:=nM.1 h;exact⟨fO.1 h1,h2,h3⟩
theorem oY(h:¬ j9 t e=0):dW t e=j9 t e:=by rw[dW,aW h]
theorem uq(h:j9 t e=0)(hy:y∈t)(hp:y.p=e.p):dW t e=if(y.bE == 2)=(e.bE == 2)then 0 else 7:=by
 have hs:=(sm h).1.anF;rw[dW,aY h];by_cases hk:(y.bE == 2)=(e.bE == 2)
 ·rw[aY hk,aW,aW]
  ·rintro⟨g,_⟩;exact g y hy hp
  ·rintro⟨x,hx,yG,hxk⟩
   rw[rL hs hx hy (yG.trans hp.symm)]at hxk;exact hxk hk
 ·rw[aW hk,aY ⟨y,hy,hp,hk⟩]
theorem yl(h:j9 t e=0)(hn:∀ x∈t,x.p≠e.p):dW t e=if t.length=80 then 5 else 0:=by
 rw[dW,aY h,aW]
 ·by_cases oq:t.length=80
  ·rw[aY ⟨hn,oq⟩,aY oq]
  ·rw[aW (fun g=>oq g.2),aW oq]
 ·rintro⟨x,hx,yG,_⟩;exact hn x hx yG
theorem Jp{n c:aE}{er:aF}(hp:fq t e.p i)(hs:b7 t)(hy:t[i]?=aO y/\y.p=e.bm.data.toList)(hn:n=t.length)(h0:er=0)(hr:er=dW t e)(hl:l=if dW t e=0 then kM t e else[])(hO:Own W g c t)(hB:au w w W)(hg:w<=g):iB er l w (aK (aL #[ah (aO g) n c,aa ag 0])) ((((W.setCell ⟨g,i*4,aN⟩ (ai e.bm)).setCell ⟨g,i*4+1,aN⟩ (aa ag e.bE)).setCell ⟨g,i*4+2,aN⟩ (ai e.text)).setCell ⟨g,i*4+3,aN⟩ (aq e.opq)):=by obtain⟨h1,h2⟩:=aQ.1 hy.1;have sN:nJ t e.p i=aI:=tq.2 ⟨h1,by rw[h2];exact hy.2⟩;rw[<- hr,h0,aY rfl,<- hp.set hs sN]at hl;subst hl h0 hn;have CY:=hO.set h1 e;exact⟨aO ⟨g,0,aN⟩,c,by simp,CY.anO,CY.len,nofun,(((hB.setCell hg _).setCell hg _).setCell hg _).setCell hg _⟩
theorem Jo{g' c':aE}{er:aF}{W':aw}(hp:fq t e.p i)(hs:b7 t)(sN:nJ t e.bm i=aH)(h0:er=0)(hr:er=dW t e)(hl:l=if dW t e=0 then kM t e else[])(hO:Own W' g' c' (t.take i++e::t.drop i))(hB:au w w W)(Z6:W.grownBy W' (aO g))(hg:w<=g)(Ei:w<=g'):iB er l w (aK (aL #[ah (aO g') (t.take i++e::t.drop i).length c',aa ag 0])) W':=by rw[<- hr,h0,aY rfl,<- hp.insert hs sN]at hl;subst hl h0;exact⟨aO ⟨g',0,aN⟩,c',rfl,hO.anO,hO.len,nofun,hB.grown Z6 hB.size (fun k hk=>by simp at hk;omega)⟩
theorem OL{p:aC aJ}{n:aE}(hn:n=t.length)(hL:bI w p t)(hW:au w w W)(q:aB aD)(i:aE):(nJ t q i=aI/\∃ y b off,p=aO ⟨b,off,aN⟩/\ax (t[i]?=aO y/\y.p=q)/\i<n/\W.cell? ⟨b,off+i*4,aN⟩=aO (ai y.bm)/\W.cell? ⟨b,off+i*4+1,aN⟩=aO (aa ag y.bE)/\W.cell? ⟨b,off+i*4+2,aN⟩=aO (ai y.text)/\W.cell? ⟨b,off+i*4+3,aN⟩=aO (aq y.opq))\/nJ t q i=aH:=by
 rcases hL with rfl|⟨b,off,rfl,hb,hc⟩
 ·exact .inr rfl
 ·rcases AY hn hc hb hW q i with⟨h,y,h1,h2⟩|h
  ·exact .inl ⟨h,y,b,off,rfl,h1,h2⟩
  ·exact .inr h
theorem V7(t:aB bP)(e:bP)(m:aF)(p:aC aJ)(cap:aE)(w:aw)(hL:bI w p t)(hF:anM t)(hn:t.length<4611686018427387904)(ir:t.length<=cap)(iR:p=aN->cap=0)(he:e.bm.size<=maxLen)(R3:e.bm.size<4611686018427387904)(het:e.text.size<=maxLen)(hm:w.cell? ⟨0,0,aN⟩=aO (aa ag m)):ay aP 121 #[ah p t.length cap,ar #[ai e.bm, aa ag e.bE, ai e.text, aq e.opq]] w (iB (dW t e) (if dW t e=0 then kM t e else[]) w):=by
 have iM:=fun W (hB:au w.heap.size w W)=>pW t m p cap W (hL.bB hB) hF hn ir (held hB hm)
 have BZ:=fun W (hB:au w.heap.size w W)=>wA e aH m W he het (held hB hm)
 have En:=fun W (hB:au w.heap.size w W)=>uj t e.bm p cap W (hL.bB hB) hF hn he R3
 have hfi:=fun W (hB:au w.heap.size w W)=>CQ t e.bm p cap W (hL.bB hB) hF hn he
 have HA:ax (∀ r:aF,(b7 t->r=eL t (bU e.p))->kb [(cV aH t).1,dv e aH,r]=j9 t e):=PQ t e;have fg:au (w.heap.size+1) (w.alloc (aM #[ai e.bm, aa ag e.bE, ai e.text, aq e.opq] 88)) (w.alloc (aM #[ai e.bm, aa ag e.bE, ai e.text, aq e.opq] 88)):=aR _ _;obtain⟨l,hl⟩:∃ l,l=if dW t e=0 then kM t e else[]:=⟨_,rfl⟩
 rw[<- hl];have HL:ax (l=if dW t e=0 then kM t e else[]):=hl;have LI:ax (bI w p t):=hL;clear hl hL hF ir hm;obtain⟨n,eK⟩:=ee t.length
 have HN:ax (n=t.length):=eK;rw[<- eK]at hn iM En hfi ⊢;clear eK;obtain⟨er,ni⟩:=ee (dW t e)
 have HR:ax (er=dW t e):=ni;rw[<- ni];clear ni;obtain⟨ask,nW⟩:=ee (j9 t e)
 rw[<- nW]at HA;have HK:ax (ask=j9 t e):=nW;clear nW;generalize (cV aH t).1=f at iM HA;generalize ((cV aH t).2:aF)=fa at iM;generalize dv e aH=we at BZ HA;have Gc:=wG;go_enter func121,ntmps121;go_wp2;go_region_held3 (fun w'=>w'.cell? w=aO (ai e.bm)/\w'.cell? ⟨w,1,aN⟩=aO (aa ag e.bE)/\w'.cell? ⟨w,2,aN⟩=aO (ai e.text)/\w'.cell? ⟨w,3,aN⟩=aO (aq e.opq)) (go_keep) (first
  | (go_at_call 110;refine(iM _ (eX fg.drew)).mono ?_;clear iM;rintro rr w1 ⟨rfl,hN⟩;replace fg:=oC fg.drew hN;clear hN;obtain⟨⟨c0,c1,c2,c3⟩,_⟩:=iv (bC _) fg)
  | (go_at_call 154;refine(BZ _ (eX fg)).mono ?_;clear BZ;rintro rr w2 ⟨rfl,hN⟩;replace fg:=oC fg hN;clear hN;obtain⟨⟨d0,d1,d2,d3⟩,_⟩:=iv (bC _) fg)
  | (go_at_call 166;refine(En _ (eX fg)).mono ?_;clear En;rintro rr w3 ⟨r,rfl,hr,hN⟩;have HE:ax (kb [f,we,r]=ask):=HA.out r hr;clear hr HA;replace fg:=oC fg hN;clear hN;obtain⟨⟨e0,e1,e2,e3⟩,_⟩:=iv (bC _) fg)
  | (go_at_call 109;refine(NG _ _ _ _).mono ?_;rintro rr w4 ⟨rfl,hw⟩;subst hw;rw[HE.out]))
 replace fg:=Below.alloc fg (by have:=fg.size;simpa using this) (aM #[aa ag f,aa ag we,aa ag r] 31);obtain⟨⟨k0,k1,k2,k3⟩,_⟩:=iv (bC _) fg;by_cases nW:ask=0
 ·have H1:ax (du aH t/\dv e aH=0/\eL t (bU e.p)=0):=sm (HK.symm.trans nW)
  have rE:n<=80:=by rw[HN.out];exact H1.1.len
  have HAK:ax (j9 t e=0):=HK.symm.trans nW;go_wp2_with (first
   | (go_at_call 119;refine(hfi _ (eX fg)).mono ?_;clear hfi;rintro rr w4 ⟨i,rfl,Gf,hG⟩;have HP:ax (fq t e.p i):=Gf;clear Gf;replace fg:=oC fg hG.below;clear hG;obtain⟨⟨g0,g1,g2,g3⟩,_⟩:=iv (bC _) fg;rcases OL HN.out LI.out (eX fg) e.bm.data.toList i with⟨Sb,y,b,off,hpp,HY,mq,q0,q1,q2,q3⟩|Sb<;>try subst hpp)
   | (at_builtin;refine mC _ rfl _ _ rfl w4 rfl ?_ _ n cap t rfl HN.out ?_ iR rE ?_ ?_))
  ·exact om w4 _ rfl
  ·exact(LI.bB (eX fg)).grown ((Grown.refl _).alloc _)
  ·simp
  ·intro g c w5 hO hg fA
   have hX:au w4 w4 w5:=((aR _ _).alloc (aV _) _).trans fA;replace fg:=oC fg hX;obtain⟨⟨j0,j1,j2,j3⟩,_⟩:=iv (bC _) fg;have Nk:b<w4.heap.size:=bg q0;have Yr:b<w5.heap.size:=aZ Nk hX.size;have Lj:w.heap.size<w5.heap.size:=bg j0;have G0:=fun n os=>anT (w:=w5) (a:=⟨b,off+i*4,aN⟩) Yr ((hX.cell (p:=⟨b,off+i*4,aN⟩) Nk).trans q0) n os
   have G1:=fun n os=>anT (w:=w5) (a:=⟨b,off+i*4+1,aN⟩) Yr ((hX.cell (p:=⟨b,off+i*4+1,aN⟩) Nk).trans q1) n os
   have G2:=fun n os=>anT (w:=w5) (a:=⟨b,off+i*4+2,aN⟩) Yr ((hX.cell (p:=⟨b,off+i*4+2,aN⟩) Nk).trans q2) n os
   have G3:=fun n os=>anT (w:=w5) (a:=⟨b,off+i*4+3,aN⟩) Yr ((hX.cell (p:=⟨b,off+i*4+3,aN⟩) Nk).trans q3) n os
   have J0:=fun n os=>anT (w:=w5) (a:=w) Lj j0 n os
   have J1:=fun n os=>anT (w:=w5) (a:=⟨w,1,aN⟩) Lj j1 n os
   have J2:=fun n os=>anT (w:=w5) (a:=⟨w,2,aN⟩) Lj j2 n os
   have J3:=fun n os=>anT (w:=w5) (a:=⟨w,3,aN⟩) Lj j3 n os
   have afJ:w.heap.size<w4.heap.size:=bg g0;have hgw:w<g:=by omega
   have Yv:∀ W,ay aP 167 #[ar #[ai y.bm, aa ag y.bE, ai y.text, aq y.opq]] W fun r w'=>r=aK (aq (y.bE == 2))/\∃ q os',w'=grow (W.drewN q) os':=fun W=>Ar y W
   have wN:∀ W,ay aP 167 #[ar #[ai e.bm, aa ag e.bE, ai e.text, aq e.opq]] W fun r w'=>r=aK (aq (e.bE == 2))/\∃ q os',w'=grow (W.drewN q) os':=fun W=>Ar e W
   have qH:ax (er=if(y.bE == 2)=(e.bE == 2)then 0 else 7):=HR.trans (uq HAK.out (bw HY.1) HY.2);generalize (y.bE == 2)=by' at Yv qH
   generalize (e.bE == 2)=be' at wN qH;have mixed:Tryz.prog.follows .mixedOrders=aI:=by kernel_rfl
   clear q0 q1 q2 q3 hX fA g0 g1 g2 g3 k0 k1 k2 k3;by_cases pN:by'=be'
   ·subst pN
    have Zw:ax (er=0):=by show _=_;rw[qH.out,aY rfl]
    cases by'
    all_goals
     go_wp2;go_quiet_grown (first|exact anU (Yv _)|exact anU (wN _));obtain⟨W6,Cm⟩:=ee (grow (w5.drewN nq) osq)
     have Cj:Grown w5 W6:=⟨nq,osq,Cm⟩
     show Exit.then _ _ Exit.normal _ (grow (w5.drewN nq) osq);rw[<- Cm];clear Cm Yv wN G0 G1 G2 G3 J0 J1 J2 J3;replace fg:=oC fg Cj.below;obtain⟨⟨m0,m1,m2,m3⟩,_⟩:=iv (bC _) fg;obtain⟨⟨a0,a1,a2,a3⟩,⟨f0,f1,f2,f3⟩⟩:=(hO.grown Cj).cells HY.1;go_wp2;go_ret2;exact Jp HP.out H1.1.anF HY.out HN.out Zw.out HR.out HL.out (hO.grown Cj) (eX fg) (bM hgw)
   ·have HE7:ax (er=7):=by show _=_;rw[qH.out,aW pN]
    have M0:ax (l=[]):=by show _=_;rw[HL.out,aW];rw[<- HR.out,HE7.out];decide
    cases by'<;>cases be'<;>first|exact aG rfl pN|skip
    all_goals
     go_wp2;go_quiet_grown (first|exact anU (Yv _)|exact anU (wN _));obtain⟨W6,Cm⟩:=ee (grow (w5.drewN nq) osq)
     have Cj:Grown w5 W6:=⟨nq,osq,Cm⟩
     show Exit.then _ _ Exit.normal _ (grow (w5.drewN nq) osq);rw[<- Cm];clear Cm Yv wN G0 G1 G2 G3 J0 J1 J2 J3;replace fg:=oC fg Cj.below;go_wp2;go_ret2;rw[HE7.out,M0.out];exact iB.none (eX fg)
  ·exact om w4 _ rfl
  ·exact(LI.bB (eX fg)).grown ((Grown.refl _).alloc _)
  ·simp
  ·intro g c w5 hO hg fA
   have hX:au w4 w4 w5:=((aR _ _).alloc (aV _) _).trans fA;replace fg:=oC fg hX;obtain⟨⟨j0,j1,j2,j3⟩,_⟩:=iv (bC _) fg;have afJ:w.heap.size<w4.heap.size:=bg g0;have hgw:w<g:=by omega
   have hno:∀ x∈t,x.p≠e.p:=fun x hx yG=>by have:=(HP.there H1.1.anF).2 ⟨x,hx,yG⟩;rw[show e.p=e.bm.data.toList from rfl,Sb]at this;cases this
   have qH:ax (er=if n=80 then 5 else 0):=by show _=_;rw[HR.out,yl HAK.out hno,HN.out]
   have UY:ax (Own w5 g c t):=hO;clear hX fA g0 g1 g2 g3 k0 k1 k2 k3 hno hO;by_cases oq:n=80
   ·have HE5:ax (er=5):=by show _=_;rw[qH.out,aY oq]
    have M0:ax (l=[]):=by show _=_;rw[HL.out,aW];rw[<- HR.out,HE5.out];decide
    have ae5:((n:aF) == 80)=aI:=by simp;omega
    clear oq;go_wp2;go_quiet (fail);go_wp2;go_ret2;rw[HE5.out,M0.out];exact iB.none (cG (eX fg) _)
   ·have Zw:ax (er=0):=by show _=_;rw[qH.out,aW oq]
    have ae5:((n:aF) == 80)=aH:=by simp;omega
    have Gd:g<w5.heap.size:=UY.lt;have Lb:∀ W:aw,au w5 w5 W->ay aP 168 #[ah (aO g) n c,aa ag i,ah (aO ⟨W.heap.size,0,aN⟩) 1 1] (W.alloc (aM #[ai e.bm, aa ag e.bE, ai e.text, aq e.opq] 88)) (wB (t.take i++e::t.drop i) g (W.alloc (aM #[ai e.bm, aa ag e.bE, ai e.text, aq e.opq] 88))):=fun W hW=>by have:=Dh t e i g c (W.alloc (aM #[ai e.bm, aa ag e.bE, ai e.text, aq e.opq] 88)) ((UY.below hW Gd).grown ((Grown.refl _).alloc _)) W.heap.size (by show(W.heap.push _)[W.heap.size]?=_;simp;rfl) (by have:=hW.size;omega) HP.le (by rw[<- HN.out];omega);rw[<- HN.out]at this;exact this
    clear oq;obtain⟨tl,Pg⟩:∃ tl,tl=t.take i++e::t.drop i:=⟨_,rfl⟩
    simp only[<- Pg]at Lb;have HTL:ax (tl=t.take i++e::t.drop i):=Pg;clear Pg;go_wp2;go_quiet (fail);go_wp2_with (go_at_call 168;refine(Lb _ (cG (aR _ _) _)).mono ?_;clear Lb;rintro rr w7 ⟨g',c',rfl,WX,J7,xr⟩);go_ret2;have agr:=(eX fg).size;have afG:w<=g':=by
     rcases J7 with h|h
     ·omega
     ·simp at h;omega
    have Pg:=HTL.out;subst Pg;exact Jo HP.out H1.1.anF Sb Zw.out HR.out HL.out WX (Below.alloc (cG (eX fg) _) (by simpa using agr) _) xr (bM hgw) afG
 ·have HEA:ax (er=ask):=by show _=_;rw[HR.out,HK.out];exact oY (fun h=>nW (HK.trans h))
  have M0:ax (l=[]):=by show _=_;rw[HL.out,aW];rw[<- HR.out,HEA.out];exact nW
  go_wp2;go_ret2;rw[HEA.out,M0.out];exact iB.none (eX fg)
theorem vD(a b:bP)(w:aw)(ha:a.bm.size<=maxLen)(hb:b.bm.size<=maxLen):ay aP 114 #[ar #[ai a.bm, aa ag a.bE, ai a.text, aq a.opq],ar #[ai b.bm, aa ag b.bE, ai b.text, aq b.opq]] w fun r w'=>r=aK (aa ag (cmp a.p b.p))/\Grown w w':=by go_enter func114,ntmps114;go_wp2_with (go_at_call 159;refine(vE _ _ _ ha hb).mono ?_;rintro r w' ⟨rfl,n,rfl⟩);go_ret;exact⟨rfl,(((Grown.refl w).alloc _).alloc _).drewN _⟩
abbrev NW:Type:={ e:bP // e.bm.size<=maxLen }
instance:Inhabited NW:=⟨⟨default,by decide⟩⟩
def Ec(x:NW):aB az:=fy x.1
def Ig(x y:NW):aF:=cmp x.1.p y.1.p
theorem VU(x y:NW):ltOf Ig x y=decide (cmp x.1.p y.1.p<0):=rfl
theorem TU:SWO (ltOf Ig) where
 irrefl x:=by rw[VU,kY];rfl
 trans x y z h1 h2:=by rw[VU]at *;exact dJ (mY _ _ _ (dE h1) (dE h2))
 ntrans x y z h1 h2:=by
  rw[VU]at *;have g1:=gw h1;have g2:=gw h2;refine bD ?_;have a1:=rA x.1.p y.1.p;have a2:=rA y.1.p z.1.p;have a3:=rA x.1.p z.1.p;by_cases e1:cmp x.1.p y.1.p=0
  ·rw[(mG _ _).1 e1];exact g2
  ·by_cases e2:cmp y.1.p z.1.p=0
   ·rw[<- (mG _ _).1 e2];exact g1
   ·have:=mY z.1.p y.1.p x.1.p (by omega) (by omega)
    omega
theorem CI(blk off size:aE)(w:aw):CmpLays aP 114 #[] Ec 4 Ig blk off size w:=
 fun _ _ _ _ x y=>vD x.1 y.1 _ x.2 y.2
theorem vH{α:Type}[Inhabited α](enc:α->aB az)(k:aE)(w:aw)(blk off n:aE)(d:Array α)(os:Array Obj):w.grownBy (sortWorldK enc k w blk off n d os) (aO blk):=by
 refine⟨rfl,rfl,rfl,?_,fun j hj hn=>?_⟩
 ·show w.heap.size<=((w.heap.modify blk _)++os).size
  simp
 ·show((w.heap.modify blk _)++os)[j]?=_
  rw[lA (by simpa using hj),iJ,aW (by intro e;exact hn (by rw[e]))]
theorem yg{x y:NW}:ltOf Ig y x=aH↔¬ cmp y.1.p x.1.p<0:=by rw[VU];exact ra
def zS(l:aB bP)(h:∀ e∈l,e.bm.size<=maxLen):aB NW:=l.attach.map fun x=>⟨x.1,h x.1 x.2⟩
theorem NQ(l:aB bP)(h:∀ e∈l,e.bm.size<=maxLen):(zS l h).map (·.1)=l:=by unfold zS;rw[List.map_map];exact List.attach_map_subtype_val l
theorem NP(l:aB bP)(h:∀ e∈l,e.bm.size<=maxLen):(zS l h).length=l.length:=by simp[zS]
theorem zG(l:aB bP)(g cap:aE)(w:aw)(hO:Own w g cap l)(hF:∀ e∈l,e.bm.size<=maxLen)(hn:l.length<=80):ay aP 113 #[ah (aO g) l.length cap,.func (.func 114) #[] #[]] w fun e w'=>
   e=aK (aL #[])/\∃ l':aB bP,l'.Perm l/\l'.Pairwise (fun a b=>¬ cmp b.p a.p<0)/\bI w' (aO ⟨g,0,aN⟩) l'/\w.grownBy w' (aO g):=by
 have eg:∀ args w,(callFunc 114 args).run aP w=.ok (.enter 114 args) w:=enters_of func114 (by kernel_rfl) rfl;have hd:(zS l hF).toArray.size=l.length:=by simp[NP]
 have nY:∀ j:aE,j<l.length->l[j]?=aO ((zS l hF).toArray[j]!).1:=fun j hj=>by
  have h1:(zS l hF)[j]?=aO ((zS l hF).toArray[j]!):=by rw[nH _ j (by rw[hd];exact hj)];simp[NP,hj]
  have:=congrArg (·[j]?) (NQ l hF);simp only[cD,h1]at this;exact this.symm
 have hH:HoldsK Ec 4 w g 0 (zS l hF).toArray:=by
  intro j hj;rw[size_flatK,hd]at hj;rw[get_flatK _ _ _ _ (by rw[hd];exact hj),dD];refine⟨?_,hO.frozen _⟩;have hm:j % 4<4:=U6 _ (by decide);have he:=nY (j / 4) (by omega);have hv:(fy ((zS l hF).toArray[j / 4]!).1)[j % 4]?=aO ((Ec (zS l hF).toArray[j / 4]!)[j % 4]!):=by rw[show Ec (zS l hF).toArray[j / 4]! = fy ((zS l hF).toArray[j / 4]!).1 from rfl,mV,aU (by rw[ky];exact hm)];rfl
  have:=hO.cell he hv
  rwa [show j / 4*4+j % 4=j by omega]at this
 have Sj:Lib.bitLen l.length<4611686018427387904:=Nat.lt_of_le_of_lt (Lib.bitLen_le l.length 62 (by omega) (by omega)) (by omega);have td:=AnyQ.pdqsortCmpFunc_all Tryz.sortE 4 Tryz.isAgg88 Tryz.sizeOf88 Ec Ig 114 #[] TU g 0 cap (zS l hF).toArray w eg (CI g 0 _ w) ⟨fun _=>rfl,fun x v hv=>kA (t:=[x.1]) (by simpa[Ec]using hv),hH,hO.lt⟩ ((zS l hF).toArray.size+1) 0 (zS l hF).toArray.size (Lib.bitLen l.length) (zS l hF).toArray w (by omega) rfl (SWK.start hH) (bF _) (aV _) (by rw[hd];omega) Sj (Or.inl rfl);have Db:=pdq_sorts (ltOf Ig) TU (zS l hF).toArray 0 (zS l hF).toArray.size (Lib.bitLen l.length) aI aI (bF _) (aV _) (Or.inl rfl);generalize pdq (ltOf Ig) (zS l hF).toArray 0 (zS l hF).toArray.size (Lib.bitLen l.length) aI aI=d' at td Db;change ay aP 157 _ _ _ at td;have hl:ay aP 158 #[.int .u64 (l.length:aF)] w fun e w'=>e=aK (aa ag (Lib.bitLen l.length:aE))/\w'=w:=by
  have h:=Any.bits_Len (SlLaysF0.n15.bits Tryz.bitsE) (l.length:aF) w (by omega) (by omega)
  rwa [Kl]at h
 have wr:IntKind.u64.wrap (l.length:aF)=l.length:=by simp[IntKind.wrap,IntKind.bits,IntKind.signed];omega
 obtain⟨hp,hs⟩:=Db;rw[hd]at td hp hs;have HO:ax (Own w g cap l):=hO;have HP:ax (PermIn 0 l.length (zS l hF).toArray d'/\SortedIn (ltOf Ig) 0 l.length d'):=⟨hp,hs⟩
 have HH:ax (HoldsK Ec 4 w g 0 (zS l hF).toArray):=hH;have HD:ax ((zS l hF).toArray.size=l.length):=hd;have HG:ax (∀ j:aE,j<l.length->l[j]?=aO ((zS l hF).toArray[j]!).1):=nY;clear hO hp hs hH nY hd eg;generalize xV:Lib.bitLen l.length=bl at *;clear xV;generalize eK:l.length=n0 at td hl wr hn Sj ⊢;have HN:ax (l.length=n0):=eK;clear eK;go_enter func113,ntmps113;go_wp2_with (first|(go_at_call 158;refine hl.mono ?_;rintro e wx ⟨rfl,Hh⟩;subst wx)|(go_at_call 157;refine td.mono ?_;rintro e w' ⟨rfl,n,os,rfl⟩));go_end0;obtain⟨hp,hs⟩:=HP.out;have hd:=HD.out;have hO:=HO.out;have hH:=HH.out;refine⟨rfl,d'.toList.map (·.1),?_,?_,?_,vH _ _ _ _ _ _ _ _⟩
 ·obtain⟨h1,_,h3⟩:=hp
  rw[hd]at h1;have e1:d'.extract 0 l.length=d':=by rw[<- h1,xd]
  have e2:(zS l hF).toArray.extract 0 l.length=(zS l hF).toArray:=by rw[<- hd,xd]
  rw[e1,e2]at h3;have:=h3.map (·.1);simp only[NQ]at this;exact this
 ·rw[Ko,fD]
  intro i j hi hj O5;have h1:=hp.1;rw[hd]at h1;simp at hi hj;have:=hs i j (bF _) O5 (by omega);rw[nH d' j hj,nH d' i hi]at this;simpa using yg.1 this
 ·have h1:=hp.1
  have hH':=holdsK_sortWorldK Ec 4 w g 0 n (zS l hF).toArray d' os hO.lt hH h1;have iL:=(vH Ec 4 w g 0 n d' os).size;refine .inr ⟨g,0,rfl,aZ hO.lt iL,fun j e he i v hv=>?_⟩;rw[cD,gJ]at he;obtain⟨x,hx,rfl⟩:=dM.1 he;obtain⟨hj,rfl⟩:=aX.1 hx;have hi:=tU hv;have:=(HoldsK.cell hH' hj hi).1;rw[nH d' j hj]at this;rw[this];rw[show Ec d'[j]=fy d'[j].1 from rfl,mV,hv];rfl
namespace PM
def jC(f:aB aD)(e:bP):Bool:=decide (e.p=f) || anG e.p f
def ma(bS anW:aA)(e:bP):bP:={ e with bm:=anW++e.bm.extract bS.size e.bm.size }
def D4(bS anW:aA)(e:bP):bP:=if jC bS e then ma bS anW e else e
def gO(t:aB bP)(bS anW:aA):aB bP:=(pq t anW).map (D4 bS anW)
def pY(t:aB bP)(bS anW:aA):Bool:=(pq t anW).any fun e=>jC bS e && !anI (ma bS anW e).p
end PM
theorem vN(h:jC bS e=aI):bS.size<=e.bm.size:=by
 unfold jC at h;rcases jx.1 h with h|h
 ·have:=congrArg List.length (dE h)
  rw[bP.p,ix,ix]at this;omega
 ·by_cases h0:bS.data.toList=[]
  ·rw[<- ix bS,h0];simp
  ·obtain⟨r,hr⟩:=(eB _ _ h0).1 h
   have:=congrArg List.length hr;rw[bP.p,ix,cJ,ix]at this;omega
def uN(t:aB bP)(f anW:aB aD):aF:=
 match bW t anW with
 | none=>0
 | some Zg=>if(Zg.bE == 2) && !(((bW t f).getD cR).bE == 2)then 9 else if !(Zg.bE == 2) && (((bW t f).getD cR).bE == 2)then 10 else qc t anW
theorem Nf{o:aC bP}{b:Bool}(h:o=if b then aO y else aN)(hz:b=aH->y=cR):o.getD cR=y:=by
 cases b
 ·rw[h,hz rfl];rfl
 ·rw[h];rfl
theorem LM(t:aB bP)(bS anW:aA)(p:aC aJ)(cap:aE)(w:aw)(hL:bI w p t)(hF:anM t)(hn:t.length<4611686018427387904)(hf:bS.size<=maxLen)(ht:anW.size<=maxLen)(hs:b7 t):ay aP 178 #[ah p t.length cap,ai bS,ai anW] w fun r w'=>r=aK (aa ag (uN t bS anW))/\au w w w':=by
 have x7:=y9 t anW p cap w hL hF hn ht;have uI:=fun W (hB:au w.heap.size w W)=>y9 t bS p cap W (hL.bB hB) hF hn hf
 have Yz:=fun W (hB:au w.heap.size w W)=>Iu t anW p cap W (hL.bB hB) hF hn ht
 obtain⟨r0,Qy⟩:=ee (uN t bS anW)
 have HR:ax (r0=uN t bS anW):=Qy;rw[<- Qy];have HS:ax (b7 t):=hs;have HFU:ax (qc t anW.data.toList=qc t anW):=rfl;obtain⟨fl,hfl⟩:=ee (qc t anW)
 have HFL:ax (fl=qc t anW):=hfl;rw[<- hfl]at Yz;clear Qy hs hfl hL hF HFU;generalize t.length=n at *;go_enter func178,ntmps178;go_wp2_with (first
  | (go_at_call 76;refine x7.mono ?_;clear x7;rintro e w1 ⟨⟨xp,xk,xt,xo⟩,b,rfl,hg,hz,hx,hB⟩;have HG:ax (bW t anW.data.toList=if b then aO ⟨xp,xk,xt,xo⟩else aN):=hg HS.out;clear hg hz hx;cases b)
  | (go_at_call 76;refine(uI _ (hB.alloc hB.size _)).mono ?_;clear uI;rintro e w2 ⟨⟨yp,yk,yt,yo⟩,b2,rfl,Ei,Xl,Ph,fC⟩;have HY:ax ((bW t bS).getD cR=⟨yp,yk,yt,yo⟩):=Nf (Ei HS.out) Xl;clear Ei Xl Ph;replace hB:=Below.bK (hB.alloc hB.size _) fC;replace fC:=fC.mono (rP (by simp:w1.heap.size+1=_));have eG:au (w2.heap.size+1) (w2.alloc (aM #[ai yp,aa ag yk,ai yt,aq yo] 88)) (w2.alloc (aM #[ai yp,aa ag yk,ai yt,aq yo] 88)):=aR _ _;replace fC:=fC.alloc (by have:=fC.size;simpa using this) (aM #[ai yp,aa ag yk,ai yt,aq yo] 88);obtain⟨⟨c0,c1,c2,c3⟩,_⟩:=iv (bC _) fC;by_cases hkx:xk=2<;>by_cases Z9:yk=2<;>(try subst hkx)<;>(try subst Z9))
  | (go_at_call 167;refine(A3 _ _ _ _ _).mono ?_;rintro rr w3 ⟨rfl,hG⟩;replace fC:=oC fC hG.below;replace eG:=oC eG hG.below;clear hG;obtain⟨⟨d0,d1,d2,d3⟩,_⟩:=iv (bC _) fC;obtain⟨⟨e0,e1,e2,e3⟩,_⟩:=iv (bC _) eG)
  | (go_at_call 172;refine(Yz _ (Below.bK hB (eX eG))).mono ?_;clear Yz;rintro rr w4 ⟨rfl,hN⟩;replace eG:=oC eG hN;clear hN))
 ·go_ret
  refine⟨gu ?_,hB.alloc hB.size _⟩;rw[HR.out,uN,HG.out];rfl
 all_goals go_ret
 all_goals refine⟨gu ?_,Below.bK hB (eX eG)⟩
 all_goals rw[HR.out,uN,HG.out]
 all_goals simp only[mU,HY.out]
 all_goals first
  | rw[HFL.out]
  | skip
 all_goals first
  | rfl
  | (simp only[Vc,fh,Bool.not_eq_true',dw,ne_eq,and_false,pk,and_true,hkx,Z9,not_false_eq_true])
  | simp_all
 all_goals (exfalso;simp_all)
theorem Own.setPath(h:Own w g cap l){j:aE}(hy:l[j]?=.some y)(q:aA):Own (w.setCell ⟨g,j*4,aN⟩ (ai q)) g cap (l.set j { y with bm:=q }):=by
 obtain⟨hj,SG⟩:=aQ.1 hy;obtain⟨eI,hc,hs,hl,hm,hh⟩:=h;refine⟨_,heap_set hc (j*4) (ai q),by simpa using hs,by simpa using hl,hm,fun k e he i v hv=>?_⟩;have hi:=tU hv;rw[eR]at he;rw[fE];by_cases hk:j=k
 ·subst hk
  rw[aY rfl,aY hj]at he;simp only[dt]at he;subst he
  match i,hi,hv with
  | 0,_,hv=>rw[aY (by omega),aY (by rw[hs];omega)];simpa[fy]using hv
  | 1,_,hv=>rw[aW (by omega)];exact hh j y hy 1 v (by simpa[fy]using hv)
  | 2,_,hv=>rw[aW (by omega)];exact hh j y hy 2 v (by simpa[fy]using hv)
  | 3,_,hv=>rw[aW (by omega)];exact hh j y hy 3 v (by simpa[fy]using hv)
 ·rw[aW hk]at he
  rw[aW (by omega)];exact hh k e he i v hv
def Na(R:aB bP)(bS anW:aA)(k:aE):aB bP:=(R.take k).map (D4 bS anW)++R.drop k
theorem Nb(R:aB bP)(bS anW:aA)(k:aE):(Na R bS anW k).length=R.length:=by simp[Na];omega
theorem KG(hy:R[k]?=aO y):(Na R bS anW k)[k]?=aO y:=by have hk:=(aQ.1 hy).1;unfold Na;rw[cg (by simp;omega)];simp[eM (bM hk),hy]
theorem Il(hy:R[k]?=aO y):Na R bS anW (k+1)=(Na R bS anW k).set k (D4 bS anW y):=by
 obtain⟨hk,SG⟩:=aQ.1 hy;apply dz;intro j;unfold Na;rw[eR];by_cases e1:k=j
 ·subst e1
  rw[aY rfl,aY (by simp;omega),bR (by simp;omega)];simp[hy]
 ·rw[aW e1]
  by_cases e2:j<k
  ·rw[bR (by simp;omega),bR (by simp;omega),cD,cD,dm,dm,aY (by omega),aY e2]
  ·rw[cg (by simp;omega),cg (by simp;omega)]
   simp only[bQ,bL,fN];congr 1;omega
theorem Ri(hy:R[k]?=aO y)(hn:jC bS y=aH):Na R bS anW (k+1)=Na R bS anW k:=by
 rw[Il hy,D4,hn];apply dz;intro j;rw[eR];by_cases e:k=j
 ·subst e
  have hk:=(aQ.1 hy).1;rw[aY rfl,aY (by rw[Nb];exact hk),KG hy];rfl
 ·rw[aW e]
def N5(t:aB bP)(bS anW:aA)(w:aw)(r:Ending)(w':aw):Prop:=
 (pY t bS anW=aI/\iB 4 [] w r w')\/(pY t bS anW=aH/\∃ l:aB bP,l.Perm (gO t bS anW)/\l.Pairwise (fun a b=>¬ cmp b.p a.p<0)/\iB 0 l w r w')
theorem Q0(hy:y∈R)(hi:jC bS y=aI)(hc:anI (ma bS anW y).p=aH):(R.any fun e=>jC bS e && !anI (ma bS anW e).p)=aI:=
 dy.2 ⟨y,hy,by simp[hi,hc]⟩
theorem yO(hy:R[k]?=aO y)(h:((R.take k).any fun e=>jC bS e && !anI (ma bS anW e).p)=aH)(hb:(jC bS y && !anI (ma bS anW y).p)=aH):((R.take (k+1)).any fun e=>jC bS e && !anI (ma bS anW e).p)=aH:=by rw[gi hy,List.any_append,h];simp[hb]
theorem kZ{a b:aA}(h:a.data.toList=b.data.toList):(a.toList == b.toList)=aI/\a.toList=b.toList:=by rw[bq,bq,h];simp
theorem j8{a b:aA}(h:¬ a.data.toList=b.data.toList):(a.toList == b.toList)=aH/\¬ a.toList=b.toList:=by rw[bq,bq];exact⟨by simpa using h,h⟩
theorem Py(t:aB bP)(bS anW:aA)(m:aF)(p:aC aJ)(cap:aE)(w:aw)(hL:bI w p t)(iR:p=aN->cap=0)(hr:du aH t)(hf:bS.size<=80)(ht:anW.size<=80)(hm:w.cell? ⟨0,0,aN⟩=aO (aa ag m)):ay aP 179 #[ah p t.length cap,ai bS,ai anW] w (N5 t bS anW w):=by
 have IX:=qp t anW p cap w hL iR hr.len;have Yj:(pq t anW).length<=80:=bc (ed _ _) hr.len;have XM:ax (∀ y∈pq t anW.data.toList,y.bm.size<=80):=fun y hy=>fG (hr.anI (jJ.1 hy).1)
 have IW:=fun W g c (hO:Own W g c (gO t bS anW))=>zG (gO t bS anW) g c W hO
 have Uz:(gO t bS anW).length=(pq t anW).length:=by simp[gO]
 rw[Uz]at IW;have HB:ax (pY t bS anW=(pq t anW).any fun e=>jC bS e && !anI (ma bS anW e).p):=rfl;have HM:ax (gO t bS anW=Na (pq t anW) bS anW (pq t anW).length):=by show _=_;simp[gO,Na]
 obtain⟨R,hRR⟩:=ee (pq t anW)
 have HRR:ax (pq t anW.data.toList=R):=hRR.symm;clear hL iR hr;unfold rY at IX;rw[<- hRR]at IX Yj XM IW Uz HB HM;clear hRR;obtain⟨n,eK⟩:=ee R.length
 have HN:ax (n=R.length):=eK;rw[<- eK]at IX Yj IW HM Uz;have abI:ax ((gO t bS anW).length=n):=Uz;clear eK Uz;go_enter func179,ntmps179;go_wp2_with (go_at_call 173;refine IX.mono ?_;clear IX;rintro e w1 ⟨g,c,rfl,hg,hO,hB⟩;have HO:ax (Own w1 g c R):=hO;have HBl:ax (au w w w1):=hB;clear hO hB);go_loopg [16] n (fun gg s16 wr=>∃ k:aE,k<=n/\n-k<=gg/\s16=aa ag k/\ax (Own wr g c (Na R bS anW k))/\ax (au w w wr)/\ax (((R.take k).any fun e=>jC bS e && !anI (ma bS anW e).p)=aH))
 case atStart=>exact⟨0,bF _,by omega,rfl,by simpa[Na,ax]using HO.out,HBl.out,by simp[ax]⟩
 case round=>
  obtain⟨k,hk,oP,rfl,OW,BW,NB⟩:=hrel;have Gd:=OW.lt;have hne:g≠wr.heap.size:=by omega
  by_cases gm:k<n
  ·have eN:(k:aF)<(n:aF):=by omega
   obtain⟨y,hy⟩:∃ y,R[k]?=aO y:=⟨_,aU (by have:=HN.out;omega)⟩
   have HY:ax (R[k]?=aO y):=hy;have qg:=XM.out y (bw hy);obtain⟨⟨c0,c1,c2,c3⟩,⟨f0,f1,f2,f3⟩⟩:=OW.cells (KG hy);have hym:y.bm.size<=maxLen:=by unfold maxLen;omega
   have hfm:bS.size<=maxLen:=by unfold maxLen;omega
   have nI:=fun W=>rq y.bm bS W hym hfm
   have mz:=fun W (hB:au w.heap.size w W)=>z8 (anW++y.bm.extract bS.size y.bm.size) m W (by unfold maxLen;simp;omega) (held hB hm)
   clear hy;cases mq:jC bS y with
   | false=>
    have D0:¬ y.bm.data.toList=bS.data.toList:=fun e=>by unfold jC at mq;rw[show y.p=y.bm.data.toList from rfl,e]at mq;simp at mq
    have Hg:anG y.bm bS.data.toList=aH:=by unfold jC at mq;exact(mj.1 mq).2
    obtain⟨e1,e2⟩:=j8 D0;rw[Hg]at nI;clear D0 Hg;go_wp2_with (go_at_call 134;refine(nI _).mono ?_;rintro rr wx ⟨rfl,Hh⟩;subst wx);go_roundg (n-(k+1))
    case measure=>omega
    case rel=>exact⟨k+1,by omega,by omega,by go_num,by rw[Ri HY.out mq];exact OW.grown ((Grown.refl wr).alloc _),(BW.alloc BW.size _:au _ _ _),yO HY.out NB.out (by rw[mq];rfl)⟩
   | true=>
    have iL:=vN mq;have VN:(bS.size:aF)<=(y.bm.size:aF):=by omega
    have sk:(y.bm.data.toList=bS.data.toList)\/(¬ y.bm.data.toList=bS.data.toList/\anG y.bm bS.data.toList=aI):=by
     unfold jC at mq;by_cases h:y.bm.data.toList=bS.data.toList
     ·exact .inl h
     ·refine .inr ⟨h,?_⟩
      rcases jx.1 mq with g|g
      ·exact aG (dE g) h
      ·exact g
    have HE:ax ((ma bS anW y).p=(anW++y.bm.extract bS.size y.bm.size).data.toList):=rfl;have UW:ax (D4 bS anW y={ y with bm:=anW++y.bm.extract bS.size y.bm.size }):=by show _=_;rw[D4,mq];rfl
    have pj:(anW++y.bm.extract bS.size y.bm.size).size<=160:=by simp;omega
    have fC:au w w ((wr.setCell ⟨g,k*4,aN⟩ (ai (anW++y.bm.extract bS.size y.bm.size))).alloc (aM #[ai y.bm, aa ag y.bE, ai y.text, aq y.opq] 88)):=(BW.setCell hg _).alloc (by have:=BW.size;simpa[World.setCell]using this) _;have OW2:ax (Own ((wr.setCell ⟨g,k*4,aN⟩ (ai (anW++y.bm.extract bS.size y.bm.size))).alloc (aM #[ai y.bm, aa ag y.bE, ai y.text, aq y.opq] 88)) g c (Na R bS anW (k+1))):=by have:=(OW.setPath (KG HY.out) (anW++y.bm.extract bS.size y.bm.size)).grown ((Grown.refl _).alloc (aM #[ai y.bm, aa ag y.bE, ai y.text, aq y.opq] 88));rw[<- UW.out,<- Il HY.out]at this;exact this
    have xX:=mz _ fC;clear mz;generalize j5:anW++y.bm.extract bS.size y.bm.size=new at xX HE UW pj fC OW2;have HNW:ax (anW++y.bm.extract bS.size y.bm.size=new):=j5;cases Z3:anI new with
    | false=>
     rw[Z3]at xX;have aak:ax (pY t bS anW=aI):=by show _=_;rw[HB.out];exact Q0 (bw HY.out) mq (by rw[HE.out];exact Z3)
     rcases sk with h1|⟨h1,h2⟩
     ·obtain⟨e1,e2⟩:=kZ h1
      clear h1;go_wp2_with (go_at_call 177;refine xX.mono ?_;clear xX;rintro rr w3 ⟨rfl,hN⟩);go_ret2;exact .inl ⟨aak.out,iB.none (Below.bK fC hN)⟩
     ·obtain⟨e1,e2⟩:=j8 h1
      rw[h2]at nI;clear h1 h2;go_wp2_with (first|(go_at_call 134;refine(nI _).mono ?_;rintro rr wx ⟨rfl,Hh⟩;subst wx)|(go_at_call 177;refine xX.mono ?_;clear xX;rintro rr w3 ⟨rfl,hN⟩));go_ret2;exact .inl ⟨aak.out,iB.none (Below.bK fC hN)⟩
    | true=>
     rw[Z3]at xX;have hNB:((R.take (k+1)).any fun e=>jC bS e && !anI (ma bS anW e).p)=aH:=yO HY.out NB.out (by rw[HE.out,Z3];simp);have QM:ax (((R.take (k+1)).any fun e=>jC bS e && !anI (ma bS anW e).p)=aH):=hNB;have rT:=OW2.lt;clear hNB;rcases sk with h1|⟨h1,h2⟩
     ·obtain⟨e1,e2⟩:=kZ h1
      clear h1;go_wp2_with (go_at_call 177;refine xX.mono ?_;clear xX;rintro rr w3 ⟨rfl,hN⟩);go_roundg (n-(k+1))
      case measure=>omega
      case rel=>exact⟨k+1,by omega,by omega,by go_num,OW2.below hN rT,Below.bK fC hN,QM.out⟩
     ·obtain⟨e1,e2⟩:=j8 h1
      rw[h2]at nI;clear h1 h2;go_wp2_with (first|(go_at_call 134;refine(nI _).mono ?_;rintro rr wx ⟨rfl,Hh⟩;subst wx)|(go_at_call 177;refine xX.mono ?_;clear xX;rintro rr w3 ⟨rfl,hN⟩));go_roundg (n-(k+1))
      case measure=>omega
      case rel=>exact⟨k+1,by omega,by omega,by go_num,OW2.below hN rT,Below.bK fC hN,QM.out⟩
  ·obtain rfl:k=n:=by omega
   have eN:¬ (k:aF)<(k:aF):=by omega
   have aap:ax (pY t bS anW=aH):=by show _=_;have:=NB.out;rw[HN.out,gh]at this;rw[HB.out];exact this
   have tI:=IW wr g c (by rw[HM.out];exact OW.out) (fun e he=>by
    unfold gO at he;obtain⟨x,hx,rfl⟩:=fT.1 he;have oq:=XM.out x (by rw[<- HRR.out];exact hx);unfold D4 maxLen;split
    ·simp[ma];omega
    ·omega) Yj
   clear IW;go_wp2_with (go_at_call 113;refine tI.mono ?_;clear tI;rintro rr w4 ⟨rfl,l',hp,hs,hLi,Z6⟩;have HS:ax _:=hs;clear hs);go_ret2;refine .inr ⟨aap.out,l',hp,HS.imp (fun h=>by omega),aO ⟨g,0,aN⟩,c,?_,hLi,?_,nofun,BW.grown Z6 BW.size (fun j hj=>by simp at hj;omega)⟩
   ·rw[hp.length_eq,abI.out];rfl
   ·rw[hp.length_eq,abI.out];have:=OW.len;rw[Nb,<- HN.out]at this;exact this
end Go.Proofs.YtjnkfelecopbjaaGreatDoor
namespace Go.Proofs.YtjnkfelecopbjaaGreatDoor.PM
variable{e x:bP}{l t:aB bP}{r:aB (aB bP)}
def iV(b ms:aB bP):aB bP:=ms.foldl kM b
theorem vX:∀ (ms b:aB bP),b7 b->ms.Pairwise (fun a b=>a.p≠b.p)->b7 (iV b ms)/\∀ x,x∈iV b ms↔x∈ms\/x∈b/\∀ m∈ms,x.p≠m.p
 | [],b,hs,_=>⟨hs,fun x=>by simp[iV]⟩
 | m::ms,b,hs,hd=>by
  have DV:=eJ.1 hd;obtain⟨h1,h2⟩:=vX ms (kM b m) (iw hs m) DV.2;refine⟨h1,fun x=>?_⟩;show x∈iV (kM b m) ms↔_;rw[h2,jo];constructor
  ·rintro(hx|⟨rfl|⟨hb,hne⟩,hm⟩)
   ·exact .inl (jc _ hx)
   ·exact .inl (by simp)
   ·refine .inr ⟨hb,fun y hy=>?_⟩
    rcases cX.1 hy with rfl|hy
    ·exact hne
    ·exact hm y hy
  ·rintro(hx|⟨hb,hm⟩)
   ·rcases cX.1 hx with rfl|hx
    ·exact .inr ⟨.inl rfl,fun y hy=>DV.1 y hy⟩
    ·exact .inl hx
   ·exact .inr ⟨.inr ⟨hb,hm m (by simp)⟩,fun y hy=>hm y (jc _ hy)⟩
theorem Jr:∀ (ms b:aB bP),b7 b->ms.Pairwise (fun a b=>a.p≠b.p)->(∀ x∈b,∀ m∈ms,x.p≠m.p)->(iV b ms).length=ms.length+b.length
 | [],b,hs,_,_=>by simp[iV]
 | m::ms,b,hs,hd,hb=>by
  have DV:=eJ.1 hd;have h1:(kM b m).length=b.length+1:=by rw[sq hs,aW];rintro⟨x,hx,hp⟩;exact hb x hx m (by simp) hp
  have:=Jr ms (kM b m) (iw hs m) DV.2 (fun x hx y hy=>by
   rcases jo.1 hx with rfl|⟨hx,_⟩
   ·exact DV.1 y hy
   ·exact hb x hx y (jc _ hy))
  show(iV (kM b m) ms).length=_;rw[this,h1,cj];omega
theorem uO(h:b7 l):l.Pairwise fun a b=>a.p≠b.p:=h.imp pR
theorem DF(hd:l.Pairwise fun a b=>a.p≠b.p)(hs:l.Pairwise fun a b=>¬ cmp b.p a.p<0):b7 l:=by have:=hd.and hs;refine this.imp ?_;rintro a b ⟨h1,h2⟩;exact CJ h2 (lD h1)
theorem Jl{pre:aB bP}(hp:l.Perm pre)(hd:pre.Pairwise fun a b=>a.p≠b.p)(hs:l.Pairwise fun a b=>¬ cmp b.p a.p<0):b7 l:=
 DF ((hp.pairwise_iff (fun{a b} h=>lD h)).2 hd) hs
theorem o6{a b c:aB aD}(hb:b≠[])(hc:c≠[])(h1:anG a b=aI)(h2:anG b c=aI):anG a c=aI:=by obtain⟨r,rfl⟩:=(eB _ _ hb).1 h1;obtain⟨s,rfl⟩:=(eB _ _ hc).1 h2;exact(eB _ _ hc).2 ⟨s++47::r,by simp⟩
/-! layers -/
def kX(e:bP):bP:={ e with opq:=aH }
def jg(l:aB bP):aB bP:=(l.filter fun e => !(e.bE == 4)).map kX
def fL(q:aB aD)(e:bP):Bool:=decide (e.p=q) && !(e.bE == 2) || anG q e.p && (!(e.bE == 2) || e.opq)
def fM(l:aB bP)(q:aB aD):Bool:=l.any (fL q)
def rK(l:aB bP)(e:bP):Bool:=(bW l e.p).isNone && !fM l e.p
def jK(l t:aB bP):aB bP:=t.filter (rK l)
def lq(l t:aB bP):aB bP:=iV (jK l t) (jg l)
def tu(l t:aB bP):aE:=(jg l++jK l t).length
def gH(l t:aB bP):aF:=if(cV aI l).1=0 then(if(cV aH t).1=0 then(if 80<tu l t then 5 else 0)else(cV aH t).1)else(cV aI l).1
theorem qO:gH l t=0↔du aI l/\du aH t/\tu l t<=80:=by
 unfold gH;by_cases h1:(cV aI l).1=0
 ·rw[aY h1]
  by_cases h2:(cV aH t).1=0
  ·rw[aY h2]
   by_cases h3:80<tu l t
   ·rw[aY h3]
    exact⟨fun h=>aG h (by decide),fun h=>by omega⟩
   ·rw[aW h3]
    exact⟨fun _=>⟨fO.1 h1,fO.1 h2,by omega⟩,fun _=>rfl⟩
  ·rw[aW h2]
   exact⟨fun h=>aG h h2,fun h=>aG (fO.2 h.2.1) h2⟩
 ·rw[aW h1]
  exact⟨fun h=>aG h h1,fun h=>aG (fO.2 h.1) h1⟩
theorem j7:x∈jg l↔∃ y∈l,¬ y.bE=4/\kX y=x:=by
 unfold jg;rw[fT];constructor
 ·rintro⟨y,hy,rfl⟩
  rw[dS]at hy;exact⟨y,hy.1,by simpa using hy.2,rfl⟩
 ·rintro⟨y,hy,hk,rfl⟩
  exact⟨y,dS.2 ⟨hy,by simpa using hk⟩,rfl⟩
theorem jU:x∈jK l t↔x∈t/\bW l x.p=aN/\fM l x.p=aH:=by unfold jK rK;rw[dS];simp
theorem oX(h:b7 l):(jg l).Pairwise fun a b=>a.p≠b.p:=by unfold jg;rw[Ko];exact(dY _ h).imp fun h=>pR h
theorem DG:∀ x∈jK l t,∀ m∈jg l,x.p≠m.p:=by intro x hx m hm he;obtain⟨y,hy,_,rfl⟩:=j7.1 hm;exact(gU (jU.1 hx).2.1).2 y hy he.symm
theorem sx(h:b7 t):b7 (jK l t):=dY _ h
theorem mO(hl:b7 l)(ht:b7 t):b7 (lq l t):=(vX _ _ (sx ht) (oX hl)).1
theorem j6(hl:b7 l)(ht:b7 t):x∈lq l t↔x∈jg l\/x∈jK l t:=by unfold lq;rw[(vX _ _ (sx ht) (oX hl)).2];exact⟨fun h=>h.imp id (·.1),fun h=>h.imp id fun h=>⟨h,DG x h⟩⟩
theorem zu(hl:b7 l)(ht:b7 t):(lq l t).length=tu l t:=by unfold lq tu;rw[Jr _ _ (sx ht) (oX hl) DG,cJ]
theorem Gz(hl:b7 l)(ht:b7 t):(jg l++jK l t).Pairwise fun a b=>a.p≠b.p:=by rw[dA];exact⟨oX hl,uO (sx ht),fun a ha b hb=>lD (DG b hb a ha)⟩
theorem NH{r:aB bP}(hl:b7 l)(ht:b7 t)(hp:r.Perm (jg l++jK l t))(hs:r.Pairwise fun a b=>¬ cmp b.p a.p<0):r=lq l t:=by
 refine oc (Jl hp (Gz hl ht) hs) (mO hl ht) fun x=>?_
 rw[j6 hl ht,hp.mem_iff,bZ]
theorem Te(hl:b7 l)(ht:b7 t)(hne:∀ e∈t,e.p≠[]):iV (t.filter fun e => !fM l e.p) (jg l)=lq l t:=by
 have QA:b7 (t.filter fun e => !fM l e.p):=dY _ ht;obtain⟨h1,h2⟩:=vX (jg l) _ QA (oX hl);refine oc h1 (mO hl ht) fun x=>?_
 rw[h2,j6 hl ht,jU,dS];constructor
 ·rintro(h|⟨⟨hx,hh⟩,hm⟩)
  ·exact .inl h
  ·refine .inr ⟨hx,eV (hne x hx) (fun y hy hp=>?_),by simpa using hh⟩
   by_cases hk:y.bE=4
   ·have:fM l x.p=aI:=dy.2 ⟨y,hy,by simp[fL,hp,hk]⟩
    rw[this]at hh;cases hh
   ·exact hm (kX y) (j7.2 ⟨y,hy,hk,rfl⟩) hp.symm
 ·rintro(h|⟨hx,hg,hh⟩)
  ·exact .inl h
  ·refine .inr ⟨⟨hx,by simpa using hh⟩,fun m hm he=>?_⟩
   obtain⟨y,hy,_,rfl⟩:=j7.1 hm;exact(gU hg).2 y hy he.symm
theorem ye(h:dv e aH=0):¬ e.bE=4/\e.opq=aH:=by
 unfold dv at h;split at h
 ·omega
 rename_i h1;split at h
 ·omega
 split at h
 ·omega
 split at h
 ·omega
 rename_i h4;refine⟨fun hk=>h1 (by simp[hk]),?_⟩;cases ho:e.opq with
 | false=>rfl
 | true=>exact aG (by simp[ho]) h4
theorem GV(h:dv e aH=0):dv e aI=0:=by obtain⟨h4,ho⟩:=ye h;unfold dv at h ⊢;rw[ho]at h ⊢;simp[h4]at h ⊢;exact h
theorem zK(h:dv e aI=0)(hk:¬ e.bE=4):dv (kX e) aH=0:=by
 unfold dv at h ⊢;have hp:(kX e).p=e.p:=rfl;have h2:(kX e).bE=e.bE:=rfl;have h3:(kX e).text=e.text:=rfl;have h4:(kX e).opq=aH:=rfl;rw[hp,h2,h3,h4];simp only[hk,decide_false,D8,UK,xg,GX,Xx]at h ⊢;split at h
 ·omega
 rename_i c1;rw[aW c1];split at h
 ·omega
 rename_i c2;rw[aW c2];split at h
 ·omega
 rename_i c3;rw[aW c3];split at h
 ·omega
 rename_i c4;rw[aW];intro c;apply c4;rw[c];rfl
theorem Oh(h:e.opq=aH):kX e=e:=by obtain⟨p,k,t,o⟩:=e;simp at h;subst h;rfl
theorem LZ(h:gH l t=0):du aH (lq l t):=by
 obtain⟨hl,ht,hn⟩:=qO.1 h;refine⟨by rw[zu hl.anF ht.anF];exact hn,fun e he=>?_,mO hl.anF ht.anF,fun e he=>?_⟩
 ·rcases(j6 hl.anF ht.anF).1 he with he|he
  ·obtain⟨y,hy,hk,rfl⟩:=j7.1 he
   exact zK (hl.each y hy) hk
  ·exact ht.each e (jU.1 he).1
 ·have zv:∀ d∈l,d.bE=2->∃ x∈lq l t,x.p=d.p/\x.bE=2:=fun d hd hk=>
   ⟨kX d,(j6 hl.anF ht.anF).2 (.inl (j7.2 ⟨d,hd,by omega,rfl⟩)),rfl,hk⟩
  rcases(j6 hl.anF ht.anF).1 he with he|he
  ·obtain⟨y,hy,hk,rfl⟩:=j7.1 he
   rcases hl.dir y hy with g|⟨d,hd,hp,j4⟩
   ·exact .inl g
   ·obtain⟨x,h1,h2,h3⟩:=zv d hd j4
    exact .inr ⟨x,h1,h2.trans hp,h3⟩
  ·obtain⟨hm,hg,hh⟩:=jU.1 he
   rcases ht.dir e hm with g|⟨d,hd,hp,j4⟩
   ·exact .inl g
   ·have zQ:d.p≠[]:=ht.ne hd
    have hu:anG e.p d.p=aI:=by rw[hp];exact jz (ht.ne hm) (by rw[<- hp];exact zQ)
    have hno:∀ y∈l,fL e.p y=aH:=fun y hy=>by
     cases hc:fL e.p y with
     | false=>rfl
     | true=>rw[show fM l e.p=aI from dy.2 ⟨y,hy,hc⟩]at hh;cases hh
    cases Sa:bW l d.p with
    | some y=>
     obtain⟨hy,hyp⟩:=dK zQ Sa;have Z9:y.bE=2:=by
      have:=hno y hy;unfold fL at this;rw[hyp,hu]at this;by_cases hk:y.bE=2
      ·exact hk
      ·simp[hk]at this
     obtain⟨x,h1,h2,h3⟩:=zv y hy Z9;exact .inr ⟨x,h1,h2.trans (hyp.trans hp),h3⟩
    | none=>
     refine .inr ⟨d,(j6 hl.anF ht.anF).2 (.inr (jU.2 ⟨hd,Sa,?_⟩)),hp,j4⟩;cases hc:fM l d.p with
     | false=>rfl
     | true =>obtain⟨y,hy,K9⟩:=dy.1 hc;have:=hno y hy;have hyd:¬ y.p=d.p:=(gU Sa).2 y hy;unfold fL at this K9;simp[hyd]at K9;rw[o6 zQ (hl.ne hy) hu K9.1]at this;rcases K9.2 with h|h<;>simp[h]at this
theorem Fo(b:Bool):du b []:=⟨by simp,by simp,yA,by simp⟩
/-! many layers -/
def bG:aB (aB bP)->aF × aB bP
 | []=>(0,[])
 | x::r=>if(bG r).1=0 then(gH x (bG r).2,if gH x (bG r).2=0 then lq x (bG r).2 else[])else((bG r).1,[])
def jO(ls:aB (aB bP)):aF × aB bP:=if 5<ls.length then(5,[])else bG ls
theorem rj{x:aB bP}(h:(bG r).1=0):bG (x::r)=(gH x (bG r).2,if gH x (bG r).2=0 then lq x (bG r).2 else[]):=by rw[bG,aY h]
theorem yi{x:aB bP}(h:¬ (bG r).1=0):bG (x::r)=((bG r).1,[]):=by rw[bG,aW h]
theorem ox{x:aB bP}(h:(bG (x::r)).1=0):(bG r).1=0/\gH x (bG r).2=0/\(bG (x::r)).2=lq x (bG r).2:=by
 by_cases h1:(bG r).1=0
 ·rw[rj h1]at h
  refine⟨h1,h,?_⟩;rw[rj h1];show(if _ then _ else _)=_;rw[aY h]
 ·rw[yi h1]at h
  exact aG h h1
theorem A6:∀ {ls:aB (aB bP)},¬ (bG ls).1=0->(bG ls).2=[]
 | [],h=>aG rfl h
 | x::r,h=>by
  by_cases h1:(bG r).1=0
  ·rw[rj h1]at h ⊢
   show(if _ then _ else _)=_;rw[aW h]
  ·rw[yi h1]
theorem lQ:∀ {ls:aB (aB bP)},(bG ls).1=0->du aH (bG ls).2
 | [],_=>Fo _
 | x::r,h=>by obtain⟨h1,h2,h3⟩:=ox h;rw[h3];exact LZ h2
end Go.Proofs.YtjnkfelecopbjaaGreatDoor.PM
