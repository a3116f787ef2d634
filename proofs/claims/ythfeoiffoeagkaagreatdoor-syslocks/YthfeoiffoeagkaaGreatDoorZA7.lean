/-
  layer.Merge: what layers come to.
-/
import Derived.Test.YthfeoiffoeagkaaGreatDoorZA6
import Derived.Deep.RegionHeld
namespace Go.Proofs.YthfeoiffoeagkaaGreatDoor
open Go.RowKit Go.Shelf PM
set_option linter.unusedVariables false
attribute [local go_sem] Oper.semAt_some
def dw (w:World) (p:Option Addr) (ls:List Lay):Prop:=ls=[]∨∃ b off,p=some ⟨b,off,none⟩∧b<w.heap.size∧∀ j x,ls[j]?=some x→w.cell? ⟨b,off+j,none⟩=some (.slice x.ad x.es.length x.cap)
structure fQ (w:World) (x:Lay):Prop where
 lies:Lies w x.ad x.es
 fits:Fits x.es
 cap:x.es.length≤x.cap
 small:x.es.length<4611686018427387904
theorem fQ.kept {w W:World} {x:Lay} (h:fQ w x) (hB:Below w.heap.size w W):fQ W x:=⟨h.lies.kept hB,h.fits,h.cap,h.small⟩
abbrev Al (w:World):Type:={ x:Nat × Lay // fQ w x.2 }
def esOf {w:World} (pre:List (Al w)):List (List Ent):=(pre.map fun x=>x.1.2.es).reverse
theorem Ej {w:World} (pre:List (Al w)) (x:Al w):esOf (pre++[x])=x.1.2.es::esOf pre:=by simp [esOf]
def usOf {w:World} (ls:List Lay) (h:∀ x∈ls,fQ w x):List (Al w):=List.ofFn fun k:Fin ls.length=>⟨(ls.length-1-k,ls[ls.length-1-k]'(by have:=k.2;omega)),h _ (List.getElem_mem _)⟩
theorem zT {w:World} (ls:List Lay) (h:∀ x∈ls,fQ w x):(usOf ls h).length=ls.length:=by simp [usOf]
theorem BL {w:World} {ls:List Lay} {h:∀ x∈ls,fQ w x} {k:Nat} {x:Al w} (hx:(usOf ls h)[k]?=some x):x.1.1=ls.length-1-k∧ls[ls.length-1-k]?=some x.1.2:=by
 unfold usOf at hx
 rw [List.getElem?_ofFn] at hx
 split at hx
 ·rename_i hk
  cases hx
  exact ⟨rfl,List.getElem?_eq_getElem _⟩
 ·cases hx
theorem I9 {w:World} (ls:List Lay) (h:∀ x∈ls,fQ w x):esOf (usOf ls h)=ls.map (·.es):=by
 unfold esOf
 apply List.ext_getElem
 ·simp [usOf]
 ·intro i h1 h2
  simp [usOf] at h1 h2
  simp [usOf]
  congr 2
  omega
theorem vJ:∀ {a r:List (List Ent)},¬ (au r).1=0→au (a++r)=((au r).1,[])
 | [],r,h=>by
  have:=tQ h
  exact Prod.ext rfl this
 | x::a,r,h=>by
  have ih:=vJ (a:=a) h
  show au (x::(a++r))=_
  rw [qo (by rw [ih];exact h),ih]
theorem gK {t:List Ent} (h:Right false t):Fits t:=fun e he=>by
 have hw:=h.each e he
 have h1:=bL (bq hw)
 have h2:e.text.size≤100:=by
  unfold aG at hw
  split at hw
  ·cases hw
  ·split at hw
   ·cases hw
   ·split at hw
    ·cases hw
    ·omega
 unfold maxLen
 omega
theorem Lies.gQ {W:World} {p:Option Addr} {t:List Ent} (h:Lies W p t) (a:Addr) (v:Value) (hne:∀ b off s,p=some ⟨b,off,s⟩→a.block≠b):Lies (W.setCell a v) p t:=by
 rcases h with h | ⟨b,off,rfl,hb,hc⟩
 ·exact .inl h
 ·refine .inr ⟨b,off,rfl,by simpa using hb,fun j e he i v' hv=>?_⟩
  rw [World.cell?_setCell_far _ _ _ _ (hne b off none rfl)]
  exact hc j e he i v' hv
theorem Lies.Ez {W W':World} {p:Option Addr} {t:List Ent} {row:Option Nat} (h:Lies W p t) (hg:W.grownBy W' row) (hr:∀ r,row=some r→∃ o:Obj,W.heap[r]?=some o∧o.isCells=false):Lies W' p t:=by
 rcases h with h | ⟨b,off,rfl,hb,hc⟩
 ·exact .inl h
 ·exact .inr ⟨b,off,rfl,Nat.lt_of_lt_of_le hb hg.size,fun j e he i v' hv=>cell_kept (hc j e he i v' hv) hg hr⟩
theorem pE {W W':World} (h:Below W.heap.size W W'):KeepsOthers W W':=⟨h.size,fun k o hk _=>(h.block k (Array.getElem?_eq_some_iff.1 hk).1).trans hk⟩
theorem lJ {W W2:World} (h:Below W.heap.size W W2) {a:Addr} {v:Value} (hc:W.cell? a=some v) (hf:W.frozen? a=false):W2.cell? a=some v∧W2.frozen? a=false :=
 ⟨(h.cell (block_lt_of_cell hc)).trans hc,(World.frozen?_of_block (h.block a.block (block_lt_of_cell hc))).trans hf⟩
theorem Df {w W:World} (m:Int) (x:Al w) (pre:List (Al w)) (pT:Option Addr) (cT:Nat) (hB:Below w.heap.size w W) (h0:(au (esOf pre)).1=0) (hL:Lies W pT (au (esOf pre)).2) (hc:(au (esOf pre)).2.length≤cT) (hm:w.cell? ⟨0,0,none⟩=some (.int .i64 m)) :
  Calls Tryz.prog 112 #[.slice x.1.2.ad x.1.2.es.length x.1.2.cap,.slice pT (au (esOf pre)).2.length cT] W (eZ (au (esOf (pre++[x]))).1 (au (esOf (pre++[x]))).2 W):=by
 have hr:=iU h0
 have hx:=x.2.kept hB
 have:=GH x.1.2.es (au (esOf pre)).2 m x.1.2.ad pT x.1.2.cap cT W hx.lies hL hx.fits (gK hr) hx.small (by have:=hr.len;omega) hx.cap hc (held hB hm)
 rw [Ej,mP h0]
 exact this
set_option maxRecDepth 100000 in
set_option maxHeartbeats 4000000 in
theorem CP (n:Nat) (h5:5<n) (p:Option Addr) (cap:Nat) (w:World):Calls Tryz.prog 77 #[.slice p n cap] w (eZ 5 [] w):=by
 have h5z:(5:Int)<(n:Int):=by omega
 refine (callsIn_wide (n:=3)).1 ?_
 refine callsIn_of_wp_marks Tryz.func77 rfl trivial ?_ rfl
 simp only [Tryz.ntmps77,List.size_toArray,List.length_cons,List.length_nil,Nat.reduceAdd,Nat.reduceSub,Array.replicate_succ,Array.replicate_zero,List.push_toArray,List.append_toArray,List.nil_append,List.cons_append]
 gi_wp2
 refine ⟨.tuple #[.slice none 0 0,.int .i64 5],?_,eZ.none (((Below.refl _ w).alloc (Nat.le_refl _) _).alloc (by simp) _)⟩
 simp [results,Tryz.results77,go_sem]
set_option maxRecDepth 100000 in
set_option maxHeartbeats 8000000 in
theorem EK (ls:List Lay) (m:Int) (p:Option Addr) (cap:Nat) (w:World) (hT:dw w p ls) (hOK:∀ x∈ls,fQ w x) (h5:ls.length≤5) (hm:w.cell? ⟨0,0,none⟩=some (.int .i64 m)) :
  Calls Tryz.prog 77 #[.slice p ls.length cap] w (eZ (au (ls.map (·.es))).1 (au (ls.map (·.es))).2 w):=by
 have h5z:¬ (5:Int)<(ls.length:Int):=by omega
 have hes:=I9 ls hOK
 have hBK:yg (fun x:Al w=>x.1) (usOf ls hOK) w p w.heap.size ls.length:=by
  refine ⟨(zT ls hOK).symm,?_⟩
  rcases hT with h | ⟨b,off,hp,hb,hc⟩
  ·left
   apply List.eq_nil_of_length_eq_zero
   rw [zT,h];rfl
  ·exact .inr ⟨b,off,hp,hb,fun k x hx=>⟨(BL hx).1,hc _ _ (BL hx).2⟩⟩
 generalize usOf ls hOK=us at hes hBK
 rw [← hes]
 generalize ls.length=N at h5 h5z hBK
 clear hes hT hOK
 refine (callsIn_wide (n:=3)).1 ?_
 refine callsIn_of_wp_marks Tryz.func77 rfl trivial ?_ rfl
 simp only [Tryz.ntmps77,List.size_toArray,List.length_cons,List.length_nil,Nat.reduceAdd,Nat.reduceSub,Array.replicate_succ,Array.replicate_zero,List.push_toArray,List.append_toArray,List.nil_append,List.cons_append]
 gi_wp2_with (refine ⟨trivial,?_⟩;gi_at_call 111;refine (Ik Fence.wide _ trivial rfl _ _ _ _).mono ?_;rintro e w' ⟨rfl,rfl⟩)
 have bR0:=Boxed.new w 23 (.slice none 0 0)
 have bR1:=Boxed.new (w.alloc (.cells #[.slice none 0 0] 23)) 31 (.int .i64 0)
 have bT:=Boxed.new ((w.alloc (.cells #[.slice none 0 0] 23)).alloc (.cells #[.int .i64 0] 31)) 23 (.slice none 0 0)
 have bN:=Boxed.new (((w.alloc (.cells #[.slice none 0 0] 23)).alloc (.cells #[.int .i64 0] 31)).alloc (.cells #[.slice none 0 0] 23)) 24 (.slice p N cap)
 simp only [World.size_alloc] at bR1 bT bN
 obtain ⟨W0,hW0⟩:∃ W0,(((w.alloc (.cells #[.slice none 0 0] 23)).alloc (.cells #[.int .i64 0] 31)).alloc (.cells #[.slice none 0 0] 23)).alloc (.cells #[.slice p N cap] 24)=W0:=⟨_,rfl⟩
 have hB0:Below w.heap.size w W0:=by
  rw [← hW0]
  exact ((((Below.refl _ w).alloc (Nat.le_refl _) _).alloc (by simp) _).alloc (by simp;omega) _).alloc (by simp;omega) _
 have hs0:W0.heap.size=w.heap.size+4:=by rw [← hW0];simp
 have b0:Boxed W0 w.heap.size 23 (.slice none 0 0):=by rw [← hW0];exact ((bR0.alloc _).alloc _).alloc _
 have b1:Boxed W0 (w.heap.size+1) 31 (.int .i64 0):=by rw [← hW0];exact (bR1.alloc _).alloc _
 have b2:Boxed W0 (w.heap.size+1+1) 23 (.slice none 0 0):=by rw [← hW0];exact bT.alloc _
 have b3:W0.cell? ⟨w.heap.size+1+1+1,0,none⟩=some (.slice p N cap):=by rw [← hW0];exact bN.cell
 have hBK0:yg (fun x:Al w=>x.1) us W0 p w.heap.size N:=by
  obtain ⟨h1,h2 | ⟨b,off,hp,hb,hc⟩⟩:=hBK
  ·exact ⟨h1,.inl h2⟩
  ·exact ⟨h1,.inr ⟨b,off,hp,hb,fun k x hx=>⟨(hc k x hx).1,(hB0.cell (p:=⟨b,off+(N-1-k),none⟩) hb).trans (hc k x hx).2⟩⟩⟩
 rw [hW0]
 clear bR0 bR1 bT bN hBK
 refine wpIn_rangeFunc_ownG rfl (by omega) (gf:=156) (lb:=#[.pointer (some ⟨w.heap.size+1+1+1,0,none⟩)]) rfl trivial (enters_of Tryz.func156 (by kernel_rfl) rfl)
  (BR (fun x:Al w=>x.1) Fence.wide _ trivial rfl (by omega) (w.heap.size+1+1+1) w.heap.size N cap p us (by omega) W0 (by omega) (by omega) b3 hBK0) KpB.trans (JU (by omega)) (Below.refl _ _) (fun _=>rfl)
  (fun pre W=>((au (esOf pre)).1=0∧(W.cell? ⟨w.heap.size,0,none⟩=some (.slice none 0 0)∧W.frozen? ⟨w.heap.size,0,none⟩=false)∧(W.cell? ⟨w.heap.size+1,0,none⟩=some (.int .i64 0)∧W.frozen? ⟨w.heap.size+1,0,none⟩=false) ∧
    ∃ pT cT,(W.cell? ⟨w.heap.size+1+1,0,none⟩=some (.slice pT (au (esOf pre)).2.length cT)∧W.frozen? ⟨w.heap.size+1+1,0,none⟩=false)∧Lies W pT (au (esOf pre)).2∧(au (esOf pre)).2.length≤cT∧(pT=none→cT=0)∧∀ b off s,pT=some ⟨b,off,s⟩→w.heap.size+3≤b)∧Below w.heap.size w W)
  (fun c pre W=>(c=.ret∧¬ (au (esOf pre)).1=0∧W.cell? ⟨w.heap.size,0,none⟩=some (.slice none 0 0)∧W.cell? ⟨w.heap.size+1,0,none⟩=some (.int .i64 (au (esOf pre)).1))∧Below w.heap.size w W)
  (OwnFrom.and (Own.from (fun s A B row hs hg hr=>⟨hs.1,⟨cell_kept hs.2.1.1 hg hr,(frozen_kept hs.2.1.1 hg hr).trans hs.2.1.2⟩,⟨cell_kept hs.2.2.1.1 hg hr,(frozen_kept hs.2.2.1.1 hg hr).trans hs.2.2.1.2⟩,by
    obtain ⟨pT,cT,⟨e1,e2⟩,e3,e4⟩:=hs.2.2.2
    exact ⟨pT,cT,⟨cell_kept e1 hg hr,(frozen_kept e1 hg hr).trans e2⟩,e3.Ez hg hr,e4⟩⟩) _) (ownFrom_below (Nat.le_refl _) (by omega)))
  (fun c=>OwnFrom.and (Own.from (fun s A B row hs hg hr=>⟨hs.1,hs.2.1,cell_kept hs.2.2.1 hg hr,cell_kept hs.2.2.2 hg hr⟩) _) (ownFrom_below (Nat.le_refl _) (by omega)))
  ⟨⟨rfl,⟨b0.cell,b0.frozen⟩,⟨b1.cell,b1.frozen⟩,none,0,⟨b2.cell,b2.frozen⟩,Lies.nil _ _,Nat.le_refl _,fun _=>rfl,nofun⟩,hB0⟩
  (fun x=>{ tmps:=#[.slice p N cap,undef,.pointer (some ⟨w.heap.size,0,none⟩),.pointer (some ⟨w.heap.size+1,0,none⟩),.pointer (some ⟨w.heap.size+1+1,0,none⟩),undef,(.slice x.1.2.ad x.1.2.es.length x.1.2.cap),undef,undef,.slice p N cap,.int .i64 (N:Int),.bool false,.slice p N cap,.func (.func 156) #[] #[.pointer (some ⟨w.heap.size+1+1+1,0,none⟩)],.int .i64 (x.1.1:Int),(.slice x.1.2.ad x.1.2.es.length x.1.2.cap),undef,undef,undef,undef,undef,undef,undef,undef,undef,undef,undef],defers:=[] }) ?assign ?body ?done ?stop
 case assign =>
  intro l x W K hK
  gi_wp2
  exact hK
 case body =>
  rintro l pre x W ⟨⟨hz,⟨r0,f0⟩,⟨r1,f1⟩,pT,cT,⟨t0,g0⟩,hLT,hcT,hnT,hbT⟩,hB⟩ _
  have hov:=Df m x pre pT cT hB hz hLT hcT hm
  have hsW:=hB.size
  generalize hmp:au (esOf (pre++[x]))=mp at hov
  generalize (au (esOf pre)).2.length=lT at t0 hov hcT
  have hTl:=block_lt_of_cell t0
  simp only at hTl
  have hne02:w.heap.size≠w.heap.size+1+1:=by omega
  have hne12:w.heap.size+1≠w.heap.size+1+1:=by omega
  by_cases hmz:mp.1=0
  ·rw [hmz] at hov
   gi_wp2_with (refine ⟨trivial,?_⟩;gi_at_call 112;refine (CallsIn.inRound l (callsIn_wide.2 hov)).mono ?_;clear hov;rintro e W2 ⟨p2,c2,rfl,hL2,hc2,hn2,hN2,hnew⟩;obtain ⟨r0',f0'⟩:=lJ hN2 r0 f0;obtain ⟨r1',f1'⟩:=lJ hN2 r1 f1;obtain ⟨t0',g0'⟩:=lJ hN2 t0 g0)
   refine ⟨((pE hN2).trans (KeepsOthers.setCell _ _ _)).from _,⟨(hN2.mono hsW).setCell (p:=⟨w.heap.size+1+1,0,none⟩) (by simp only;omega) _,fun v hv=>?_⟩,⟨?_,⟨?_,?_⟩,⟨?_,?_⟩,p2,c2,⟨?_,?_⟩,?_,?_,hn2,?_⟩,?_⟩
   ·rw [World.cell?_setCell_far _ _ _ _ (by simp only;omega)]
    exact (hN2.cell (block_lt_of_cell hv)).trans hv
   ·rw [hmp];exact hmz
   ·rw [World.cell?_setCell_far _ _ _ _ (by simp only;omega)];exact r0'
   ·rw [World.frozen?_setCell];exact f0'
   ·rw [World.cell?_setCell_far _ _ _ _ (by simp only;omega)];exact r1'
   ·rw [World.frozen?_setCell];exact f1'
   ·rw [hmp];exact World.cell?_setCell_same' _ _ _ (by rw [t0'];rfl)
   ·rw [World.frozen?_setCell];exact g0'
   ·rw [hmp];exact hL2.gQ _ _ (fun b off s h=>by have:=hnew b off s h;simp only;omega)
   ·rw [hmp];exact hc2
   ·intro b off s h
    have:=hnew b off s h
    omega
   ·exact (Below.onto hB hN2).setCell (p:=⟨w.heap.size+1+1,0,none⟩) (by simp only;omega) _
  ·gi_wp2_with (refine ⟨trivial,?_⟩;gi_at_call 112;refine (CallsIn.inRound l (callsIn_wide.2 hov)).mono ?_;clear hov;rintro e W2 ⟨p2,c2,rfl,hL2,hc2,hn2,hN2,hnew⟩;obtain ⟨r0',f0'⟩:=lJ hN2 r0 f0;obtain ⟨r1',f1'⟩:=lJ hN2 r1 f1;obtain ⟨t0',g0'⟩:=lJ hN2 t0 g0)
   refine ⟨(((pE hN2).trans (KeepsOthers.setCell _ _ _)).trans (KeepsOthers.setCell _ _ _)).from _,⟨rfl,by rw [hmp];exact hmz,?_,?_⟩,?_⟩
   ·rw [World.cell?_setCell_far _ _ _ _ (by simp only;omega)];exact World.cell?_setCell_same' _ _ _ (by rw [r0'];rfl)
   ·rw [hmp];exact World.cell?_setCell_same' _ _ _ (by rw [World.cell?_setCell_far _ _ _ _ (by simp only;omega),r1'];rfl)
   ·exact ((Below.onto hB hN2).setCell (p:=⟨w.heap.size,0,none⟩) (Nat.le_refl _) _).setCell (p:=⟨w.heap.size+1,0,none⟩) (by simp) _
 case done =>
  rintro D ys W hD rfl ⟨⟨hz,⟨r0,f0⟩,⟨r1,f1⟩,pT,cT,⟨t0,g0⟩,hLT,hcT,hnT,hbT⟩,hB⟩ hK
  gi_wp2
  have hK2:=((KeepsOthers.setCell W ⟨w.heap.size,0,none⟩ (.slice pT (au (esOf ys)).2.length cT)).trans (KeepsOthers.setCell _ ⟨w.heap.size+1,0,none⟩ (.int .i64 0))).same D _ hK rfl
  refine ⟨by simp,.inl ⟨_,_,rfl,run_takeDeferred hK2,?_⟩⟩
  have hg:=grownBy_putObj' ((W.setCell ⟨w.heap.size,0,none⟩ (.slice pT (au (esOf ys)).2.length cT)).setCell ⟨w.heap.size+1,0,none⟩ (.int .i64 0)) D (.deferred none)
  have hr:∀ r,some D=some r→∃ o:Obj,((W.setCell ⟨w.heap.size,0,none⟩ (.slice pT (au (esOf ys)).2.length cT)).setCell ⟨w.heap.size+1,0,none⟩ (.int .i64 0)).heap[r]?=some o∧o.isCells=false:=fun r e=>by cases e;exact ⟨_,hK2,rfl⟩
  have c0:=cell_kept (a:=⟨w.heap.size,0,none⟩) (v:=.slice pT (au (esOf ys)).2.length cT) (by rw [World.cell?_setCell_far _ _ _ _ (by simp only;omega)];exact World.cell?_setCell_same' _ _ _ (by rw [r0];rfl)) hg hr
  have c1:=cell_kept (a:=⟨w.heap.size+1,0,none⟩) (v:=.int .i64 0) (World.cell?_setCell_same' _ _ _ (by rw [World.cell?_setCell_far _ _ _ _ (by simp only;omega),r1];rfl)) hg hr
  refine ⟨.tuple #[.slice pT (au (esOf ys)).2.length cT,.int .i64 0],?_,?_⟩
  ·simp [results,Tryz.results77,go_sem,c0,c1]
  ·rw [hz]
   refine ⟨pT,cT,rfl,((hLT.gQ _ _ (fun b off s h=>by have:=hbT b off s h;simp only;omega)).gQ _ _ (fun b off s h=>by have:=hbT b off s h;simp only;omega)).Ez hg hr,hcT,hnT,?_,fun b off s h=>by have:=hbT b off s h;omega⟩
   exact ((hB.setCell (p:=⟨w.heap.size,0,none⟩) (Nat.le_refl _) _).setCell (p:=⟨w.heap.size+1,0,none⟩) (by simp) _).trans (belowK_b (w:=w) (Nat.le_refl _) _ D _ _ (by omega) hK2 rfl rfl)
 case stop =>
  rintro D c pre W hD ⟨k,hk,rfl⟩ ⟨⟨rfl,hz,r0,r1⟩,hB⟩ hK
  gi_wp2
  refine ⟨by simp,.inl ⟨_,_,rfl,run_takeDeferred hK,?_⟩⟩
  have hg:=grownBy_putObj' W D (.deferred none)
  have hr:∀ r,some D=some r→∃ o:Obj,W.heap[r]?=some o∧o.isCells=false:=fun r e=>by cases e;exact ⟨_,hK,rfl⟩
  have c0:=cell_kept r0 hg hr
  have c1:=cell_kept r1 hg hr
  have hall:au (esOf us)=((au (esOf (us.take k))).1,[]):=by
   have:esOf us=esOf (us.drop k)++esOf (us.take k):=by
    unfold esOf
    rw [← List.reverse_append,← List.map_append,List.take_append_drop]
   rw [this]
   exact vJ hz
  refine ⟨.tuple #[.slice none 0 0,.int .i64 (au (esOf (us.take k))).1],?_,?_⟩
  ·simp [results,Tryz.results77,go_sem,c0,c1]
  ·rw [hall]
   exact eZ.none (hB.trans (belowK_b (w:=w) (Nat.le_refl _) W D _ _ (by omega) hK rfl rfl))
theorem xg (ls:List Lay) (m:Int) (p:Option Addr) (cap:Nat) (w:World) (hT:dw w p ls) (hOK:∀ x∈ls,fQ w x) (hm:w.cell? ⟨0,0,none⟩=some (.int .i64 m)) :
  Calls Tryz.prog 77 #[.slice p ls.length cap] w (eZ (kX (ls.map (·.es))).1 (kX (ls.map (·.es))).2 w):=by
 unfold kX
 rw [List.length_map]
 by_cases h5:5<ls.length
 ·rw [if_pos h5]
  exact CP ls.length h5 p cap w
 ·rw [if_neg h5]
  exact EK ls m p cap w hT hOK (by omega) hm
theorem EJ (ls:List Lay) (m:Int) (p:Option Addr) (cap:Nat) (w:World) (hT:dw w p ls) (hOK:∀ x∈ls,fQ w x) (hm:w.cell? ⟨0,0,none⟩=some (.int .i64 m)) :
  Calls Tryz.prog 77 #[.slice p ls.length cap] w (dn (kX (ls.map (·.es))).1 (kX (ls.map (·.es))).2 w) :=
 (xg ls m p cap w hT hOK hm).mono fun _ _ h=>h.tree
end Go.Proofs.YthfeoiffoeagkaaGreatDoor
namespace Go.Proofs.YthfeoiffoeagkaaGreatDoor
open Go.RowKit PM Go.Sort
set_option linter.unusedVariables false
def Lay.v (x:Lay):Value:=.slice x.ad x.es.length x.cap
theorem Ic:∃ i0,Tryz.prog.info? 23=some i0∧i0.zero=some (.slice none 0 0)∧i0.size=1∧i0.bytes=24:=by
 have h:(Tryz.prog.info? 23).map (fun i=>(i.zero,i.size,i.bytes))=some (some (.slice none 0 0),1,24):=by kernel_rfl
 cases hi:Tryz.prog.info? 23 with
 | none=>rw [hi] at h;cases h
 | some i0 =>
  rw [hi] at h
  simp only [Option.map_some,Option.some.injEq,Prod.mk.injEq] at h
  exact ⟨i0,rfl,h.1,h.2.1,h.2.2⟩
def aX (w:World) (base:Nat) (v:Value) (ls:List Lay):Prop:=w.ownsRow base 23 1 v ls.length (ls.map Lay.v)
theorem aX.new (w:World) (H:Nat) (hH:H=w.heap.size):aX (w.alloc (.cells #[] 23)) H (.slice (some ⟨H,0,none⟩) 0 0) []:=by
 subst hH
 exact ⟨rfl,.inr ⟨w.heap.size,0,#[],rfl,Nat.le_refl _,(by show (w.heap.push _)[w.heap.size]?=_;simp),Nat.le_refl _,by decide,rfl,rfl⟩⟩
theorem aX.alloc {w:World} {base:Nat} {v:Value} {ls:List Lay} (h:aX w base v ls) (o:Obj):aX (w.alloc o) base v ls:=World.ownsRow.alloc h o
theorem aX.form {w:World} {base:Nat} {v:Value} {ls:List Lay} (h:aX w base v ls):∃ p c,v=.slice p ls.length c∧dw w p ls:=by
 obtain ⟨h1,⟨h2,h3⟩ | ⟨g,cap,cur,hv',hg,hh,hnc,hm,hs,ht⟩⟩:=h
 ·have:ls=[]:=List.eq_nil_of_length_eq_zero h3
  subst this
  exact ⟨none,0,h2,.inl rfl⟩
 ·refine ⟨some ⟨g,0,none⟩,cap,hv',.inr ⟨g,0,rfl,?_,fun j x hx=>?_⟩⟩
  ·rcases Nat.lt_or_ge g w.heap.size with h' | h'
   ·exact h'
   ·rw [Array.getElem?_eq_none h'] at hh;cases hh
  ·have hj:=(List.getElem?_eq_some_iff.1 hx).1
   have h0:(ls.map Lay.v)[j]?=some x.v:=by rw [List.getElem?_map,hx];rfl
   rw [← ht,List.getElem?_take] at h0
   split at h0
   ·simp only [World.cell?,hh]
    simpa [Lay.v] using h0
   ·cases h0
theorem zY {ops:Array Oper} {rest:List Oper} {o:Oper} {a:Act} {Q:Exit→Act→World→Prop} (X:World) (hgd:o.guard=none) (s x:Operand)
  (ho:o.op=.call { callee:=.builtin .append,args:=#[s,x],argTypes:=#[24,24] }) (base:Nat) (v:Value) (l:List Lay) (hs:a.eval s=v) (hrow:aX X base v l) (hlen:l.length≤80) (hbase:base≤X.heap.size)
  (p:Option Addr) (n cap:Nat) (t:List Lay) (hx:a.eval x=.slice p n cap) (hn:n=t.length) (hL:t=[]∨∃ ad,p=some ad∧∀ j y,t[j]?=some y→X.cell? (ad.add j)=some y.v) (hnil:p=none→cap=0) (h80:n≤80)
  (h:∀ v' w',aX w' base v' (l++t)→Below base X w'→wpList Tryz.prog ops Q rest (a.put o.dst v') w') :
  wpList Tryz.prog ops Q (o::rest) a X:=by
 obtain ⟨i0,hi,hz0,hz1,hz2⟩:=Ic
 cases p with
 | none =>
  obtain rfl:cap=0:=hnil rfl
  have ht:t=[]:=by
   rcases hL with h | ⟨ad,he,_⟩
   ·exact h
   ·cases he
  subst ht
  obtain rfl:n=0:=hn
  refine wpList_append_own_none hgd s x 24 ho base 23 i0 1 Tryz.underlying24 hi v l.length (l.map Lay.v) hs hrow hx ?_
  exact h v X (by rw [List.append_nil];exact hrow) (Below.refl _ _)
 | some ad =>
  refine wpList_append_own X hgd s x 24 ho base 23 i0 _ 1 24 Tryz.underlying24 hi hz0 hz1 hz2 rfl (by decide) v l.length (l.map Lay.v) hs hrow ad n cap (t.map Lay.v) hx (by rw [List.length_map,hn];omega) (fun j u hu=>?_) (fun u hu=>?_) (by unfold maxLen;omega) (by omega) hbase ?_
  ·rw [List.getElem?_map] at hu
   obtain ⟨y,hy,rfl⟩:=Option.map_eq_some_iff.1 hu
   rcases hL with h | ⟨ad',he,hc⟩
   ·rw [h] at hy;simp at hy
   ·cases he
    exact hc j y hy
  ·obtain ⟨y,_,rfl⟩:=List.mem_map.1 hu
   rfl
  ·intro v' w' hown hg _
   refine h v' w' ?_ ((Below.refl base X).grown hg hbase (fun j hj=>(World.ownsRow.lt hrow j hj).1))
   unfold aX
   rw [List.length_append,List.map_append,← hn]
   exact hown
theorem dw.kept {w W:World} {p:Option Addr} {ls:List Lay} (h:dw w p ls) (hB:Below w.heap.size w W):dw W p ls:=by
 rcases h with h | ⟨b,off,hp,hb,hc⟩
 ·exact .inl h
 ·exact .inr ⟨b,off,hp,Nat.lt_of_lt_of_le hb hB.size,fun j x hx=>(hB.cell (p:=⟨b,off+j,none⟩) hb).trans (hc j x hx)⟩
end Go.Proofs.YthfeoiffoeagkaaGreatDoor
