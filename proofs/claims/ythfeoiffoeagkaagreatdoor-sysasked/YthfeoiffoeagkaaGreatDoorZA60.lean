/-
  Calls that are left out, and their answers.
-/
import Derived.Test.YthfeoiffoeagkaaGreatDoorZA57
namespace Go.Proofs.YthfeoiffoeagkaaGreatDoor
open Go.RowKit PM Go.Sort
set_option linter.unusedVariables false
structure AvIs (W:World) (a:An) (y:Av):Prop where
 err:y.err=a.err
 n:y.n=a.n
 text:y.text=a.text
 names:∃ bs:List ByteArray,y.k=bs.length∧bs.map (·.data.toList)=a.names∧bs.length≤y.c∧(y.p=none→y.c=0)∧fI W y.p bs
theorem AvIs.kept {W W':World} {a:An} {y:Av} (h:AvIs W a y) (hB:Below W.heap.size W W'):AvIs W' a y:=by
 obtain ⟨bs,h1,h2,h3,h4,h5⟩:=h.names
 exact ⟨h.err,h.n,h.text,bs,h1,h2,h3,h4,h5.kept hB⟩
def KC (W:World) (b:Nat) (l:List Av):Prop:=∀ (i:Nat) (y:Av),l[i]?=some y→∀ (j:Nat) (u:Value),(encA y)[j]?=some u→W.cell? ⟨b,i*4+j,none⟩=some u
theorem Kw {W:World} {b:Nat} {l:List An} (h:∀ (i:Nat) (a:An),l[i]?=some a→∃ (q:Option Addr) (c:Nat) (bs:List ByteArray),W.cell? ⟨b,i*4,none⟩=some (.int .i64 a.err)∧W.cell? ⟨b,i*4+1,none⟩=some (.int .i64 a.n)∧W.cell? ⟨b,i*4+2,none⟩=some (.string a.text)∧W.cell? ⟨b,i*4+3,none⟩=some (.slice q bs.length c)∧bs.map (·.data.toList)=a.names∧bs.length≤c∧(q=none→c=0)∧fI W q bs) :
  ∀ n,n≤l.length→∃ avs:List Av,avs.length=n∧(∀ (i:Nat) (y:Av),avs[i]?=some y→∃ a,l[i]?=some a∧AvIs W a y)∧KC W b avs
 | 0,_=>⟨[],rfl,fun i y hy=>by simp at hy,fun i y hy=>by simp at hy⟩
 | n+1,hn=>by
  obtain ⟨avs,h1,h2,h3⟩:=Kw h n (by omega)
  obtain ⟨a,ha⟩:∃ a,l[n]?=some a:=⟨_,List.getElem?_eq_getElem (by omega)⟩
  obtain ⟨q,c,bs,c0,c1,c2,c3,c4,c5,c6,c7⟩:=h n a ha
  refine ⟨avs++[⟨a.err,a.n,a.text,q,bs.length,c⟩],by simp [h1],fun i y hy=>?_,fun i y hy=>?_⟩
  ·rcases Nat.lt_or_ge i avs.length with hi | hi
   ·rw [List.getElem?_append_left hi] at hy
    exact h2 i y hy
   ·rw [List.getElem?_append_right hi] at hy
    obtain rfl:i=n:=by
     have:=(List.getElem?_eq_some_iff.1 hy).1
     simp at this
     omega
    rw [h1,Nat.sub_self] at hy
    simp at hy
    subst hy
    exact ⟨a,ha,rfl,rfl,rfl,bs,rfl,c4,c5,c6,c7⟩
  ·rcases Nat.lt_or_ge i avs.length with hi | hi
   ·rw [List.getElem?_append_left hi] at hy
    exact h3 i y hy
   ·rw [List.getElem?_append_right hi] at hy
    obtain rfl:i=n:=by
     have:=(List.getElem?_eq_some_iff.1 hy).1
     simp at this
     omega
    rw [h1,Nat.sub_self] at hy
    simp at hy
    subst hy
    intro j u hu
    have hj:=Bc hu
    obtain rfl | rfl | rfl | rfl:j=0∨j=1∨j=2∨j=3:=by omega
    all_goals (simp [encA] at hu;subst hu;assumption)
def Each (R:An→Av→Prop):List An→List Av→Prop
 | [],[]=>True
 | a::r,y::t=>R a y∧Each R r t
 | _,_=>False
theorem KH {R:An→Av→Prop}:∀ (aa:List An) (ys:List Av),ys.length=aa.length→(∀ (i:Nat) (y:Av),ys[i]?=some y→∃ a,aa[i]?=some a∧R a y)→Each R aa ys
 | [],[],_,_=>trivial
 | [],y::t,h,_=>by simp at h
 | a::r,[],h,_=>by simp at h
 | a::r,y::t,h,g=>by
  refine ⟨?_,KH r t (by simpa using h) fun i z hz=>?_⟩
  ·obtain ⟨a',h1,h2⟩:=g 0 y rfl
   simp at h1
   rw [h1];exact h2
  ·obtain ⟨a',h1,h2⟩:=g (i+1) z (by simpa using hz)
   exact ⟨a',by simpa using h1,h2⟩
theorem J9 {R:An→Av→Prop}:∀ {aa:List An} {ys:List Av},Each R aa ys→ys.length=aa.length∧∀ (i:Nat) (y:Av) (a:An),ys[i]?=some y→aa[i]?=some a→R a y
 | [],[],_=>⟨rfl,fun i y a h=>by simp at h⟩
 | [],y::t,h=>h.elim
 | a::r,[],h=>h.elim
 | a::r,y::t,h=>by
  obtain ⟨g1,g2⟩:=J9 h.2
  refine ⟨by simp [g1],fun i z b hz hb=>?_⟩
  cases i with
  | zero =>
   simp at hz hb
   subst hz hb
   exact h.1
  | succ i=>exact g2 i z b (by simpa using hz) (by simpa using hb)
theorem Ku {R R':An→Av→Prop} (h:∀ a y,R a y→R' a y):∀ {aa:List An} {ys:List Av},Each R aa ys→Each R' aa ys
 | [],[],_=>trivial
 | [],y::t,h=>h.elim
 | a::r,[],h=>h.elim
 | a::r,y::t,g=>⟨h _ _ g.1,Ku h g.2⟩
def selV (P:Cl→Av→Bool) (l:List Cl) (ys:List Av):List (Cl × Av):=(l.zip ys).filter fun x=>P x.1 x.2
theorem Kz {R:An→Av→Prop} {P:Cl→Av→Bool} {p:Cl × An→Bool} (hp:∀ c a y,R a y→P c y=p (c,a)):∀ (l:List Cl) (aa:List An) (ys:List Av),Each R aa ys →
  (selV P l ys).map (·.1)=((l.zip aa).filter p).map (·.1)∧Each R (((l.zip aa).filter p).map (·.2)) ((selV P l ys).map (·.2))
 | [],aa,ys,h=>by simp [selV,Each]
 | c::l,[],[],h=>by simp [selV,Each]
 | c::l,[],y::t,h=>h.elim
 | c::l,a::r,[],h=>h.elim
 | c::l,a::r,y::t,h=>by
  obtain ⟨g1,g2⟩:=Kz hp l r t h.2
  have hc:=hp c a y h.1
  unfold selV at g1 g2 ⊢
  rw [List.zip_cons_cons,List.zip_cons_cons]
  cases hb:p (c,a) with
  | true =>
   rw [List.filter_cons_of_pos (by rw [hc];exact hb),List.filter_cons_of_pos hb,List.map_cons,List.map_cons,List.map_cons,List.map_cons,g1]
   exact ⟨rfl,h.1,g2⟩
  | false =>
   rw [List.filter_cons_of_neg (by rw [hc,hb];simp),List.filter_cons_of_neg (by rw [hb];simp)]
   exact ⟨g1,g2⟩
def selK (P:Cl→Av→Bool) (l:List Cl) (ys:List Av) (k:Nat):List (Cl × Av):=((l.zip ys).take k).filter fun x=>P x.1 x.2
theorem KR {P:Cl→Av→Bool} {l:List Cl} {ys:List Av} {k:Nat} {c:Cl} {y:Av} (hc:l[k]?=some c) (hy:ys[k]?=some y):selK P l ys (k+1)=selK P l ys k++if P c y then [(c,y)] else []:=by
 have hz:(l.zip ys)[k]?=some (c,y):=by rw [List.getElem?_zip_eq_some];exact ⟨hc,hy⟩
 unfold selK
 rw [List.take_add_one,hz,List.filter_append]
 cases h:P c y <;> simp [h]
theorem K6 {P:Cl→Av→Bool} {l:List Cl} {ys:List Av} {k:Nat} (h:l.length≤k):selK P l ys k=selV P l ys:=by
 unfold selK selV
 rw [List.take_of_length_le (by rw [List.length_zip];omega)]
theorem K7 (P:Cl→Av→Bool) (l:List Cl) (ys:List Av) (k:Nat):(selK P l ys k).length≤l.length:=by
 unfold selK
 refine Nat.le_trans (List.length_filter_le _ _) ?_
 rw [List.length_take,List.length_zip]
 omega
def Lg (s:Sy) (anl:List An) (n yn sn op:Nat) (W:World) (r:Ending) (W':World):Prop:=∃ (y:Lay) (lo:List Lay) (pl:Option Addr) (cl:Nat) (ps:Option Addr) (sc ln:Nat) (pa:Option Addr) (ac:Nat),r=.returned (.tuple #[.agg #[.slice y.ad yn y.cap,.slice pl ln cl,.slice ps sn sc,.int .i64 op],.slice pa n ac,.int .i64 0])∧Below W.heap.size W W'∧Aside (ln=lo.length∧y.es=s.up∧lo.map (·.es)=s.lows∧UnOK W' y lo pl cl∧Lies W' ps s.seen∧pU W' pa anl)
theorem nC.m {s:Sy} {anl:List An} {n yn sn op:Nat} (hn:n=anl.length) (hy:yn=s.up.length) (hs:sn=s.seen.length) (ho:op=s.reach.length) {W:World} {r:Ending} {W':World} (h:nC s anl W r W'):Lg s anl n yn sn op W r W':=by
 obtain ⟨y,lo,pl,cl,ps,sc,yn',ln,sn',op',pa,na,ac,e,hB,e1,e2,e3,e4,e5,e6,e7,e8,e9,e10,e11,e12,e13,e14⟩:=h
 subst hn hs ho hy
 rw [e3,e4,e11,e1,e5] at e
 exact ⟨y,lo,pl,cl,ps,sc,ln,pa,ac,e,hB,e2,e5,e6,e7,e8,e14⟩
theorem KQ {W:World} {base:Nat} {v:Value} {bl:List An} {A:List Av} (h:eH W base v A) (hE:Each (AvIs W) bl A):∃ pa ac,v=.slice pa A.length ac∧pU W pa bl:=by
 obtain ⟨hlen,hat⟩:=J9 hE
 obtain ⟨hl1,⟨hv,hn0⟩ | ⟨g,cap,cur,hv,hg,hh,hnc,hm,hcs,ht⟩⟩:=id h
 ·have hb:bl=[]:=List.eq_nil_of_length_eq_zero (by omega)
  exact ⟨none,0,by rw [hn0];exact hv,.inl hb⟩
 ·refine ⟨_,_,hv,.inr ⟨g,rfl,(Array.getElem?_eq_some_iff.1 hh).1,fun i a ha=>?_⟩⟩
  have hi:i<A.length:=by rw [hlen];exact (List.getElem?_eq_some_iff.1 ha).1
  have hy:A[i]?=some A[i]:=List.getElem?_eq_getElem hi
  obtain ⟨e1,e2,e3,bs,e4,e5,e6,e7,e8⟩:=hat i _ a hy ha
  have hcell:∀ j u,(encA A[i])[j]?=some u→W.cell? ⟨g,i*4+j,none⟩=some u:=fun j u hu=>by
   have:=World.ownsRow.cells h (g:=g) (by rw [hv];rfl) (i*4+j) u (Gf hy hu)
   rwa [Addr.add_lit,Nat.zero_add] at this
  refine ⟨A[i].p,A[i].c,bs,?_,?_,?_,?_,e5,e6,e7,e8⟩
  ·rw [← e1];exact hcell 0 _ rfl
  ·rw [← e2];exact hcell 1 _ rfl
  ·rw [← e3];exact hcell 2 _ rfl
  ·rw [← e4];exact hcell 3 _ rfl
theorem FZ {Z:World} {B B':Nat} {v vw:Value} {G:List Cl} {A:List Av} (hC:dK Z B v G) (hA:eH Z B' vw A) {g:Nat} (h1:v.ownBlock=some g):vw.ownBlock≠some g:=by
 intro h2
 obtain ⟨_,cur,e1⟩:=hC.own h1
 obtain ⟨_,cur',e2⟩:=hA.own h2
 rw [e1] at e2
 injection e2 with e2
 injection e2 with _ e2 _
 exact absurd e2 (by decide)
theorem eH.below {X Z:World} {B:Nat} {v:Value} {A:List Av} (h:eH X B v A) (hB:Below X.heap.size X Z):eH Z B v A:=h.at fun g hg=>hB.block g (by obtain ⟨_,cur,hh⟩:=h.own hg;exact (Array.getElem?_eq_some_iff.1 hh).1)
theorem Kk {Z:World} {H:Nat} {y:Av} (h:Z.heap[H]?=some (.cells #[.int .i64 y.err,.int .i64 y.n,.string y.text,.slice y.p y.k y.c] 38)):∀ j u,(encA y)[j]?=some u→Z.cell? ((⟨H,0,none⟩:Addr).add j)=some u:=by
 intro j u hu
 have hj:=Bc hu
 obtain rfl | rfl | rfl | rfl:j=0∨j=1∨j=2∨j=3:=by omega
 all_goals (simp [encA] at hu;subst hu;rw [Addr.add_lit];simp [World.cell?,h])
theorem Ke {ops:Array Oper} {o:Oper} {a:Act} {K:Act→World→Prop} {Q:Exit→Act→World→Prop} {E:Prop} {Z:World} (H:Nat) (y:Av) (hgd:o.guard=none) (s x:Operand)
  (ho:o.op=.call { callee:=.builtin .append,args:=#[s,x],argTypes:=#[30,30] }) (base:Nat) (v:Value) (l:List Av) (hs:a.eval s=v) (hrow:eH Z base v l) (hlen:l.length≤20000) (hbase:base≤Z.heap.size)
  (hx:a.eval x=.slice (some ⟨H,0,none⟩) 1 1) (hnew:∀ j u,(encA y)[j]?=some u→Z.cell? ((⟨H,0,none⟩:Addr).add j)=some u)
  (h:∀ v' w',eH w' base v' (l++[y])→Z.heap.size≤w'.heap.size→(∀ b,b<Z.heap.size→v.ownBlock≠some b→w'.heap[b]?=Z.heap[b]?)→Below base Z w'→K (a.put o.dst v') w') :
  if Region.wanted o (yielded ops a.tmps)=true then Oper.wp Tryz.prog o a Z K Q else E:=by
 have hw:Region.wanted o (yielded ops a.tmps)=true:=by simp [Region.wanted,hgd]
 rw [if_pos hw]
 obtain ⟨i0,hi,hz0,hz1,hz2⟩:=JN
 exact wp_append_own Z s x 30 ho base 38 i0 _ 4 56 Tryz.underlying30 hi hz0 hz1 hz2 rfl (by decide) v l.length (l.flatMap encA) hs hrow ⟨H,0,none⟩ 1 1 (encA y) hx rfl hnew (fun u hu=>og (t:=[y]) (by simpa using hu)) (by unfold maxLen;omega) (by omega) hbase fun v' w' h1 h2 _=>h v' w' (by simpa [eH] using h1) h2.size (fun b hb hne=>h2.block b hb (fun e=>hne e.symm)) ((Below.refl base Z).grown h2 hbase (fun k hk=>(World.ownsRow.lt hrow k hk).1))
structure KA (W:World) (y:Lay) (lo:List Lay) (pl:Option Addr) (cl:Nat) (pc:Option Addr) (n cc yn ln u1 m1 o1:Nat) (l:List Cl) (s0 s1:Sy) (al:List An):Prop where
 one:∀ Y,Below W.heap.size W Y→Calls Tryz.prog 16 #[.agg #[.slice y.ad yn y.cap,.slice pl ln cl],.slice pc n cc] Y (Lg s1 al n u1 m1 o1 Y)
 two:∀ Y (G:List Cl) (bl:List An) pg cg m,Below W.heap.size W Y→s0.run G=(s1,bl)→(∀ c∈G,c∈l)→m=G.length→m≤80→fC Y pg G→Calls Tryz.prog 16 #[.agg #[.slice y.ad yn y.cap,.slice pl ln cl],.slice pg m cg] Y (Lg s1 bl m u1 m1 o1 Y)
 run:s0.run l=(s1,al)
 ll:l.length=n
 n80:n≤80
 lies:fC W pc l
 nu:u1=s1.up.length
 nm:m1=s1.seen.length
 lw:s1.lows.length≤80
theorem KF (y:Lay) (lo:List Lay) (pl:Option Addr) (cl:Nat) (pc:Option Addr) (cc:Nat) (l:List Cl) (W:World) (hU:UnOK W y lo pl cl) (hg:Gl W.heap.size W) (h0:(ay (y.es::lo.map (·.es))).1=0) (hn:l.length≤80) (hC:fC W pc l) (hs:∀ c∈l,c.Small) :
  KA W y lo pl cl pc l.length cc y.es.length lo.length ((aO y.es (lo.map (·.es))).run l).1.up.length ((aO y.es (lo.map (·.es))).run l).1.seen.length ((aO y.es (lo.map (·.es))).run l).1.reach.length l (aO y.es (lo.map (·.es))) ((aO y.es (lo.map (·.es))).run l).1 ((aO y.es (lo.map (·.es))).run l).2 :=
 ⟨fun Y hY=>(uS y lo pl cl pc cc l Y (hU.kept hY) (hg.up hY) h0 hn (hC.kept hY) hs).mono fun r w' hp=>hp.m (wK _ _).symm rfl rfl rfl,fun Y G bl pg cg m hY hr hG hm h8 hCG=>by
  subst hm
  have hp:=uS y lo pl cl pg cg G Y (hU.kept hY) (hg.up hY) h0 h8 hCG (fun c hc=>hs c (hG c hc))
  have hl:=wK (aO y.es (lo.map (·.es))) G
  rw [hr] at hp hl
  exact hp.mono fun r w' hp=>hp.m hl.symm rfl rfl rfl,rfl,rfl,hn,hC,rfl,rfl,by have:=(eG.1 (yT l (good_start h0)).un).1;rw [Sy.all,List.length_cons] at this;omega⟩
end Go.Proofs.YthfeoiffoeagkaaGreatDoor
