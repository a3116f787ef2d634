/-
  tree.Put: what it answers, and the tree that comes of it.
-/
import Derived.Test.YthfeoiffoeagkaaGreatDoorZA4
import Derived.Test.YthfeoiffoeagkaaGreatDoorSortLay
namespace Go.Proofs.YthfeoiffoeagkaaGreatDoor
open Go.RowKit PM Go.Sort
set_option linter.unusedVariables false
def gD (t:List Ent) (e:Ent):Int:=orL [(aD false t).1,aG e false,aW t (aA e.p)]
open Classical in
noncomputable def aQ (t:List Ent) (e:Ent):Int :=
 if gD t e=0 then (if ∃ x∈t,x.p=e.p∧¬ ((x.kind == 2)=(e.kind == 2)) then 7 else if (∀ x∈t,x.p≠e.p)∧t.length=80 then 5 else 0) else gD t e
theorem Fp (t:List Ent) (e:Ent) (r:Int) (hr:Sorted t→r=aW t (aA e.p)):orL [(aD false t).1,aG e false,r]=gD t e:=by
 unfold gD
 by_cases h:(aD false t).1=0
 ·rw [hr (bM.1 h).sorted]
 ·simp [orL,h]
theorem mF {t:List Ent} {e:Ent} (h:gD t e=0):Right false t∧aG e false=0∧aW t (aA e.p)=0:=by
 unfold gD at h
 obtain ⟨h1,h⟩:=iM.1 h
 obtain ⟨h2,h⟩:=iM.1 h
 obtain ⟨h3,_⟩:=iM.1 h
 exact ⟨bM.1 h1,h2,h3⟩
theorem rW {t:List Ent} {e:Ent} (h:¬ gD t e=0):aQ t e=gD t e:=by rw [aQ,if_neg h]
theorem rX {t:List Ent} {e y:Ent} (h:gD t e=0) (hy:y∈t) (hp:y.p=e.p):aQ t e=if (y.kind == 2)=(e.kind == 2) then 0 else 7:=by
 have hs:=(mF h).1.sorted
 rw [aQ,if_pos h]
 by_cases hk:(y.kind == 2)=(e.kind == 2)
 ·rw [if_pos hk,if_neg,if_neg]
  ·rintro ⟨g,_⟩;exact g y hy hp
  ·rintro ⟨x,hx,hxp,hxk⟩
   rw [lD hs hx hy (hxp.trans hp.symm)] at hxk
   exact hxk hk
 ·rw [if_neg hk,if_pos ⟨y,hy,hp,hk⟩]
theorem vU {t:List Ent} {e:Ent} (h:gD t e=0) (hn:∀ x∈t,x.p≠e.p):aQ t e=if t.length=80 then 5 else 0:=by
 rw [aQ,if_pos h,if_neg]
 ·by_cases h80:t.length=80
  ·rw [if_pos ⟨hn,h80⟩,if_pos h80]
  ·rw [if_neg (fun g=>h80 g.2),if_neg h80]
 ·rintro ⟨x,hx,hxp,_⟩;exact hn x hx hxp
theorem Aw {t l:List Ent} {e y:Ent} {i n g c:Nat} {er:Int} {w W:World} (hp:aU t e.p i) (hs:Sorted t) (hy:t[i]?=some y∧y.p=e.path.data.toList) (hn:n=t.length) (h0:er=0) (hr:er=aQ t e) (hl:l=if aQ t e=0 then putL t e else [])
  (hO:Own W g c t) (hB:Below w.heap.size w W) (hg:w.heap.size≤g) :
  dn er l w (.returned (.tuple #[.slice (some ⟨g,0,none⟩) n c,.int .i64 0])) ((((W.setCell ⟨g,i*4,none⟩ (.string e.path)).setCell ⟨g,i*4+1,none⟩ (.int .i64 e.kind)).setCell ⟨g,i*4+2,none⟩ (.string e.text)).setCell ⟨g,i*4+3,none⟩ (.bool e.opq)):=by
 obtain ⟨h1,h2⟩:=List.getElem?_eq_some_iff.1 hy.1
 have hat:isAt t e.p i=true:=kD.2 ⟨h1,by rw [h2];exact hy.2⟩
 rw [← hr,h0,if_pos rfl,← hp.set hs hat] at hl
 subst hl h0 hn
 have hO':=hO.set h1 e
 exact ⟨some ⟨g,0,none⟩,c,by simp,hO'.lies,hO'.len,nofun,(((hB.setCell hg _).setCell hg _).setCell hg _).setCell hg _⟩
theorem Au {t l:List Ent} {e:Ent} {i g g' c':Nat} {er:Int} {w W W':World} (hp:aU t e.p i) (hs:Sorted t) (hat:isAt t e.path.data.toList i=false) (h0:er=0) (hr:er=aQ t e) (hl:l=if aQ t e=0 then putL t e else [])
  (hO:Own W' g' c' (t.take i++e::t.drop i)) (hB:Below w.heap.size w W) (hgb:W.grownBy W' (some g)) (hg:w.heap.size≤g) (hg':w.heap.size≤g') :
  dn er l w (.returned (.tuple #[.slice (some ⟨g',0,none⟩) (t.take i++e::t.drop i).length c',.int .i64 0])) W':=by
 rw [← hr,h0,if_pos rfl,← hp.insert hs hat] at hl
 subst hl h0
 exact ⟨some ⟨g',0,none⟩,c',rfl,hO.lies,hO.len,nofun,hB.grown hgb hB.size (fun k hk=>by simp at hk;omega)⟩
theorem Er {w W:World} {p:Option Addr} {t:List Ent} {n:Nat} (hn:n=t.length) (hL:Lies w p t) (hW:Below w.heap.size w W) (q:List UInt8) (i:Nat) :
  (isAt t q i=true∧∃ y b off,p=some ⟨b,off,none⟩∧Aside (t[i]?=some y∧y.p=q)∧i<n∧W.cell? ⟨b,off+i*4,none⟩=some (.string y.path)∧W.cell? ⟨b,off+i*4+1,none⟩=some (.int .i64 y.kind)∧W.cell? ⟨b,off+i*4+2,none⟩=some (.string y.text)∧W.cell? ⟨b,off+i*4+3,none⟩=some (.bool y.opq))∨isAt t q i=false:=by
 rcases hL with rfl | ⟨b,off,rfl,hb,hc⟩
 ·exact .inr rfl
 ·rcases tC hn hc hb hW q i with ⟨h,y,h1,h2⟩ | h
  ·exact .inl ⟨h,y,b,off,rfl,h1,h2⟩
  ·exact .inr h
set_option maxHeartbeats 4000000 in
set_option maxRecDepth 100000 in
theorem IW (t:List Ent) (e:Ent) (m:Int) (p:Option Addr) (cap:Nat) (w:World) (hL:Lies w p t) (hF:Fits t) (hn:t.length<4611686018427387904) (hcap:t.length≤cap) (hnil:p=none→cap=0)
  (he:e.path.size≤maxLen) (he62:e.path.size<4611686018427387904) (het:e.text.size≤maxLen) (hm:w.cell? ⟨0,0,none⟩=some (.int .i64 m)) :
  Calls Tryz.prog 173 #[.slice p t.length cap,.agg #[.string e.path, .int .i64 e.kind, .string e.text, .bool e.opq]] w (dn (aQ t e) (if aQ t e=0 then putL t e else []) w):=by
 have hwr:=fun W (hB:Below w.heap.size w W)=>iZ t m p cap W (hL.kept hB) hF hn hcap (held hB hm)
 have hwe:=fun W (hB:Below w.heap.size w W)=>pO e false m W he het (held hB hm)
 have hnd:=fun W (hB:Below w.heap.size w W)=>nK t e.path p cap W (hL.kept hB) hF hn he he62
 have hfi:=fun W (hB:Below w.heap.size w W)=>uK t e.path p cap W (hL.kept hB) hF hn he
 have HA:Aside (∀ r:Int,(Sorted t→r=aW t (aA e.p))→orL [(aD false t).1,aG e false,r]=gD t e):=Fp t e
 have hB1:Below (w.heap.size+1) (w.alloc (.cells #[.string e.path, .int .i64 e.kind, .string e.text, .bool e.opq] 53)) (w.alloc (.cells #[.string e.path, .int .i64 e.kind, .string e.text, .bool e.opq] 53)):=Below.refl _ _
 obtain ⟨l,hl⟩:∃ l,l=if aQ t e=0 then putL t e else []:=⟨_,rfl⟩
 rw [← hl]
 have HL:Aside (l=if aQ t e=0 then putL t e else []):=hl
 have LI:Aside (Lies w p t):=hL
 clear hl hL hF hcap hm
 obtain ⟨n,hnl⟩:∃ n,n=t.length:=⟨_,rfl⟩
 have HN:Aside (n=t.length):=hnl
 rw [← hnl] at hn hwr hnd hfi ⊢
 clear hnl
 obtain ⟨er,her⟩:∃ er,er=aQ t e:=⟨_,rfl⟩
 have HR:Aside (er=aQ t e):=her
 rw [← her]
 clear her
 obtain ⟨ask,hask⟩:∃ ask,ask=gD t e:=⟨_,rfl⟩
 rw [← hask] at HA
 have HK:Aside (ask=gD t e):=hask
 clear hask
 generalize (aD false t).1=f at hwr HA
 generalize ((aD false t).2:Int)=fa at hwr
 generalize aG e false=we at hwe HA
 have hfld:=lQ
 go_enter Tryz.func173,Tryz.ntmps173
 go_wp2
 go_region_held3 (fun w'=>w'.cell? ⟨w.heap.size,0,none⟩=some (.string e.path)∧w'.cell? ⟨w.heap.size,1,none⟩=some (.int .i64 e.kind)∧w'.cell? ⟨w.heap.size,2,none⟩=some (.string e.text)∧w'.cell? ⟨w.heap.size,3,none⟩=some (.bool e.opq)) (go_keep) (first
  | (go_at_call 24;refine (hwr _ (bF hB1.drew)).mono ?_;clear hwr;rintro rr w1 ⟨rfl,hN⟩;replace hB1:=up1 hB1.drew hN;clear hN;obtain ⟨⟨c0,c1,c2,c3⟩,_⟩:=new4 (Nat.lt_succ_self _) hB1)
  | (go_at_call 78;refine (hwe _ (bF hB1)).mono ?_;clear hwe;rintro rr w2 ⟨rfl,hN⟩;replace hB1:=up1 hB1 hN;clear hN;obtain ⟨⟨d0,d1,d2,d3⟩,_⟩:=new4 (Nat.lt_succ_self _) hB1)
  | (go_at_call 114;refine (hnd _ (bF hB1)).mono ?_;clear hnd;rintro rr w3 ⟨r,rfl,hr,hN⟩;have HE:Aside (orL [f,we,r]=ask):=HA.out r hr;clear hr HA;replace hB1:=up1 hB1 hN;clear hN;obtain ⟨⟨e0,e1,e2,e3⟩,_⟩:=new4 (Nat.lt_succ_self _) hB1)
  | (go_at_call 157;refine (Bz _ _ _ _).mono ?_;rintro rr w4 ⟨rfl,hw⟩;subst hw;rw [HE.out]))
 replace hB1:=Below.alloc hB1 (by have:=hB1.size;simpa using this) (.cells #[.int .i64 f,.int .i64 we,.int .i64 r] 31)
 obtain ⟨⟨k0,k1,k2,k3⟩,_⟩:=new4 (Nat.lt_succ_self _) hB1
 by_cases hask:ask=0
 ·have H1:Aside (Right false t∧aG e false=0∧aW t (aA e.p)=0):=mF (HK.out.symm.trans hask)
  have hn80:n≤80:=by rw [HN.out];exact H1.out.1.len
  have HAK:Aside (gD t e=0):=HK.out.symm.trans hask
  go_wp2_with (first
   | (go_at_call 51;refine (hfi _ (bF hB1)).mono ?_;clear hfi;rintro rr w4 ⟨i,rfl,hpl,hG⟩;have HP:Aside (aU t e.p i):=hpl;clear hpl;replace hB1:=up1 hB1 hG.below;clear hG;obtain ⟨⟨g0,g1,g2,g3⟩,_⟩:=new4 (Nat.lt_succ_self _) hB1;rcases Er HN.out LI.out (bF hB1) e.path.data.toList i with ⟨hib,y,b,off,hpp,HY,hin,q0,q1,q2,q3⟩ | hib <;> try subst hpp)
   | (at_builtin;refine iH _ rfl _ _ rfl w4.heap.size rfl ?_ _ n cap t rfl HN.out ?_ hnil hn80 ?_ ?_))
  ·exact iY w4 _ rfl
  ·exact (LI.out.kept (bF hB1)).grown ((Grown.refl _).alloc _)
  ·simp
  ·intro g c w5 hO hg hB5
   have hX:Below w4.heap.size w4 w5:=((Below.refl _ _).alloc (Nat.le_refl _) _).trans hB5
   replace hB1:=up1 hB1 hX
   obtain ⟨⟨j0,j1,j2,j3⟩,_⟩:=new4 (Nat.lt_succ_self _) hB1
   have hb4:b<w4.heap.size:=block_lt_of_cell q0
   have hb5:b<w5.heap.size:=Nat.lt_of_lt_of_le hb4 hX.size
   have hws:w.heap.size<w5.heap.size:=block_lt_of_cell j0
   have G0:=fun n os=>cell_grown (w:=w5) (a:=⟨b,off+i*4,none⟩) hb5 ((hX.cell (p:=⟨b,off+i*4,none⟩) hb4).trans q0) n os
   have G1:=fun n os=>cell_grown (w:=w5) (a:=⟨b,off+i*4+1,none⟩) hb5 ((hX.cell (p:=⟨b,off+i*4+1,none⟩) hb4).trans q1) n os
   have G2:=fun n os=>cell_grown (w:=w5) (a:=⟨b,off+i*4+2,none⟩) hb5 ((hX.cell (p:=⟨b,off+i*4+2,none⟩) hb4).trans q2) n os
   have G3:=fun n os=>cell_grown (w:=w5) (a:=⟨b,off+i*4+3,none⟩) hb5 ((hX.cell (p:=⟨b,off+i*4+3,none⟩) hb4).trans q3) n os
   have J0:=fun n os=>cell_grown (w:=w5) (a:=⟨w.heap.size,0,none⟩) hws j0 n os
   have J1:=fun n os=>cell_grown (w:=w5) (a:=⟨w.heap.size,1,none⟩) hws j1 n os
   have J2:=fun n os=>cell_grown (w:=w5) (a:=⟨w.heap.size,2,none⟩) hws j2 n os
   have J3:=fun n os=>cell_grown (w:=w5) (a:=⟨w.heap.size,3,none⟩) hws j3 n os
   have hgw4:w.heap.size<w4.heap.size:=block_lt_of_cell g0
   have hgw:w.heap.size<g:=by omega
   have hdy:∀ W,Calls Tryz.prog 113 #[.agg #[.string y.path, .int .i64 y.kind, .string y.text, .bool y.opq]] W fun r w'=>r=.returned (.bool (y.kind == 2))∧∃ q os',w'=grow (W.drewN q) os':=fun W=>rD y W
   have hde:∀ W,Calls Tryz.prog 113 #[.agg #[.string e.path, .int .i64 e.kind, .string e.text, .bool e.opq]] W fun r w'=>r=.returned (.bool (e.kind == 2))∧∃ q os',w'=grow (W.drewN q) os':=fun W=>rD e W
   have HER:Aside (er=if (y.kind == 2)=(e.kind == 2) then 0 else 7):=HR.out.trans (rX HAK.out (List.mem_of_getElem? HY.out.1) HY.out.2)
   generalize (y.kind == 2)=by' at hdy HER
   generalize (e.kind == 2)=be' at hde HER
   have mixed:Tryz.prog.follows .mixedOrders=true:=by kernel_rfl
   clear q0 q1 q2 q3 hX hB5 g0 g1 g2 g3 k0 k1 k2 k3
   by_cases hbb:by'=be'
   ·subst hbb
    have HE0:Aside (er=0):=by show _=_;rw [HER.out,if_pos rfl]
    cases by'
    all_goals
     go_wp2
     go_quiet_grown (first | exact Calls.grown_of (hdy _) | exact Calls.grown_of (hde _))
     obtain ⟨W6,hW6⟩:∃ W6,W6=grow (w5.drewN nq) osq:=⟨_,rfl⟩
     have hG6:Grown w5 W6:=⟨nq,osq,hW6⟩
     show Exit.then _ _ Exit.normal _ (grow (w5.drewN nq) osq)
     rw [← hW6]
     clear hW6 hdy hde G0 G1 G2 G3 J0 J1 J2 J3
     replace hB1:=up1 hB1 hG6.below
     obtain ⟨⟨m0,m1,m2,m3⟩,_⟩:=new4 (Nat.lt_succ_self _) hB1
     obtain ⟨⟨a0,a1,a2,a3⟩,⟨f0,f1,f2,f3⟩⟩:=(hO.grown hG6).cells HY.out.1
     go_wp2
     go_ret2
     exact Aw HP.out H1.out.1.sorted HY.out HN.out HE0.out HR.out HL.out (hO.grown hG6) (bF hB1) (Nat.le_of_lt hgw)
   ·have HE7:Aside (er=7):=by show _=_;rw [HER.out,if_neg hbb]
    have HLn:Aside (l=[]):=by show _=_;rw [HL.out,if_neg];rw [← HR.out,HE7.out];decide
    cases by' <;> cases be' <;> first | exact absurd rfl hbb | skip
    all_goals
     go_wp2
     go_quiet_grown (first | exact Calls.grown_of (hdy _) | exact Calls.grown_of (hde _))
     obtain ⟨W6,hW6⟩:∃ W6,W6=grow (w5.drewN nq) osq:=⟨_,rfl⟩
     have hG6:Grown w5 W6:=⟨nq,osq,hW6⟩
     show Exit.then _ _ Exit.normal _ (grow (w5.drewN nq) osq)
     rw [← hW6]
     clear hW6 hdy hde G0 G1 G2 G3 J0 J1 J2 J3
     replace hB1:=up1 hB1 hG6.below
     go_wp2
     go_ret2
     rw [HE7.out,HLn.out]
     exact dn.none (bF hB1)
  ·exact iY w4 _ rfl
  ·exact (LI.out.kept (bF hB1)).grown ((Grown.refl _).alloc _)
  ·simp
  ·intro g c w5 hO hg hB5
   have hX:Below w4.heap.size w4 w5:=((Below.refl _ _).alloc (Nat.le_refl _) _).trans hB5
   replace hB1:=up1 hB1 hX
   obtain ⟨⟨j0,j1,j2,j3⟩,_⟩:=new4 (Nat.lt_succ_self _) hB1
   have hgw4:w.heap.size<w4.heap.size:=block_lt_of_cell g0
   have hgw:w.heap.size<g:=by omega
   have hno:∀ x∈t,x.p≠e.p:=fun x hx hxp=>by have:=(HP.out.there H1.out.1.sorted).2 ⟨x,hx,hxp⟩;rw [show e.p=e.path.data.toList from rfl,hib] at this;cases this
   have HER:Aside (er=if n=80 then 5 else 0):=by show _=_;rw [HR.out,vU HAK.out hno,HN.out]
   have HO5:Aside (Own w5 g c t):=hO
   clear hX hB5 g0 g1 g2 g3 k0 k1 k2 k3 hno hO
   by_cases h80:n=80
   ·have HE5:Aside (er=5):=by show _=_;rw [HER.out,if_pos h80]
    have HLn:Aside (l=[]):=by show _=_;rw [HL.out,if_neg];rw [← HR.out,HE5.out];decide
    have h80':((n:Int) == 80)=true:=by simp;omega
    clear h80
    go_wp2
    go_quiet (fail)
    go_wp2
    go_ret2
    rw [HE5.out,HLn.out]
    exact dn.none (below_drewN (bF hB1) _)
   ·have HE0:Aside (er=0):=by show _=_;rw [HER.out,if_neg h80]
    have h80':((n:Int) == 80)=false:=by simp;omega
    have hglt:g<w5.heap.size:=HO5.out.lt
    have hins:∀ W:World,Below w5.heap.size w5 W→Calls Tryz.prog 214 #[.slice (some ⟨g,0,none⟩) n c,.int .i64 i,.slice (some ⟨W.heap.size,0,none⟩) 1 1] (W.alloc (.cells #[.string e.path, .int .i64 e.kind, .string e.text, .bool e.opq] 53)) (lH (t.take i++e::t.drop i) g (W.alloc (.cells #[.string e.path, .int .i64 e.kind, .string e.text, .bool e.opq] 53))):=fun W hW=>by
     have:=qg t e i g c (W.alloc (.cells #[.string e.path, .int .i64 e.kind, .string e.text, .bool e.opq] 53)) ((HO5.out.below hW hglt).grown ((Grown.refl _).alloc _)) W.heap.size (by show (W.heap.push _)[W.heap.size]?=_;simp;rfl) (by have:=hW.size;omega) HP.out.le (by rw [← HN.out];omega)
     rw [← HN.out] at this
     exact this
    clear h80
    obtain ⟨tl,htl⟩:∃ tl,tl=t.take i++e::t.drop i:=⟨_,rfl⟩
    simp only [← htl] at hins
    have HTL:Aside (tl=t.take i++e::t.drop i):=htl
    clear htl
    go_wp2
    go_quiet (fail)
    go_wp2_with (go_at_call 214;refine (hins _ (below_drewN (Below.refl _ _) _)).mono ?_;clear hins;rintro rr w7 ⟨g',c',rfl,hO7,hg7,hgb7⟩)
    go_ret2
    have hwle:=(bF hB1).size
    have hg7':w.heap.size≤g':=by
     rcases hg7 with h | h
     ·omega
     ·simp at h;omega
    have htl:=HTL.out
    subst htl
    exact Au HP.out H1.out.1.sorted hib HE0.out HR.out HL.out hO7 (Below.alloc (below_drewN (bF hB1) _) (by simpa using hwle) _) hgb7 (Nat.le_of_lt hgw) hg7'
 ·have HEA:Aside (er=ask):=by show _=_;rw [HR.out,HK.out];exact rW (fun h=>hask (HK.out.trans h))
  have HLn:Aside (l=[]):=by show _=_;rw [HL.out,if_neg];rw [← HR.out,HEA.out];exact hask
  go_wp2
  go_ret2
  rw [HEA.out,HLn.out]
  exact dn.none (bF hB1)
theorem nD (a b:Ent) (w:World) (ha:a.path.size≤maxLen) (hb:b.path.size≤maxLen) :
  Calls Tryz.prog 161 #[.agg #[.string a.path, .int .i64 a.kind, .string a.text, .bool a.opq],.agg #[.string b.path, .int .i64 b.kind, .string b.text, .bool b.opq]] w fun r w'=>r=.returned (.int .i64 (cmp a.p b.p))∧Grown w w':=by
 go_enter Tryz.func161,Tryz.ntmps161
 go_wp2_with (go_at_call 83;refine (oJ _ _ _ ha hb).mono ?_;rintro r w' ⟨rfl,n,rfl⟩)
 go_ret
 exact ⟨rfl,(((Grown.refl w).alloc _).alloc _).drewN _⟩
abbrev EntS:Type:={ e:Ent // e.path.size≤maxLen }
instance:Inhabited EntS:=⟨⟨default,by decide⟩⟩
def encS (x:EntS):List Value:=encE x.1
def cfS (x y:EntS):Int:=cmp x.1.p y.1.p
theorem ltS (x y:EntS):ltOf cfS x y=decide (cmp x.1.p y.1.p<0):=rfl
theorem swoS:SWO (ltOf cfS) where
 irrefl x:=by rw [ltS,jf];rfl
 trans x y z h1 h2:=by
  rw [ltS] at *
  exact decide_eq_true (iW _ _ _ (of_decide_eq_true h1) (of_decide_eq_true h2))
 ntrans x y z h1 h2:=by
  rw [ltS] at *
  have g1:=of_decide_eq_false h1
  have g2:=of_decide_eq_false h2
  refine decide_eq_false ?_
  have a1:=lK x.1.p y.1.p
  have a2:=lK y.1.p z.1.p
  have a3:=lK x.1.p z.1.p
  by_cases e1:cmp x.1.p y.1.p=0
  ·rw [(iJ _ _).1 e1];exact g2
  ·by_cases e2:cmp y.1.p z.1.p=0
   ·rw [← (iJ _ _).1 e2];exact g1
   ·have:=iW z.1.p y.1.p x.1.p (by omega) (by omega)
    omega
theorem uI (blk off size:Nat) (w:World):CmpLays Tryz.prog 161 #[] encS 4 cfS blk off size w :=
 fun _ _ _ _ x y=>nD x.1 y.1 _ x.2 y.2
theorem nG {α:Type} [Inhabited α] (enc:α→List Value) (k:Nat) (w:World) (blk off n:Nat) (d:Array α) (os:Array Obj):w.grownBy (sortWorldK enc k w blk off n d os) (some blk):=by
 refine ⟨rfl,rfl,rfl,?_,fun j hj hn=>?_⟩
 ·show w.heap.size≤((w.heap.modify blk _)++os).size
  simp
 ·show ((w.heap.modify blk _)++os)[j]?=_
  rw [Array.getElem?_append_left (by simpa using hj),Array.getElem?_modify,if_neg (by intro e;exact hn (by rw [e]))]
theorem qm {x y:EntS}:ltOf cfS y x=false↔¬ cmp y.1.p x.1.p<0:=by rw [ltS];exact decide_eq_false_iff_not
def toS (l:List Ent) (h:∀ e∈l,e.path.size≤maxLen):List EntS:=l.attach.map fun x=>⟨x.1,h x.1 x.2⟩
theorem BK (l:List Ent) (h:∀ e∈l,e.path.size≤maxLen):(toS l h).map (·.1)=l:=by
 unfold toS
 rw [List.map_map]
 exact List.attach_map_subtype_val l
theorem BJ (l:List Ent) (h:∀ e∈l,e.path.size≤maxLen):(toS l h).length=l.length:=by simp [toS]
theorem qE (l:List Ent) (g cap:Nat) (w:World) (hO:Own w g cap l) (hF:∀ e∈l,e.path.size≤maxLen) (hn:l.length≤80) :
  Calls Tryz.prog 160 #[.slice (some ⟨g,0,none⟩) l.length cap,.func (.func 161) #[] #[]] w fun e w' =>
   e=.returned (.tuple #[])∧∃ l':List Ent,l'.Perm l∧l'.Pairwise (fun a b=>¬ cmp b.p a.p<0)∧Lies w' (some ⟨g,0,none⟩) l'∧w.grownBy w' (some g):=by
 have eg:∀ args w,(callFunc 161 args).run Tryz.prog w=.ok (.enter 161 args) w:=enters_of Tryz.func161 (by kernel_rfl) rfl
 have hd:(toS l hF).toArray.size=l.length:=by simp [BJ]
 have hget:∀ j:Nat,j<l.length→l[j]?=some ((toS l hF).toArray[j]!).1:=fun j hj=>by
  have h1:(toS l hF)[j]?=some ((toS l hF).toArray[j]!):=by
   rw [getElem!_pos _ j (by rw [hd];exact hj)]
   simp [BJ,hj]
  have:=congrArg (·[j]?) (BK l hF)
  simp only [List.getElem?_map,h1] at this
  exact this.symm
 have hH:HoldsK encS 4 w g 0 (toS l hF).toArray:=by
  intro j hj
  rw [size_flatK,hd] at hj
  rw [get_flatK _ _ _ _ (by rw [hd];exact hj),Nat.zero_add]
  refine ⟨?_,hO.frozen _⟩
  have hm:j % 4<4:=Nat.mod_lt _ (by decide)
  have he:=hget (j / 4) (by omega)
  have hv:(encE ((toS l hF).toArray[j / 4]!).1)[j % 4]?=some ((encS (toS l hF).toArray[j / 4]!)[j % 4]!):=by
   rw [show encS (toS l hF).toArray[j / 4]! = encE ((toS l hF).toArray[j / 4]!).1 from rfl,List.getElem!_eq_getElem?_getD,List.getElem?_eq_getElem (by rw [eP];exact hm)]
   rfl
  have:=hO.cell he hv
  rwa [show j / 4*4+j % 4=j by omega] at this
 have hlim:Lib.bitLen l.length<4611686018427387904:=Nat.lt_of_le_of_lt (Lib.bitLen_le l.length 62 (by omega) (by omega)) (by omega)
 have hp0:=AnyQ.pdqsortCmpFunc_all Tryz.sortE 4 Tryz.isAgg53 Tryz.sizeOf53 encS cfS 161 #[] swoS g 0 cap (toS l hF).toArray w eg (uI g 0 _ w) ⟨fun _=>rfl,fun x v hv=>gq (t:=[x.1]) (by simpa [encS] using hv),hH,hO.lt⟩ ((toS l hF).toArray.size+1) 0 (toS l hF).toArray.size (Lib.bitLen l.length) (toS l hF).toArray w (by omega) rfl (SWK.start hH) (Nat.zero_le _) (Nat.le_refl _) (by rw [hd];omega) hlim (Or.inl rfl)
 have hsorts:=pdq_sorts (ltOf cfS) swoS (toS l hF).toArray 0 (toS l hF).toArray.size (Lib.bitLen l.length) true true (Nat.zero_le _) (Nat.le_refl _) (Or.inl rfl)
 generalize pdq (ltOf cfS) (toS l hF).toArray 0 (toS l hF).toArray.size (Lib.bitLen l.length) true true=d' at hp0 hsorts
 change Calls Tryz.prog 204 _ _ _ at hp0
 have hl:Calls Tryz.prog 205 #[.int .u64 (l.length:Int)] w fun e w'=>e=.returned (.int .i64 (Lib.bitLen l.length:Nat))∧w'=w:=by
  have h:=Any.bits_Len (SlLaysF0.n15.bits Tryz.bitsE) (l.length:Int) w (by omega) (by omega)
  rwa [Int.toNat_natCast] at h
 have wr:IntKind.u64.wrap (l.length:Int)=l.length:=by simp [IntKind.wrap,IntKind.bits,IntKind.signed];omega
 obtain ⟨hp,hs⟩:=hsorts
 rw [hd] at hp0 hp hs
 have HO:Aside (Own w g cap l):=hO
 have HP:Aside (PermIn 0 l.length (toS l hF).toArray d'∧SortedIn (ltOf cfS) 0 l.length d'):=⟨hp,hs⟩
 have HH:Aside (HoldsK encS 4 w g 0 (toS l hF).toArray):=hH
 have HD:Aside ((toS l hF).toArray.size=l.length):=hd
 have HG:Aside (∀ j:Nat,j<l.length→l[j]?=some ((toS l hF).toArray[j]!).1):=hget
 clear hO hp hs hH hget hd eg
 generalize hbl:Lib.bitLen l.length=bl at *
 clear hbl
 generalize hnl:l.length=n0 at hp0 hl wr hn hlim ⊢
 have HN:Aside (l.length=n0):=hnl
 clear hnl
 go_enter Tryz.func160,Tryz.ntmps160
 go_wp2_with (first | (go_at_call 205;refine hl.mono ?_;rintro e wx ⟨rfl,hwx⟩;subst wx) | (go_at_call 204;refine hp0.mono ?_;rintro e w' ⟨rfl,n,os,rfl⟩))
 go_end0
 obtain ⟨hp,hs⟩:=HP.out
 have hd:=HD.out
 have hO:=HO.out
 have hH:=HH.out
 refine ⟨rfl,d'.toList.map (·.1),?_,?_,?_,nG _ _ _ _ _ _ _ _⟩
 ·obtain ⟨h1,_,h3⟩:=hp
  rw [hd] at h1
  have e1:d'.extract 0 l.length=d':=by rw [← h1,Array.extract_size]
  have e2:(toS l hF).toArray.extract 0 l.length=(toS l hF).toArray:=by rw [← hd,Array.extract_size]
  rw [e1,e2] at h3
  have:=h3.map (·.1)
  simp only [BK] at this
  exact this
 ·rw [List.pairwise_map,List.pairwise_iff_getElem]
  intro i j hi hj hij
  have h1:=hp.1
  rw [hd] at h1
  simp at hi hj
  have:=hs i j (Nat.zero_le _) hij (by omega)
  rw [getElem!_pos d' j hj,getElem!_pos d' i hi] at this
  simpa using qm.1 this
 ·have h1:=hp.1
  have hH':=holdsK_sortWorldK encS 4 w g 0 n (toS l hF).toArray d' os hO.lt hH h1
  have hsz:=(nG encS 4 w g 0 n d' os).size
  refine .inr ⟨g,0,rfl,Nat.lt_of_lt_of_le hO.lt hsz,fun j e he i v hv=>?_⟩
  rw [List.getElem?_map,Array.getElem?_toList] at he
  obtain ⟨x,hx,rfl⟩:=Option.map_eq_some_iff.1 he
  obtain ⟨hj,rfl⟩:=Array.getElem?_eq_some_iff.1 hx
  have hi:=lM hv
  have:=(HoldsK.cell hH' hj hi).1
  rw [getElem!_pos d' j hj] at this
  rw [this]
  rw [show encS d'[j]=encE d'[j].1 from rfl,List.getElem!_eq_getElem?_getD,hv]
  rfl
namespace PM
def inM (f:List UInt8) (e:Ent):Bool:=decide (e.p=f) || under e.p f
def mvE (frm to:ByteArray) (e:Ent):Ent:={ e with path:=to++e.path.extract frm.size e.path.size }
def mvF (frm to:ByteArray) (e:Ent):Ent:=if inM frm.data.toList e then mvE frm to e else e
def bE (t:List Ent) (frm to:ByteArray):List Ent:=(remL t to.data.toList).map (mvF frm to)
def kL (t:List Ent) (frm to:ByteArray):Bool:=(remL t to.data.toList).any fun e=>inM frm.data.toList e && !clean (mvE frm to e).p
end PM
theorem uO {frm:ByteArray} {e:Ent} (h:inM frm.data.toList e=true):frm.size≤e.path.size:=by
 unfold inM at h
 rcases Bool.or_eq_true_iff.1 h with h | h
 ·have:=congrArg List.length (of_decide_eq_true h)
  rw [Ent.p,szl,szl] at this;omega
 ·by_cases h0:frm.data.toList=[]
  ·rw [← szl frm,h0];simp
  ·obtain ⟨r,hr⟩:=(aS _ _ h0).1 h
   have:=congrArg List.length hr
   rw [Ent.p,szl,List.length_append,szl] at this;omega
def nk (t:List Ent) (f to:List UInt8):Int :=
 match getL t to with
 | none=>0
 | some old=>if (old.kind == 2) && !(((getL t f).getD zeroE).kind == 2) then 9 else if !(old.kind == 2) && (((getL t f).getD zeroE).kind == 2) then 10 else jS t to
theorem Bh {o:Option Ent} {y:Ent} {b:Bool} (h:o=if b then some y else none) (hz:b=false→y=zeroE):o.getD zeroE=y:=by
 cases b
 ·rw [h,hz rfl];rfl
 ·rw [h];rfl
set_option maxHeartbeats 2000000 in
theorem CV (t:List Ent) (frm to:ByteArray) (p:Option Addr) (cap:Nat) (w:World) (hL:Lies w p t) (hF:Fits t) (hn:t.length<4611686018427387904) (hf:frm.size≤maxLen) (ht:to.size≤maxLen) (hs:Sorted t) :
  Calls Tryz.prog 223 #[.slice p t.length cap,.string frm,.string to] w fun r w'=>r=.returned (.int .i64 (nk t frm.data.toList to.data.toList))∧Below w.heap.size w w':=by
 have hg1:=lV t to p cap w hL hF hn ht
 have hg2:=fun W (hB:Below w.heap.size w W)=>lV t frm p cap W (hL.kept hB) hF hn hf
 have hfu:=fun W (hB:Below w.heap.size w W)=>yQ t to p cap W (hL.kept hB) hF hn ht
 obtain ⟨r0,hr0⟩:∃ r0,r0=nk t frm.data.toList to.data.toList:=⟨_,rfl⟩
 have HR:Aside (r0=nk t frm.data.toList to.data.toList):=hr0
 rw [← hr0]
 have HS:Aside (Sorted t):=hs
 have HFU:Aside (jS t to.data.toList=jS t to.data.toList):=rfl
 obtain ⟨fl,hfl⟩:∃ fl,fl=jS t to.data.toList:=⟨_,rfl⟩
 have HFL:Aside (fl=jS t to.data.toList):=hfl
 rw [← hfl] at hfu
 clear hr0 hs hfl hL hF HFU
 generalize t.length=n at *
 go_enter Tryz.func223,Tryz.ntmps223
 go_wp2_with (first
  | (go_at_call 27;refine hg1.mono ?_;clear hg1;rintro e w1 ⟨⟨xp,xk,xt,xo⟩,b,rfl,hg,hz,hx,hB⟩;have HG:Aside (getL t to.data.toList=if b then some ⟨xp,xk,xt,xo⟩ else none):=hg HS.out;clear hg hz hx;cases b)
  | (go_at_call 27;refine (hg2 _ (hB.alloc hB.size _)).mono ?_;clear hg2;rintro e w2 ⟨⟨yp,yk,yt,yo⟩,b2,rfl,hg',hz',hx',hB2⟩;have HY:Aside ((getL t frm.data.toList).getD zeroE=⟨yp,yk,yt,yo⟩):=Bh (hg' HS.out) hz';clear hg' hz' hx';replace hB:=Below.onto (hB.alloc hB.size _) hB2;replace hB2:=hB2.mono (Nat.le_of_eq (by simp:w1.heap.size+1=_));have hB3:Below (w2.heap.size+1) (w2.alloc (.cells #[.string yp,.int .i64 yk,.string yt,.bool yo] 53)) (w2.alloc (.cells #[.string yp,.int .i64 yk,.string yt,.bool yo] 53)):=Below.refl _ _;replace hB2:=hB2.alloc (by have:=hB2.size;simpa using this) (.cells #[.string yp,.int .i64 yk,.string yt,.bool yo] 53);obtain ⟨⟨c0,c1,c2,c3⟩,_⟩:=new4 (Nat.lt_succ_self _) hB2;by_cases hkx:xk=2 <;> by_cases hky:yk=2 <;> (try subst hkx) <;> (try subst hky))
  | (go_at_call 113;refine (tK _ _ _ _ _).mono ?_;rintro rr w3 ⟨rfl,hG⟩;replace hB2:=up1 hB2 hG.below;replace hB3:=up1 hB3 hG.below;clear hG;obtain ⟨⟨d0,d1,d2,d3⟩,_⟩:=new4 (Nat.lt_succ_self _) hB2;obtain ⟨⟨e0,e1,e2,e3⟩,_⟩:=new4 (Nat.lt_succ_self _) hB3)
  | (go_at_call 218;refine (hfu _ (Below.onto hB (bF hB3))).mono ?_;clear hfu;rintro rr w4 ⟨rfl,hN⟩;replace hB3:=up1 hB3 hN;clear hN))
 ·go_ret
  refine ⟨bA ?_,hB.alloc hB.size _⟩
  rw [HR.out,nk,HG.out];rfl
 all_goals go_ret
 all_goals refine ⟨bA ?_,Below.onto hB (bF hB3)⟩
 all_goals rw [HR.out,nk,HG.out]
 all_goals simp only [if_true,HY.out]
 all_goals first
  | rw [HFL.out]
  | skip
 all_goals first
  | rfl
  | (simp only [beq_iff_eq,Bool.and_eq_true,Bool.not_eq_true',beq_eq_false_iff_ne,ne_eq,and_false,if_false,and_true,hkx,hky,not_false_eq_true])
  | simp_all
 all_goals (exfalso;simp_all)
theorem Own.setPath {w:World} {g cap:Nat} {l:List Ent} (h:Own w g cap l) {j:Nat} {y:Ent} (hy:l[j]?=.some y) (q:ByteArray):Own (w.setCell ⟨g,j*4,none⟩ (.string q)) g cap (l.set j { y with path:=q }):=by
 obtain ⟨hj,hyy⟩:=List.getElem?_eq_some_iff.1 hy
 obtain ⟨cur,hc,hs,hl,hm,hh⟩:=h
 refine ⟨_,heap_set hc (j*4) (.string q),by simpa using hs,by simpa using hl,hm,fun k e he i v hv=>?_⟩
 have hi:=lM hv
 rw [List.getElem?_set] at he
 rw [Array.getElem?_setIfInBounds]
 by_cases hk:j=k
 ·subst hk
  rw [if_pos rfl,if_pos hj] at he
  simp only [Option.some.injEq] at he
  subst he
  match i,hi,hv with
  | 0,_,hv=>rw [if_pos (by omega),if_pos (by rw [hs];omega)];simpa [encE] using hv
  | 1,_,hv=>rw [if_neg (by omega)];exact hh j y hy 1 v (by simpa [encE] using hv)
  | 2,_,hv=>rw [if_neg (by omega)];exact hh j y hy 2 v (by simpa [encE] using hv)
  | 3,_,hv=>rw [if_neg (by omega)];exact hh j y hy 3 v (by simpa [encE] using hv)
 ·rw [if_neg hk] at he
  rw [if_neg (by omega)]
  exact hh k e he i v hv
def dkL (R:List Ent) (frm to:ByteArray) (k:Nat):List Ent:=(R.take k).map (mvF frm to)++R.drop k
theorem Bb (R:List Ent) (frm to:ByteArray) (k:Nat):(dkL R frm to k).length=R.length:=by
 simp [dkL];omega
theorem yK {R:List Ent} {frm to:ByteArray} {k:Nat} {y:Ent} (hy:R[k]?=some y):(dkL R frm to k)[k]?=some y:=by
 have hk:=(List.getElem?_eq_some_iff.1 hy).1
 unfold dkL
 rw [List.getElem?_append_right (by simp;omega)]
 simp [Nat.min_eq_left (Nat.le_of_lt hk),hy]
theorem yL {R:List Ent} {frm to:ByteArray} {k:Nat} {y:Ent} (hy:R[k]?=some y):dkL R frm to (k+1)=(dkL R frm to k).set k (mvF frm to y):=by
 obtain ⟨hk,hyy⟩:=List.getElem?_eq_some_iff.1 hy
 apply List.ext_getElem?
 intro j
 unfold dkL
 rw [List.getElem?_set]
 by_cases e1:k=j
 ·subst e1
  rw [if_pos rfl,if_pos (by simp;omega),List.getElem?_append_left (by simp;omega)]
  simp [hy]
 ·rw [if_neg e1]
  by_cases e2:j<k
  ·rw [List.getElem?_append_left (by simp;omega),List.getElem?_append_left (by simp;omega),List.getElem?_map,List.getElem?_map,List.getElem?_take,List.getElem?_take,if_pos (by omega),if_pos e2]
  ·rw [List.getElem?_append_right (by simp;omega),List.getElem?_append_right (by simp;omega)]
   simp only [List.length_map,List.length_take,List.getElem?_drop]
   congr 1;omega
theorem F8 {R:List Ent} {frm to:ByteArray} {k:Nat} {y:Ent} (hy:R[k]?=some y) (hn:inM frm.data.toList y=false):dkL R frm to (k+1)=dkL R frm to k:=by
 rw [yL hy,mvF,hn]
 apply List.ext_getElem?
 intro j
 rw [List.getElem?_set]
 by_cases e:k=j
 ·subst e
  have hk:=(List.getElem?_eq_some_iff.1 hy).1
  rw [if_pos rfl,if_pos (by rw [Bb];exact hk),yK hy];rfl
 ·rw [if_neg e]
def DR (t:List Ent) (frm to:ByteArray) (w:World) (r:Ending) (w':World):Prop :=
 (kL t frm to=true∧dn 4 [] w r w')∨(kL t frm to=false∧∃ l:List Ent,l.Perm (bE t frm to)∧l.Pairwise (fun a b=>¬ cmp b.p a.p<0)∧dn 0 l w r w')
theorem DT {R:List Ent} {frm to:ByteArray} {y:Ent} (hy:y∈R) (hi:inM frm.data.toList y=true) (hc:clean (mvE frm to y).p=false):(R.any fun e=>inM frm.data.toList e && !clean (mvE frm to e).p)=true :=
 List.any_eq_true.2 ⟨y,hy,by simp [hi,hc]⟩
theorem yC {R:List Ent} {frm to:ByteArray} {k:Nat} {y:Ent} (hy:R[k]?=some y) (h:((R.take k).any fun e=>inM frm.data.toList e && !clean (mvE frm to e).p)=false) (hb:(inM frm.data.toList y && !clean (mvE frm to y).p)=false):((R.take (k+1)).any fun e=>inM frm.data.toList e && !clean (mvE frm to e).p)=false:=by
 rw [dh hy,List.any_append,h];simp [hb]
theorem jJ {a b:ByteArray} (h:a.data.toList=b.data.toList):(a.toList == b.toList)=true∧a.toList=b.toList:=by
 rw [Lib.toList_data,Lib.toList_data,h];simp
theorem ji {a b:ByteArray} (h:¬ a.data.toList=b.data.toList):(a.toList == b.toList)=false∧¬ a.toList=b.toList:=by
 rw [Lib.toList_data,Lib.toList_data];exact ⟨by simpa using h,h⟩
set_option maxHeartbeats 4000000 in
set_option maxRecDepth 100000 in
theorem EP (t:List Ent) (frm to:ByteArray) (m:Int) (p:Option Addr) (cap:Nat) (w:World) (hL:Lies w p t) (hnil:p=none→cap=0) (hr:Right false t) (hf:frm.size≤80) (ht:to.size≤80) (hm:w.cell? ⟨0,0,none⟩=some (.int .i64 m)) :
  Calls Tryz.prog 224 #[.slice p t.length cap,.string frm,.string to] w (DR t frm to w):=by
 have hwo:=jY t to p cap w hL hnil hr.len
 have hR80:(remL t to.data.toList).length≤80:=Nat.le_trans (List.length_filter_le _ _) hr.len
 have HP80:Aside (∀ y∈remL t to.data.toList,y.path.size≤80):=fun y hy=>bL (hr.clean (eX.1 hy).1)
 have hsort:=fun W g c (hO:Own W g c (bE t frm to))=>qE (bE t frm to) g c W hO
 have hml:(bE t frm to).length=(remL t to.data.toList).length:=by simp [bE]
 rw [hml] at hsort
 have HB:Aside (kL t frm to=(remL t to.data.toList).any fun e=>inM frm.data.toList e && !clean (mvE frm to e).p):=rfl
 have HM:Aside (bE t frm to=dkL (remL t to.data.toList) frm to (remL t to.data.toList).length):=by show _=_;simp [bE,dkL]
 obtain ⟨R,hRR⟩:∃ R,R=remL t to.data.toList:=⟨_,rfl⟩
 have HRR:Aside (remL t to.data.toList=R):=hRR.symm
 clear hL hnil hr
 unfold mh at hwo
 rw [← hRR] at hwo hR80 HP80 hsort hml HB HM
 clear hRR
 obtain ⟨n,hnl⟩:∃ n,n=R.length:=⟨_,rfl⟩
 have HN:Aside (n=R.length):=hnl
 rw [← hnl] at hwo hR80 hsort HM hml
 have hml2:Aside ((bE t frm to).length=n):=hml
 clear hnl hml
 go_enter Tryz.func224,Tryz.ntmps224
 go_wp2_with (go_at_call 219;refine hwo.mono ?_;clear hwo;rintro e w1 ⟨g,c,rfl,hg,hO,hB⟩;have HO:Aside (Own w1 g c R):=hO;have HBl:Aside (Below w.heap.size w w1):=hB;clear hO hB)
 go_loopg [16] n (fun gg s16 wr=>∃ k:Nat,k≤n∧n-k≤gg∧s16=.int .i64 k∧Aside (Own wr g c (dkL R frm to k))∧Aside (Below w.heap.size w wr)∧Aside (((R.take k).any fun e=>inM frm.data.toList e && !clean (mvE frm to e).p)=false))
 case atStart=>exact ⟨0,Nat.zero_le _,by omega,rfl,by simpa [dkL,Aside] using HO.out,HBl.out,by simp [Aside]⟩
 case round =>
  obtain ⟨k,hk,hgg,rfl,OW,BW,NB⟩:=hrel
  have hglt:=OW.out.lt
  have hne:g≠wr.heap.size:=by omega
  by_cases hlt:k<n
  ·have hltz:(k:Int)<(n:Int):=by omega
   obtain ⟨y,hy⟩:∃ y,R[k]?=some y:=⟨_,List.getElem?_eq_getElem (by have:=HN.out;omega)⟩
   have HY:Aside (R[k]?=some y):=hy
   have hy80:=HP80.out y (List.mem_of_getElem? hy)
   obtain ⟨⟨c0,c1,c2,c3⟩,⟨f0,f1,f2,f3⟩⟩:=OW.out.cells (yK hy)
   have hym:y.path.size≤maxLen:=by unfold maxLen;omega
   have hfm:frm.size≤maxLen:=by unfold maxLen;omega
   have hun:=fun W=>kR y.path frm W hym hfm
   have hcl:=fun W (hB:Below w.heap.size w W)=>nX (to++y.path.extract frm.size y.path.size) m W (by unfold maxLen;simp;omega) (held hB hm)
   clear hy
   cases hin:inM frm.data.toList y with
   | false =>
    have hp1:¬ y.path.data.toList=frm.data.toList:=fun e=>by
     unfold inM at hin;rw [show y.p=y.path.data.toList from rfl,e] at hin;simp at hin
    have hp2:under y.path.data.toList frm.data.toList=false:=by
     unfold inM at hin;exact (Bool.or_eq_false_iff.1 hin).2
    obtain ⟨e1,e2⟩:=ji hp1
    rw [hp2] at hun
    clear hp1 hp2
    go_wp2_with (go_at_call 186;refine (hun _).mono ?_;rintro rr wx ⟨rfl,hwx⟩;subst wx)
    go_roundg (n-(k+1))
    case measure=>omega
    case rel=>exact ⟨k+1,by omega,by omega,by go_num,by rw [F8 HY.out hin];exact OW.out.grown ((Grown.refl wr).alloc _),(BW.out.alloc BW.out.size _:Below _ _ _),yC HY.out NB.out (by rw [hin];rfl)⟩
   | true =>
    have hsz:=uO hin
    have hszz:(frm.size:Int)≤(y.path.size:Int):=by omega
    have hways:(y.path.data.toList=frm.data.toList)∨(¬ y.path.data.toList=frm.data.toList∧under y.path.data.toList frm.data.toList=true):=by
     unfold inM at hin
     by_cases h:y.path.data.toList=frm.data.toList
     ·exact .inl h
     ·refine .inr ⟨h,?_⟩
      rcases Bool.or_eq_true_iff.1 hin with g | g
      ·exact absurd (of_decide_eq_true g) h
      ·exact g
    have HE:Aside ((mvE frm to y).p=(to++y.path.extract frm.size y.path.size).data.toList):=rfl
    have HMV:Aside (mvF frm to y={ y with path:=to++y.path.extract frm.size y.path.size }):=by show _=_;rw [mvF,hin];rfl
    have hcc:(to++y.path.extract frm.size y.path.size).size≤160:=by simp;omega
    have hB2:Below w.heap.size w ((wr.setCell ⟨g,k*4,none⟩ (.string (to++y.path.extract frm.size y.path.size))).alloc (.cells #[.string y.path, .int .i64 y.kind, .string y.text, .bool y.opq] 53)):=(BW.out.setCell hg _).alloc (by have:=BW.out.size;simpa [World.setCell] using this) _
    have OW2:Aside (Own ((wr.setCell ⟨g,k*4,none⟩ (.string (to++y.path.extract frm.size y.path.size))).alloc (.cells #[.string y.path, .int .i64 y.kind, .string y.text, .bool y.opq] 53)) g c (dkL R frm to (k+1))):=by
     have:=(OW.out.setPath (yK HY.out) (to++y.path.extract frm.size y.path.size)).grown ((Grown.refl _).alloc (.cells #[.string y.path, .int .i64 y.kind, .string y.text, .bool y.opq] 53))
     rw [← HMV.out,← yL HY.out] at this
     exact this
    have hcl2:=hcl _ hB2
    clear hcl
    generalize hnew:to++y.path.extract frm.size y.path.size=new at hcl2 HE HMV hcc hB2 OW2
    have HNW:Aside (to++y.path.extract frm.size y.path.size=new):=hnew
    cases hcn:clean new.data.toList with
    | false =>
     rw [hcn] at hcl2
     have HBAD:Aside (kL t frm to=true):=by show _=_;rw [HB.out];exact DT (List.mem_of_getElem? HY.out) hin (by rw [HE.out];exact hcn)
     rcases hways with h1 | ⟨h1,h2⟩
     ·obtain ⟨e1,e2⟩:=jJ h1
      clear h1
      go_wp2_with (go_at_call 26;refine hcl2.mono ?_;clear hcl2;rintro rr w3 ⟨rfl,hN⟩)
      go_ret2
      exact .inl ⟨HBAD.out,dn.none (Below.onto hB2 hN)⟩
     ·obtain ⟨e1,e2⟩:=ji h1
      rw [h2] at hun
      clear h1 h2
      go_wp2_with (first | (go_at_call 186;refine (hun _).mono ?_;rintro rr wx ⟨rfl,hwx⟩;subst wx) | (go_at_call 26;refine hcl2.mono ?_;clear hcl2;rintro rr w3 ⟨rfl,hN⟩))
      go_ret2
      exact .inl ⟨HBAD.out,dn.none (Below.onto hB2 hN)⟩
    | true =>
     rw [hcn] at hcl2
     have hNB:((R.take (k+1)).any fun e=>inM frm.data.toList e && !clean (mvE frm to e).p)=false:=yC HY.out NB.out (by rw [HE.out,hcn];simp)
     have HNB:Aside (((R.take (k+1)).any fun e=>inM frm.data.toList e && !clean (mvE frm to e).p)=false):=hNB
     have hlt2:=OW2.out.lt
     clear hNB
     rcases hways with h1 | ⟨h1,h2⟩
     ·obtain ⟨e1,e2⟩:=jJ h1
      clear h1
      go_wp2_with (go_at_call 26;refine hcl2.mono ?_;clear hcl2;rintro rr w3 ⟨rfl,hN⟩)
      go_roundg (n-(k+1))
      case measure=>omega
      case rel=>exact ⟨k+1,by omega,by omega,by go_num,OW2.out.below hN hlt2,Below.onto hB2 hN,HNB.out⟩
     ·obtain ⟨e1,e2⟩:=ji h1
      rw [h2] at hun
      clear h1 h2
      go_wp2_with (first | (go_at_call 186;refine (hun _).mono ?_;rintro rr wx ⟨rfl,hwx⟩;subst wx) | (go_at_call 26;refine hcl2.mono ?_;clear hcl2;rintro rr w3 ⟨rfl,hN⟩))
      go_roundg (n-(k+1))
      case measure=>omega
      case rel=>exact ⟨k+1,by omega,by omega,by go_num,OW2.out.below hN hlt2,Below.onto hB2 hN,HNB.out⟩
  ·obtain rfl:k=n:=by omega
   have hltz:¬ (k:Int)<(k:Int):=by omega
   have HGOOD:Aside (kL t frm to=false):=by
    show _=_
    have:=NB.out
    rw [HN.out,List.take_length] at this
    rw [HB.out];exact this
   have hso:=hsort wr g c (by rw [HM.out];exact OW.out) (fun e he=>by
    unfold bE at he
    obtain ⟨x,hx,rfl⟩:=List.mem_map.1 he
    have h80:=HP80.out x (by rw [← HRR.out];exact hx)
    unfold mvF maxLen
    split
    ·simp [mvE];omega
    ·omega) hR80
   clear hsort
   go_wp2_with (go_at_call 160;refine hso.mono ?_;clear hso;rintro rr w4 ⟨rfl,l',hp,hs,hLi,hgb⟩;have HS:Aside _:=hs;clear hs)
   go_ret2
   refine .inr ⟨HGOOD.out,l',hp,HS.out.imp (fun h=>by omega),some ⟨g,0,none⟩,c,?_,hLi,?_,nofun,BW.out.grown hgb BW.out.size (fun j hj=>by simp at hj;omega)⟩
   ·rw [hp.length_eq,hml2.out];rfl
   ·rw [hp.length_eq,hml2.out];have:=OW.out.len;rw [Bb,← HN.out] at this;exact this
set_option maxHeartbeats 4000000 in
theorem Co (e:Ent) (q:ByteArray) (B:Nat) (w:World) (he:e.path.size≤maxLen) (hq:q.size≤maxLen) (hB:B<w.heap.size) (hc:w.cell? ⟨B,0,none⟩=some (.string q)) :
  Calls Tryz.prog 237 #[.agg #[.string e.path, .int .i64 e.kind, .string e.text, .bool e.opq],.pointer (some ⟨B,0,none⟩)] w fun r w'=>r=.returned (.bool (bD q.data.toList e))∧Grown w w':=by
 have hne:B≠w.heap.size:=by omega
 have hun:=fun W=>kR q e.path W hq he
 have HH:Aside (bD q.data.toList e=(decide (e.path.data.toList=q.data.toList) && !(e.kind == 2) || under q.data.toList e.path.data.toList && (!(e.kind == 2) || e.opq))):=rfl
 generalize under q.data.toList e.path.data.toList=u at hun HH
 obtain ⟨ep,ek,et,eo⟩:=e
 by_cases hk:ek=2
 ·subst hk
  by_cases hpq:ep.data.toList=q.data.toList
  ·obtain ⟨e1,e2⟩:=jJ hpq
   cases u with
   | false =>
    have HR:Aside (bD q.data.toList ⟨ep,2,et,eo⟩=false):=by show _=_;rw [HH.out];simp
    go_enter Tryz.func237,Tryz.ntmps237
    go_wp2_with (go_at_call 186;refine (hun _).mono ?_;rintro r w' ⟨rfl,rfl⟩)
    go_ret
    exact ⟨aR HR.out.symm,(Grown.refl w).alloc _⟩
   | true =>
    have HR:Aside (bD q.data.toList ⟨ep,2,et,eo⟩=eo):=by show _=_;rw [HH.out];simp
    go_enter Tryz.func237,Tryz.ntmps237
    go_wp2_with (go_at_call 186;refine (hun _).mono ?_;rintro r w' ⟨rfl,rfl⟩)
    go_ret
    exact ⟨aR HR.out.symm,(Grown.refl w).alloc _⟩
  ·obtain ⟨e1,e2⟩:=ji hpq
   cases u with
   | false =>
    have HR:Aside (bD q.data.toList ⟨ep,2,et,eo⟩=false):=by show _=_;rw [HH.out];simp
    go_enter Tryz.func237,Tryz.ntmps237
    go_wp2_with (go_at_call 186;refine (hun _).mono ?_;rintro r w' ⟨rfl,rfl⟩)
    go_ret
    exact ⟨aR HR.out.symm,(Grown.refl w).alloc _⟩
   | true =>
    have HR:Aside (bD q.data.toList ⟨ep,2,et,eo⟩=eo):=by show _=_;rw [HH.out];simp
    go_enter Tryz.func237,Tryz.ntmps237
    go_wp2_with (go_at_call 186;refine (hun _).mono ?_;rintro r w' ⟨rfl,rfl⟩)
    go_ret
    exact ⟨aR HR.out.symm,(Grown.refl w).alloc _⟩
 ·by_cases hpq:ep.data.toList=q.data.toList
  ·obtain ⟨e1,e2⟩:=jJ hpq
   have HR:Aside (bD q.data.toList ⟨ep,ek,et,eo⟩=true):=by show _=_;rw [HH.out];simp [hk,hpq]
   clear hun
   go_enter Tryz.func237,Tryz.ntmps237
   go_wp2
   go_ret
   exact ⟨aR HR.out.symm,(Grown.refl w).alloc _⟩
  ·obtain ⟨e1,e2⟩:=ji hpq
   cases u with
   | false =>
    have HR:Aside (bD q.data.toList ⟨ep,ek,et,eo⟩=false):=by show _=_;rw [HH.out];simp [hpq]
    go_enter Tryz.func237,Tryz.ntmps237
    go_wp2_with (go_at_call 186;refine (hun _).mono ?_;rintro r w' ⟨rfl,rfl⟩)
    go_ret
    exact ⟨aR HR.out.symm,(Grown.refl w).alloc _⟩
   | true =>
    have HR:Aside (bD q.data.toList ⟨ep,ek,et,eo⟩=true):=by show _=_;rw [HH.out];simp [hk]
    go_enter Tryz.func237,Tryz.ntmps237
    go_wp2_with (go_at_call 186;refine (hun _).mono ?_;rintro r w' ⟨rfl,rfl⟩)
    go_ret
    exact ⟨aR HR.out.symm,(Grown.refl w).alloc _⟩
theorem rC (t:List Ent) (q:ByteArray) (p:Option Addr) (cap:Nat) (w:World) (hL:Lies w p t) (hF:Fits t) (hn:t.length<4611686018427387904) (hq:q.size≤maxLen) :
  Calls Tryz.prog 203 #[.slice p t.length cap,.string q] w fun r w'=>r=.returned (.bool (bI t q.data.toList))∧Grown w w':=by
 have eg:∀ args w,(callFunc 237 args).run Tryz.prog w=.ok (.enter 237 args) w:=enters_of Tryz.func237 (by kernel_rfl) rfl
 have hs:=qV (bD q.data.toList) 237 #[.pointer (some ⟨w.heap.size,0,none⟩)] eg t p cap (w.alloc (.cells #[.string q] 9)) (hL.grown ((Grown.refl w).alloc _)) hn
  (fun W x hG hx=>Co x q w.heap.size W (hF x hx).1 hq (by have:=hG.size;simp at this;omega) ((hG.cell (p:=⟨w.heap.size,0,none⟩) (by simp)).trans (by simp)))
 clear eg
 have HA:Aside (bI t q.data.toList=t.any (bD q.data.toList)):=rfl
 generalize t.any (bD q.data.toList)=bb at hs HA
 go_enter Tryz.func203,Tryz.ntmps203
 go_wp2_with (go_at_call 236;refine hs.mono ?_;clear hs;rintro e w' ⟨rfl,hG⟩)
 go_ret
 exact ⟨aR HA.out.symm,(Grown.refl w).alloc _ |>.trans hG⟩
theorem xP (w:World) :
  Calls Tryz.prog 238 #[.slice none 0 0,.int .i64 0,.int .i64 0,.func (.func 161) #[] #[]] w fun e w'=>e=.returned (.tuple #[])∧w'=w:=by
 go_enter Tryz.func238,Tryz.ntmps238
 go_wp2
 go_loopg [8] 1 (fun gg i wr=>i=.int .i64 1∧wr=w)
 case atStart=>exact ⟨rfl,rfl⟩
 case round =>
  obtain ⟨rfl,rfl⟩:=hrel
  go_wp2
  go_end0
  exact ⟨rfl,rfl⟩
set_option maxHeartbeats 2000000 in
set_option maxRecDepth 100000 in
theorem IU (k:Int) (w:World) :
  Calls Tryz.prog 204 #[.slice none 0 0,.int .i64 0,.int .i64 0,.int .i64 k,.func (.func 161) #[] #[]] w fun e w'=>e=.returned (.tuple #[])∧w'=w:=by
 have hi:=xP
 go_enter Tryz.func204,Tryz.ntmps204
 go_wp2
 go_loopg [1,2] 1 (fun gg a b wr=>a=.int .i64 0∧b=.int .i64 0∧wr=w)
 case atStart=>exact ⟨rfl,rfl,rfl⟩
 case round =>
  obtain ⟨rfl,rfl,rfl⟩:=hrel
  go_wp2_with (go_at_call 238;refine (hi _).mono ?_;rintro e w' ⟨rfl,hw⟩;subst hw)
  try simp only [Exit.inBlock,Exit.then]
  refine bodyPost_ret (results_none rfl _ _ _) rfl ?_
  exact ⟨rfl,rfl⟩
theorem G8 (w:World) :
  Calls Tryz.prog 160 #[.slice none 0 0,.func (.func 161) #[] #[]] w fun e w'=>e=.returned (.tuple #[])∧w'=w:=by
 have hl:Calls Tryz.prog 205 #[.int .u64 0] w fun e w'=>e=.returned (.int .i64 (Lib.bitLen 0:Nat))∧w'=w:=by
  have h:=Any.bits_Len (SlLaysF0.n15.bits Tryz.bitsE) 0 w (by omega) (by omega)
  exact h
 have hp:=IU (Lib.bitLen 0:Nat) w
 generalize ((Lib.bitLen 0:Nat):Int)=k at hl hp
 go_enter Tryz.func160,Tryz.ntmps160
 go_wp2_with (first | (go_at_call 205;refine hl.mono ?_;rintro e wx ⟨rfl,hwx⟩;subst wx) | (go_at_call 204;refine hp.mono ?_;rintro e w' ⟨rfl,hw⟩;subst hw))
 go_end0
 exact ⟨rfl,rfl⟩
end Go.Proofs.YthfeoiffoeagkaaGreatDoor
