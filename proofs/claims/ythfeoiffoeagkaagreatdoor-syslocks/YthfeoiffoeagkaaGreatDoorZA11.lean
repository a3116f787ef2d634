/-
  The method have of an upper layer, walked.
-/
import Derived.Test.YthfeoiffoeagkaaGreatDoorZA10
namespace Go.Proofs.YthfeoiffoeagkaaGreatDoor
open Go.RowKit PM Go.Sort
set_option linter.unusedVariables false
set_option maxHeartbeats 4000000 in
set_option maxRecDepth 100000 in
theorem Gm (own:List Ent) (e:Ent) (base U g c:Nat) (vb:Value) (W:World) (hU:UpAt W base U own g c vb) (hs:Sorted own) (hF:Fits own) (hp80:e.path.size≤80) (ht:e.text.size≤maxLen) (hne:e.p≠[]) (hlen:own.length≤9000)
  (hd:eT own (aA e.p)=true) :
  Calls Tryz.prog 176 #[.pointer (some ⟨U,0,none⟩),.agg #[.string e.path, .int .i64 e.kind, .string e.text, .bool e.opq]] W (bQ (bJ own e) base U g vb W):=by
 have hUlt:=hU.ult
 have hglt:=hU.own.lt
 have hB1:Below (W.heap.size+1) (W.alloc (.cells #[.string e.path, .int .i64 e.kind, .string e.text, .bool e.opq] 53)) (W.alloc (.cells #[.string e.path, .int .i64 e.kind, .string e.text, .bool e.opq] 53)):=Below.refl _ _
 have hcut:=fun X=>Kj e.path X (by omega)
 have hget:∀ X,Below W.heap.size W X→∀ d:ByteArray,d.data.toList=aA e.p→Calls Tryz.prog 27 #[.slice (some ⟨g,0,none⟩) own.length c,.string d] X fun r w'=>r=.returned (.tuple #[.agg #[.string ((getL own (aA e.p)).getD zeroE).path,.int .i64 ((getL own (aA e.p)).getD zeroE).kind,.string ((getL own (aA e.p)).getD zeroE).text,.bool ((getL own (aA e.p)).getD zeroE).opq],.bool (getL own (aA e.p)).isSome])∧Below X.heap.size X w':=fun X hB d hd=>by
  have hdl:=nE e.p
  have hsz:d.size≤80:=by rw [← szl d,hd];have:e.p.length=e.path.size:=szl e.path;omega
  exact ny own d (some ⟨g,0,none⟩) c X (hU.kept hB).own.lies hF (by omega) (by unfold maxLen;omega) hs _ _ (by rw [hd]) (by rw [hd])
 obtain ⟨x,hx⟩:∃ x,(getL own (aA e.p)).getD zeroE=x:=⟨_,rfl⟩
 have hxk:x.kind=2:=by
  rw [← hx]
  unfold eT at hd
  cases hg:getL own (aA e.p) with
  | none=>rw [hg] at hd;simp at hd ⊢
  | some y=>rw [hg] at hd;simpa using hd
 rw [hx] at hget
 obtain ⟨xb,hxb⟩:∃ xb,(getL own (aA e.p)).isSome=xb:=⟨_,rfl⟩
 rw [hxb] at hget
 obtain ⟨xp,xk,xt,xo⟩:=x
 simp only at hxk hget
 have HU:Aside (UpAt W base U own g c vb):=hU
 obtain ⟨n,hn⟩:∃ n,own.length=n:=⟨_,rfl⟩
 have HN:Aside (own.length=n):=hn
 rw [hn] at hget
 have HS:Aside (Sorted own∧Fits own∧own.length≤9000∧e.p≠[]):=⟨hs,hF,hlen,hne⟩
 clear hU hs hF hx hxb hn hne hd
 subst hxk
 have hU1:U≠W.heap.size:=by omega
 go_enter Tryz.func176,Tryz.ntmps176
 go_wp2_with (first
  | (go_at_call 162;refine (hcut _).mono ?_;clear hcut;rintro r w1 ⟨⟨d,nm,rfl,hdd,hnn⟩,hw1⟩;replace hB1:=up1 hB1 (below_draws hw1);clear hw1 hnn;have hc1:=(HU.out.kept (bF hB1)).c0;rw [HN.out] at hc1)
  | (go_at_call 27;refine (hget _ (bF hB1) d hdd).mono ?_;clear hget;rintro r w2 ⟨rfl,hN2⟩;replace hB1:=up1 hB1 hN2;clear hN2 hc1;obtain ⟨⟨e0,e1,e2,e3⟩,_⟩:=new4 (Nat.lt_succ_self _) hB1))
 have hB2:=upA (o2:=.cells #[.string xp,.int .i64 2,.string xt,.bool xo] 53) hB1
 obtain ⟨Y,hY⟩:∃ Y,w2.alloc (.cells #[.string xp,.int .i64 2,.string xt,.bool xo] 53)=Y:=⟨_,rfl⟩
 rw [hY] at hB2 ⊢
 have HU5:Aside (UpAt Y base U own g c vb):=HU.out.kept (bF hB2)
 have HM5:Aside (Moved U g W Y):=Moved.fH (bF hB2)
 have HG5:Aside (g=g∨W.heap.size<g):=Or.inl rfl
 obtain ⟨⟨y0,y1,y2,y3⟩,⟨fy0,fy1,fy2,fy3⟩⟩:=new4 (Nat.lt_succ_self _) hB2
 have hEg:W.heap.size≠g:=by omega
 clear hY hB2 hB1 fy0 fy1 fy2 e0 e1 e2 e3
 obtain ⟨i,hpl⟩:=uR own e.p
 have HP:Aside (aU own e.p i):=hpl
 have hUY:=HU5.out.ult
 obtain ⟨n1,hn1⟩:∃ n1,n1=own.length:=⟨_,rfl⟩
 have HN1:Aside (n1=own.length):=hn1
 have hc5:Y.cell? ⟨U,0,none⟩=some (.slice (some ⟨g,0,none⟩) n1 c):=by rw [hn1];exact HU5.out.c0
 have K0:=fun n os=>cell_grown (w:=Y) (a:=⟨U,0,none⟩) hUY hc5 n os
 have hEY:W.heap.size<Y.heap.size:=block_lt_of_cell y0
 have J0:=fun n os=>cell_grown (w:=Y) (a:=⟨W.heap.size,0,none⟩) hEY y0 n os
 have J1:=fun n os=>cell_grown (w:=Y) (a:=⟨W.heap.size,1,none⟩) hEY y1 n os
 have J2:=fun n os=>cell_grown (w:=Y) (a:=⟨W.heap.size,2,none⟩) hEY y2 n os
 have J3:=fun n os=>cell_grown (w:=Y) (a:=⟨W.heap.size,3,none⟩) hEY y3 n os
 have hse:∀ n os,Calls Tryz.prog 216 #[.slice (some ⟨g,0,none⟩) n1 c,.agg #[.string e.path, .int .i64 e.kind, .string e.text, .bool e.opq],.func (.func 161) #[] #[]] (grow (Y.drewN n) os) fun r w'=>r=.returned (.tuple #[.int .i64 i,.bool (isAt own e.p i)])∧∃ q os',w'=grow ((grow (Y.drewN n) os).drewN q) os':=fun n os=>by
  rw [hn1]
  exact uj own e i _ c _ (HU5.out.own.grown ⟨n,os,rfl⟩).lies HS.out.2.1 (by have:=HS.out.2.2.1;omega) (by unfold maxLen;omega) HS.out.1 HP.out
 have mixed:Tryz.prog.follows .mixedOrders=true:=by kernel_rfl
 have hin:i≤n1:=by rw [hn1];exact hpl.le
 have hn9:n1≤9000:=by rw [hn1];exact HS.out.2.2.1
 clear hn1 hpl
 cases hat:isAt own e.p i with
 | false =>
  rw [hat] at hse
  have HAT:Aside (isAt own e.p i=false):=hat
  clear hat
  go_quiet_grown (exact Calls.grown_of (hse _ _))
  obtain ⟨W6,hW6⟩:∃ W6,W6=grow (Y.drewN nq) osq:=⟨_,rfl⟩
  have hG6:Grown Y W6:=⟨nq,osq,hW6⟩
  show Exit.then _ _ Exit.normal _ (grow (Y.drewN nq) osq)
  rw [← hW6]
  have q0:=(hG6.cell (p:=⟨U,0,none⟩) hUY).trans hc5
  have j0:=(hG6.cell (p:=⟨W.heap.size,0,none⟩) hEY).trans y0
  have j1:=(hG6.cell (p:=⟨W.heap.size,1,none⟩) hEY).trans y1
  have j2:=(hG6.cell (p:=⟨W.heap.size,2,none⟩) hEY).trans y2
  have j3:=(hG6.cell (p:=⟨W.heap.size,3,none⟩) hEY).trans y3
  have HU6:Aside (UpAt W6 base U own g c vb):=HU5.out.kept hG6.below
  have HM6:Aside (Moved U g W W6):=HM5.out.trans (Moved.fH (g:=g) hG6.below) (.inl rfl)
  have hg6:=HU6.out.own.lt
  have hgU:=HU6.out.ne
  have hins:∀ Z:World,Below W6.heap.size W6 Z→Calls Tryz.prog 214 #[.slice (some ⟨g,0,none⟩) n1 c,.int .i64 i,.slice (some ⟨Z.heap.size,0,none⟩) 1 1] (Z.alloc (.cells #[.string e.path, .int .i64 e.kind, .string e.text, .bool e.opq] 53)) (lH (bJ own e) g (Z.alloc (.cells #[.string e.path, .int .i64 e.kind, .string e.text, .bool e.opq] 53))):=fun Z hZ=>by
   have:=qg own e i g c (Z.alloc (.cells #[.string e.path, .int .i64 e.kind, .string e.text, .bool e.opq] 53)) ((HU6.out.own.below hZ hg6).grown ((Grown.refl _).alloc _)) Z.heap.size (by show (Z.heap.push _)[Z.heap.size]?=_;simp;rfl) (by have:=hZ.size;omega) HP.out.le (by have:=HS.out.2.2.1;omega)
   rw [xJ HP.out HS.out.1 HS.out.2.2.2 HAT.out,← HN1.out] at this
   exact this
  clear hW6 hse K0 J0 J1 J2 J3 y0 y1 y2 y3 hc5 HU5 HM5 hG6 HP
  obtain ⟨tl,htl⟩:∃ tl,tl=bJ own e:=⟨_,rfl⟩
  rw [← htl] at hins
  have HTL:Aside (tl=bJ own e):=htl
  clear htl
  go_wp2
  have hUl6:U<W6.heap.size:=HU6.out.ult
  have hUn6:U≠W6.heap.size:=by omega
  have hEl6:W.heap.size<W6.heap.size:=block_lt_of_cell j0
  have hEn6:W.heap.size≠W6.heap.size:=by omega
  go_region_with (first | (go_at_call 214;refine Calls.mono (hins W6.drew (Below.refl _ _).drew) ?_;clear hins;rintro rr w7 ⟨g7,c7,rfl,hO7,hg7,hgb7⟩;have hx7:=hgb7.size;have k0:=fu hgb7 q0 (Ne.symm hgU);have k1:=fu hgb7 j0 hEg;have k2:=fu hgb7 j1 hEg;have k3:=fu hgb7 j2 hEg;have k4:=fu hgb7 j3 hEg;have kf:=qd hgb7 q0 HU6.out.f0 (Ne.symm hgU);have HO7:Aside _:=hO7;have HG7:Aside _:=hg7;have HB7:Aside _:=hgb7;clear hO7 hg7 hgb7))
  all_goals go_wp2
  all_goals refine bodyPost_ret (results_none rfl _ _ _) rfl ?_
  all_goals have htl:=HTL.out
  all_goals subst htl
  all_goals exact Bj HU6.out HM6.out (Or.inl rfl) HG7.out HO7.out HB7.out
 | true =>
  rw [hat] at hse
  obtain ⟨hi1,hi2⟩:=kD.1 hat
  obtain ⟨y,hy⟩:∃ y,own[i]?=some y:=⟨_,List.getElem?_eq_getElem hi1⟩
  have HY:Aside (own[i]?=some y∧y.p=e.p):=⟨hy,by rw [← (List.getElem?_eq_some_iff.1 hy).2];exact hi2⟩
  have hi3:i<n1:=by rw [HN1.out];exact hi1
  clear hat hi1 hi2 hy
  go_quiet_grown (exact Calls.grown_of (hse _ _))
  obtain ⟨W6,hW6⟩:∃ W6,W6=grow (Y.drewN nq) osq:=⟨_,rfl⟩
  have hG6:Grown Y W6:=⟨nq,osq,hW6⟩
  show Exit.then _ _ Exit.normal _ (grow (Y.drewN nq) osq)
  rw [← hW6]
  have q0:=(hG6.cell (p:=⟨U,0,none⟩) hUY).trans hc5
  have j0:=(hG6.cell (p:=⟨W.heap.size,0,none⟩) hEY).trans y0
  have j1:=(hG6.cell (p:=⟨W.heap.size,1,none⟩) hEY).trans y1
  have j2:=(hG6.cell (p:=⟨W.heap.size,2,none⟩) hEY).trans y2
  have j3:=(hG6.cell (p:=⟨W.heap.size,3,none⟩) hEY).trans y3
  have fj3:=(hG6.below.frozen (p:=⟨W.heap.size,3,none⟩) hEY).trans fy3
  have HU6:Aside (UpAt W6 base U own g c vb):=HU5.out.kept hG6.below
  have HM6:Aside (Moved U g W W6):=HM5.out.trans (Moved.fH (g:=g) hG6.below) (.inl rfl)
  have hg6:=HU6.out.own.lt
  have hE6:W.heap.size<W6.heap.size:=block_lt_of_cell j0
  have hE6':W.heap.size≠W6.heap.size:=by omega
  have hU6:U<W6.heap.size:=HU6.out.ult
  have hU6':U≠W6.heap.size:=by omega
  have hg6':g≠W6.heap.size:=by omega
  have hgU:=HU6.out.ne
  obtain ⟨⟨a0,a1,a2,a3⟩,⟨f0,f1,f2,f3⟩⟩:=HU6.out.own.cells HY.out.1
  clear hW6 hse K0 J0 J1 J2 J3 y0 y1 y2 y3 hc5 HU5 HM5 hG6 fy3
  obtain ⟨yp,yk,yt,yo⟩:=y
  simp only at a0 a1 a2 a3
  obtain ⟨ep,ek,et,eo⟩:=e
  simp only at j0 j1 j2 j3 hp80 ht ⊢
  by_cases hk2:ek=2
  ·subst hk2
   cases yo
   ·go_wp2
    go_region
    refine bodyPost_ret (results_none rfl _ _ _) rfl ?_
    exact nA _ ⟨ep,2,et,eo⟩ ⟨yp,yk,yt,false⟩ (yk == 4) (by simp) HU6.out HM6.out (Or.inl rfl) (by omega) hEg HP.out HS.out.1 HS.out.2.2.2 HY.out
   ·go_wp2
    go_region
    refine bodyPost_ret (results_none rfl _ _ _) rfl ?_
    exact nA _ ⟨ep,2,et,eo⟩ ⟨yp,yk,yt,true⟩ true rfl HU6.out HM6.out (Or.inl rfl) (by omega) hEg HP.out HS.out.1 HS.out.2.2.2 HY.out
  ·go_wp2
   go_region
   refine bodyPost_ret (results_none rfl _ _ _) rfl ?_
   exact nA _ ⟨ep,ek,et,eo⟩ ⟨yp,yk,yt,yo⟩ false (by simp [hk2]) HU6.out HM6.out (Or.inl rfl) (by omega) hEg HP.out HS.out.1 HS.out.2.2.2 HY.out
set_option maxHeartbeats 4000000 in
set_option maxRecDepth 100000 in
theorem Ir (own:List Ent) (e:Ent) (base U g c:Nat) (vb:Value) (W:World) (hU:UpAt W base U own g c vb) (hs:Sorted own) (hF:Fits own) (hp80:e.path.size≤80) (ht:e.text.size≤maxLen) (hne:e.p≠[]) (hlen:own.length≤9000)
  (o:List Ent) (hrec:∀ X (d:ByteArray),d.data.toList=aA e.p→UpAt X base U own g c vb→Calls Tryz.prog 176 #[.pointer (some ⟨U,0,none⟩),.agg #[.string d,.int .i64 2,.string ⟨#[]⟩,.bool false]] X (bQ o base U g vb X))
  (hso:Sorted o) (hFo:Fits o) (hlo:o.length≤9000) (hd:eT own (aA e.p)=false) :
  Calls Tryz.prog 176 #[.pointer (some ⟨U,0,none⟩),.agg #[.string e.path, .int .i64 e.kind, .string e.text, .bool e.opq]] W (bQ (bJ o e) base U g vb W):=by
 have hUlt:=hU.ult
 have hglt:=hU.own.lt
 have hB1:Below (W.heap.size+1) (W.alloc (.cells #[.string e.path, .int .i64 e.kind, .string e.text, .bool e.opq] 53)) (W.alloc (.cells #[.string e.path, .int .i64 e.kind, .string e.text, .bool e.opq] 53)):=Below.refl _ _
 have hcut:=fun X=>Kj e.path X (by omega)
 have hget:∀ X,Below W.heap.size W X→∀ d:ByteArray,d.data.toList=aA e.p→Calls Tryz.prog 27 #[.slice (some ⟨g,0,none⟩) own.length c,.string d] X fun r w'=>r=.returned (.tuple #[.agg #[.string ((getL own (aA e.p)).getD zeroE).path,.int .i64 ((getL own (aA e.p)).getD zeroE).kind,.string ((getL own (aA e.p)).getD zeroE).text,.bool ((getL own (aA e.p)).getD zeroE).opq],.bool (getL own (aA e.p)).isSome])∧Below X.heap.size X w':=fun X hB d hd=>by
  have hdl:=nE e.p
  have hsz:d.size≤80:=by rw [← szl d,hd];have:e.p.length=e.path.size:=szl e.path;omega
  exact ny own d (some ⟨g,0,none⟩) c X (hU.kept hB).own.lies hF (by omega) (by unfold maxLen;omega) hs _ _ (by rw [hd]) (by rw [hd])
 obtain ⟨x,hx⟩:∃ x,(getL own (aA e.p)).getD zeroE=x:=⟨_,rfl⟩
 have hxk:¬ x.kind=2:=by
  rw [← hx]
  unfold eT at hd
  cases hg:getL own (aA e.p) with
  | none=>rw [hg] at hd;simp [zeroE] at hd ⊢
  | some y=>rw [hg] at hd;simpa using hd
 rw [hx] at hget
 obtain ⟨xb,hxb⟩:∃ xb,(getL own (aA e.p)).isSome=xb:=⟨_,rfl⟩
 rw [hxb] at hget
 obtain ⟨xp,xk,xt,xo⟩:=x
 simp only at hxk hget
 have HU:Aside (UpAt W base U own g c vb):=hU
 obtain ⟨n,hn⟩:∃ n,own.length=n:=⟨_,rfl⟩
 have HN:Aside (own.length=n):=hn
 rw [hn] at hget
 have HS:Aside (Sorted o∧Fits o∧o.length≤9000∧e.p≠[]):=⟨hso,hFo,hlo,hne⟩
 clear hU hs hF hx hxb hn hne hd hso hFo hlo
 have hU1:U≠W.heap.size:=by omega
 go_enter Tryz.func176,Tryz.ntmps176
 go_wp2_with (first
  | (go_at_call 162;refine (hcut _).mono ?_;clear hcut;rintro r w1 ⟨⟨d,nm,rfl,hdd,hnn⟩,hw1⟩;replace hB1:=up1 hB1 (below_draws hw1);clear hw1 hnn;have hc1:=(HU.out.kept (bF hB1)).c0;rw [HN.out] at hc1)
  | (go_at_call 27;refine (hget _ (bF hB1) d hdd).mono ?_;clear hget;rintro r w2 ⟨rfl,hN2⟩;replace hB1:=up1 hB1 hN2;clear hN2 hc1;obtain ⟨⟨e0,e1,e2,e3⟩,_⟩:=new4 (Nat.lt_succ_self _) hB1)
  | (go_at_call 176;refine (hrec _ d hdd ((HU.out.kept (bF hB1)).kept ((Grown.refl _).alloc _).below)).mono ?_;clear hrec;rintro r w3 ⟨rfl,⟨g3,c3,hU3,hg3⟩,hM3⟩))
 have hB2:=upA (o2:=.cells #[.string xp,.int .i64 xk,.string xt,.bool xo] 53) hB1
 have hM4:Moved U g W w3:=(Moved.fH (bF hB2)).trans hM3 (.inl rfl)
 have hsz2:W.heap.size<w2.heap.size:=block_lt_of_cell e0
 obtain ⟨⟨z0,z1,z2,z3⟩,⟨fz0,fz1,fz2,fz3⟩⟩:=new4 (Nat.lt_succ_self _) hB2
 have hk:∀ j,w3.cell? ⟨W.heap.size,j,none⟩=(w2.alloc (.cells #[.string xp,.int .i64 xk,.string xt,.bool xo] 53)).cell? ⟨W.heap.size,j,none⟩:=fun j=>hM3.cell (a:=⟨W.heap.size,j,none⟩) (by simp;omega) (by simp only;omega) (by simp only;omega)
 have hkf:∀ j,w3.frozen? ⟨W.heap.size,j,none⟩=(w2.alloc (.cells #[.string xp,.int .i64 xk,.string xt,.bool xo] 53)).frozen? ⟨W.heap.size,j,none⟩:=fun j=>hM3.frozen (a:=⟨W.heap.size,j,none⟩) (by simp;omega) (by simp only;omega) (by simp only;omega)
 have y0:=(hk 0).trans z0
 have y1:=(hk 1).trans z1
 have y2:=(hk 2).trans z2
 have y3:=(hk 3).trans z3
 have fy3:=(hkf 3).trans fz3
 have HU5:Aside (UpAt w3 base U o g3 c3 vb):=hU3
 have HM5:Aside (Moved U g W w3):=hM4
 have HG5:Aside (g3=g∨W.heap.size<g3):=by
  rcases hg3 with h | h
  ·exact Or.inl h
  ·simp at h;exact Or.inr (by omega)
 have hEg:W.heap.size≠g3:=by rcases HG5.out with h | h <;> omega
 generalize w3=Y at *
 clear hk hkf z0 z1 z2 z3 fz0 fz1 fz2 fz3 hM4 hM3 hU3 hg3 hB2 hB1 e0 e1 e2 e3
 obtain ⟨i,hpl⟩:=uR o e.p
 have HP:Aside (aU o e.p i):=hpl
 have hUY:=HU5.out.ult
 obtain ⟨n1,hn1⟩:∃ n1,n1=o.length:=⟨_,rfl⟩
 have HN1:Aside (n1=o.length):=hn1
 have hc5:Y.cell? ⟨U,0,none⟩=some (.slice (some ⟨g3,0,none⟩) n1 c3):=by rw [hn1];exact HU5.out.c0
 have K0:=fun n os=>cell_grown (w:=Y) (a:=⟨U,0,none⟩) hUY hc5 n os
 have hEY:W.heap.size<Y.heap.size:=block_lt_of_cell y0
 have J0:=fun n os=>cell_grown (w:=Y) (a:=⟨W.heap.size,0,none⟩) hEY y0 n os
 have J1:=fun n os=>cell_grown (w:=Y) (a:=⟨W.heap.size,1,none⟩) hEY y1 n os
 have J2:=fun n os=>cell_grown (w:=Y) (a:=⟨W.heap.size,2,none⟩) hEY y2 n os
 have J3:=fun n os=>cell_grown (w:=Y) (a:=⟨W.heap.size,3,none⟩) hEY y3 n os
 have hse:∀ n os,Calls Tryz.prog 216 #[.slice (some ⟨g3,0,none⟩) n1 c3,.agg #[.string e.path, .int .i64 e.kind, .string e.text, .bool e.opq],.func (.func 161) #[] #[]] (grow (Y.drewN n) os) fun r w'=>r=.returned (.tuple #[.int .i64 i,.bool (isAt o e.p i)])∧∃ q os',w'=grow ((grow (Y.drewN n) os).drewN q) os':=fun n os=>by
  rw [hn1]
  exact uj o e i _ c3 _ (HU5.out.own.grown ⟨n,os,rfl⟩).lies HS.out.2.1 (by have:=HS.out.2.2.1;omega) (by unfold maxLen;omega) HS.out.1 HP.out
 have mixed:Tryz.prog.follows .mixedOrders=true:=by kernel_rfl
 have hin:i≤n1:=by rw [hn1];exact hpl.le
 have hn9:n1≤9000:=by rw [hn1];exact HS.out.2.2.1
 clear hn1 hpl
 cases hat:isAt o e.p i with
 | false =>
  rw [hat] at hse
  have HAT:Aside (isAt o e.p i=false):=hat
  clear hat
  go_quiet_grown (exact Calls.grown_of (hse _ _))
  obtain ⟨W6,hW6⟩:∃ W6,W6=grow (Y.drewN nq) osq:=⟨_,rfl⟩
  have hG6:Grown Y W6:=⟨nq,osq,hW6⟩
  show Exit.then _ _ Exit.normal _ (grow (Y.drewN nq) osq)
  rw [← hW6]
  have q0:=(hG6.cell (p:=⟨U,0,none⟩) hUY).trans hc5
  have j0:=(hG6.cell (p:=⟨W.heap.size,0,none⟩) hEY).trans y0
  have j1:=(hG6.cell (p:=⟨W.heap.size,1,none⟩) hEY).trans y1
  have j2:=(hG6.cell (p:=⟨W.heap.size,2,none⟩) hEY).trans y2
  have j3:=(hG6.cell (p:=⟨W.heap.size,3,none⟩) hEY).trans y3
  have HU6:Aside (UpAt W6 base U o g3 c3 vb):=HU5.out.kept hG6.below
  have HM6:Aside (Moved U g W W6):=HM5.out.trans (Moved.fH (g:=g) hG6.below) (.inl rfl)
  have hg6:=HU6.out.own.lt
  have hgU:=HU6.out.ne
  have hins:∀ Z:World,Below W6.heap.size W6 Z→Calls Tryz.prog 214 #[.slice (some ⟨g3,0,none⟩) n1 c3,.int .i64 i,.slice (some ⟨Z.heap.size,0,none⟩) 1 1] (Z.alloc (.cells #[.string e.path, .int .i64 e.kind, .string e.text, .bool e.opq] 53)) (lH (bJ o e) g3 (Z.alloc (.cells #[.string e.path, .int .i64 e.kind, .string e.text, .bool e.opq] 53))):=fun Z hZ=>by
   have:=qg o e i g3 c3 (Z.alloc (.cells #[.string e.path, .int .i64 e.kind, .string e.text, .bool e.opq] 53)) ((HU6.out.own.below hZ hg6).grown ((Grown.refl _).alloc _)) Z.heap.size (by show (Z.heap.push _)[Z.heap.size]?=_;simp;rfl) (by have:=hZ.size;omega) HP.out.le (by have:=HS.out.2.2.1;omega)
   rw [xJ HP.out HS.out.1 HS.out.2.2.2 HAT.out,← HN1.out] at this
   exact this
  clear hW6 hse K0 J0 J1 J2 J3 y0 y1 y2 y3 hc5 HU5 HM5 hG6 HP
  obtain ⟨tl,htl⟩:∃ tl,tl=bJ o e:=⟨_,rfl⟩
  rw [← htl] at hins
  have HTL:Aside (tl=bJ o e):=htl
  clear htl
  go_wp2
  have hUl6:U<W6.heap.size:=HU6.out.ult
  have hUn6:U≠W6.heap.size:=by omega
  have hEl6:W.heap.size<W6.heap.size:=block_lt_of_cell j0
  have hEn6:W.heap.size≠W6.heap.size:=by omega
  go_region_with (first | (go_at_call 214;refine Calls.mono (hins W6.drew (Below.refl _ _).drew) ?_;clear hins;rintro rr w7 ⟨g7,c7,rfl,hO7,hg7,hgb7⟩;have hx7:=hgb7.size;have k0:=fu hgb7 q0 (Ne.symm hgU);have k1:=fu hgb7 j0 hEg;have k2:=fu hgb7 j1 hEg;have k3:=fu hgb7 j2 hEg;have k4:=fu hgb7 j3 hEg;have kf:=qd hgb7 q0 HU6.out.f0 (Ne.symm hgU);have HO7:Aside _:=hO7;have HG7:Aside _:=hg7;have HB7:Aside _:=hgb7;clear hO7 hg7 hgb7))
  all_goals go_wp2
  all_goals refine bodyPost_ret (results_none rfl _ _ _) rfl ?_
  all_goals have htl:=HTL.out
  all_goals subst htl
  all_goals exact Bj HU6.out HM6.out HG5.out HG7.out HO7.out HB7.out
 | true =>
  rw [hat] at hse
  obtain ⟨hi1,hi2⟩:=kD.1 hat
  obtain ⟨y,hy⟩:∃ y,o[i]?=some y:=⟨_,List.getElem?_eq_getElem hi1⟩
  have HY:Aside (o[i]?=some y∧y.p=e.p):=⟨hy,by rw [← (List.getElem?_eq_some_iff.1 hy).2];exact hi2⟩
  have hi3:i<n1:=by rw [HN1.out];exact hi1
  clear hat hi1 hi2 hy
  go_quiet_grown (exact Calls.grown_of (hse _ _))
  obtain ⟨W6,hW6⟩:∃ W6,W6=grow (Y.drewN nq) osq:=⟨_,rfl⟩
  have hG6:Grown Y W6:=⟨nq,osq,hW6⟩
  show Exit.then _ _ Exit.normal _ (grow (Y.drewN nq) osq)
  rw [← hW6]
  have q0:=(hG6.cell (p:=⟨U,0,none⟩) hUY).trans hc5
  have j0:=(hG6.cell (p:=⟨W.heap.size,0,none⟩) hEY).trans y0
  have j1:=(hG6.cell (p:=⟨W.heap.size,1,none⟩) hEY).trans y1
  have j2:=(hG6.cell (p:=⟨W.heap.size,2,none⟩) hEY).trans y2
  have j3:=(hG6.cell (p:=⟨W.heap.size,3,none⟩) hEY).trans y3
  have fj3:=(hG6.below.frozen (p:=⟨W.heap.size,3,none⟩) hEY).trans fy3
  have HU6:Aside (UpAt W6 base U o g3 c3 vb):=HU5.out.kept hG6.below
  have HM6:Aside (Moved U g W W6):=HM5.out.trans (Moved.fH (g:=g) hG6.below) (.inl rfl)
  have hg6:=HU6.out.own.lt
  have hE6:W.heap.size<W6.heap.size:=block_lt_of_cell j0
  have hE6':W.heap.size≠W6.heap.size:=by omega
  have hU6:U<W6.heap.size:=HU6.out.ult
  have hU6':U≠W6.heap.size:=by omega
  have hg6':g3≠W6.heap.size:=by omega
  have hgU:=HU6.out.ne
  obtain ⟨⟨a0,a1,a2,a3⟩,⟨f0,f1,f2,f3⟩⟩:=HU6.out.own.cells HY.out.1
  clear hW6 hse K0 J0 J1 J2 J3 y0 y1 y2 y3 hc5 HU5 HM5 hG6 fy3
  obtain ⟨yp,yk,yt,yo⟩:=y
  simp only at a0 a1 a2 a3
  obtain ⟨ep,ek,et,eo⟩:=e
  simp only at j0 j1 j2 j3 hp80 ht ⊢
  by_cases hk2:ek=2
  ·subst hk2
   cases yo
   ·go_wp2
    go_region
    refine bodyPost_ret (results_none rfl _ _ _) rfl ?_
    exact nA _ ⟨ep,2,et,eo⟩ ⟨yp,yk,yt,false⟩ (yk == 4) (by simp) HU6.out HM6.out HG5.out (by omega) hEg HP.out HS.out.1 HS.out.2.2.2 HY.out
   ·go_wp2
    go_region
    refine bodyPost_ret (results_none rfl _ _ _) rfl ?_
    exact nA _ ⟨ep,2,et,eo⟩ ⟨yp,yk,yt,true⟩ true rfl HU6.out HM6.out HG5.out (by omega) hEg HP.out HS.out.1 HS.out.2.2.2 HY.out
  ·go_wp2
   go_region
   refine bodyPost_ret (results_none rfl _ _ _) rfl ?_
   exact nA _ ⟨ep,ek,et,eo⟩ ⟨yp,yk,yt,yo⟩ false (by simp [hk2]) HU6.out HM6.out HG5.out (by omega) hEg HP.out HS.out.1 HS.out.2.2.2 HY.out
theorem lY:∀ (n:Nat) (own:List Ent) (e:Ent) (base U g c:Nat) (vb:Value) (W:World),e.p.length≤n→UpAt W base U own g c vb→Sorted own→Fits own→e.path.size≤80→e.text.size≤maxLen→e.p≠[]→own.length+e.p.length≤8000 →
  Calls Tryz.prog 176 #[.pointer (some ⟨U,0,none⟩),.agg #[.string e.path, .int .i64 e.kind, .string e.text, .bool e.opq]] W (bQ (aC own e) base U g vb W)
 | n,own,e,base,U,g,c,vb,W,hn,hU,hs,hF,hp,ht,hne,hl=>by
  cases hd:eT own (aA e.p) with
  | true =>
   rw [mM hd]
   exact Gm own e base U g c vb W hU hs hF hp ht hne (by omega) hd
  | false =>
   have h0:aA e.p≠[]:=fun h0=>by rw [h0,iy] at hd;cases hd
   have hsh:=cO hne
   rw [nH (by rw [hd];decide)]
   have hpl:e.p.length=e.path.size:=szl e.path
   have hso:=mq (mkE (baL (aA e.p)) 2).p.length (own:=own) (e:=mkE (baL (aA e.p)) 2) (Nat.le_refl _) hs
   rw [fU] at hso
   cases n with
   | zero=>omega
   | succ n =>
    refine Ir own e base U g c vb W hU hs hF hp ht hne (by omega) (aC own (mkE (baL (aA e.p)) 2)) (fun X d hdd hX=>?_) hso.1 (rA _ _ (Nat.le_refl _) hF ?_) (by omega) hd
    ·have hmk:mkE d 2=mkE (baL (aA e.p)) 2:=by rw [EL,hdd]
     have hdl:d.data.toList.length=d.size:=szl d
     have:=lY n own (mkE d 2) base U g c vb X (by rw [qp,hdd];omega) hX hs hF (by show d.size≤80;rw [← hdl,hdd];omega) (by show (ByteArray.mk #[]).size≤maxLen;unfold maxLen;decide) (by rw [qp,hdd];exact h0) (by rw [qp,hdd];omega)
     rw [← show aC own (mkE d 2)=aC own (mkE (baL (aA e.p)) 2) by rw [hmk]]
     exact this
    ·omega
end Go.Proofs.YthfeoiffoeagkaaGreatDoor
