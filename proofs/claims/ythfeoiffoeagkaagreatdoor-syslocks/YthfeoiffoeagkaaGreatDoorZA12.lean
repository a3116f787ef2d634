/-
  An upper layer's drop and move; union.changed, Put, Remove and Move.
-/
import Derived.Test.YthfeoiffoeagkaaGreatDoorZA11
namespace Go.Proofs.YthfeoiffoeagkaaGreatDoor
open Go.RowKit PM Go.Sort
set_option linter.unusedVariables false
theorem qc {own:List Ent} {e:Ent} (h:Fits own) (hp:e.path.size≤80) (ht:e.text.size≤maxLen):Fits (aC own e):=by
 have hpl:e.p.length=e.path.size:=szl e.path
 by_cases hd:eT own (aA e.p)=true
 ·rw [mM hd];exact ng h hp ht
 ·rw [nH hd]
  have:=nE e.p
  exact ng (rA _ _ (Nat.le_refl _) h (by omega)) hp ht
theorem uL {own:List Ent} (h:Fits own) (p:List UInt8):Fits (cutW own p):=fun x hx=>h x (jh.1 hx).1
theorem Dr {own:List Ent} (h:Sorted own) (p:List UInt8):Sorted (cutW own p):=List.Pairwise.filter _ h
theorem UpAt.cut {W X:World} {base U g c:Nat} {own l:List Ent} {vb:Value} (h:UpAt W base U own g c vb) (hO:Own X g c l) (hG:W.grownBy X (some g)):UpAt (X.setCell ⟨U,0,none⟩ (.slice (some ⟨g,0,none⟩) l.length c)) base U l g c vb:=by
 have k0:=(gN hG (a:=⟨U,0,none⟩) h.ult (Ne.symm h.ne)).trans h.c0
 have k1:=(gN hG (a:=⟨U,1,none⟩) h.ult (Ne.symm h.ne)).trans h.c1
 have f0:X.frozen? ⟨U,0,none⟩=false:=(World.frozen?_of_block (w:=W) (hG.block _ h.ult (by simpa using Ne.symm h.ne))).trans h.f0
 exact ⟨World.cell?_setCell_same' _ _ _ (by rw [k0];rfl),by rw [World.frozen?_setCell];exact f0,by rw [World.cell?_setCell_other X ⟨U,0,none⟩ ⟨U,1,none⟩ _ (fun h=>by cases h)];exact k1,hO.kept (Below.heap_setCell _ _ _ _ (by simpa using h.ne)),h.ne,h.gb,h.ub⟩
theorem Eh {W X:World} {base U g c:Nat} {own l:List Ent} {vb:Value} {q:ByteArray} (h:UpAt W base U own g c vb) (hO:Own X g c l) (hG:(W.alloc (.cells #[.string q] 9)).grownBy X (some g)) :
  UpAt (X.setCell ⟨U,0,none⟩ (.slice (some ⟨g,0,none⟩) l.length c)) base U l g c vb∧Moved U g W (X.setCell ⟨U,0,none⟩ (.slice (some ⟨g,0,none⟩) l.length c))∧(X.setCell ⟨U,0,none⟩ (.slice (some ⟨g,0,none⟩) l.length c)).cell? ⟨W.heap.size,0,none⟩=some (.string q):=by
 have hB:Below W.heap.size W (W.alloc (.cells #[.string q] 9)):=(Below.refl _ _).alloc (Nat.le_refl _) _
 have hult:=h.ult
 have hglt:=h.own.lt
 refine ⟨(h.kept hB).cut hO hG,((Moved.fH (g:=g) hB).trans (Moved.Bv hG) (.inl rfl)).trans (Moved.set (g:=g) 0 _) (.inl rfl),?_⟩
 rw [World.cell?_setCell_far _ _ _ _ (by simp only;omega),gN hG (by simp) (by simp only;omega)]
 simp
theorem nP {W X Y:World} {base U g c:Nat} {l:List Ent} {vb:Value} (h:UpAt X base U l g c vb) (hM:Moved U g W X) (hB:Below X.heap.size X Y):bQ l base U g vb W (.returned (.tuple #[])) Y :=
 ⟨rfl,⟨g,c,h.kept hB,.inl rfl⟩,hM.trans (Moved.fH (g:=g) hB) (.inl rfl)⟩
theorem zO {W X Y Z:World} {base U g:Nat} {l:List Ent} {vb:Value} (hM:Moved U g W X) (hB:Below X.heap.size X Y) (h:(∃ g' c',UpAt Z base U l g' c' vb∧(g'=g∨Y.heap.size≤g'))∧Moved U g Y Z):bQ l base U g vb W (.returned (.tuple #[])) Z:=by
 obtain ⟨⟨g',c',h1,h2⟩,h3⟩:=h
 have hs:=hM.size
 have hs2:=hB.size
 refine ⟨rfl,⟨g',c',h1,?_⟩,(hM.trans (Moved.fH (g:=g) hB) (.inl rfl)).trans h3 (.inl rfl)⟩
 rcases h2 with e | e
 ·exact .inl e
 ·exact .inr (by omega)
theorem Ce {W X:World} {base U g c:Nat} {own:List Ent} {vb:Value} {q:ByteArray} (h:UpAt W base U own g c vb) (hG:(W.alloc (.cells #[.string q] 9)).grownBy X (some g)):X.cell? ⟨U,0,none⟩=some (.slice (some ⟨g,0,none⟩) own.length c)∧X.frozen? ⟨U,0,none⟩=false:=by
 have h':=h.kept ((Below.refl _ W).alloc (Nat.le_refl _) (.cells #[.string q] 9))
 exact ⟨(gN hG (a:=⟨U,0,none⟩) h'.ult (Ne.symm h.ne)).trans h'.c0,(World.frozen?_of_block (w:=W.alloc (.cells #[.string q] 9)) (a:=⟨U,0,none⟩) (hG.block _ h'.ult (by simpa using Ne.symm h.ne))).trans h'.f0⟩
set_option maxHeartbeats 4000000 in
set_option maxRecDepth 100000 in
theorem yN (own B:List Ent) (q:ByteArray) (base U g c:Nat) (pB:Option Addr) (cB:Nat) (W:World) (hU:UpAt W base U own g c (.slice pB B.length cB)) (hbase:base≤W.heap.size) (hLB:∀ X,Below base W X→Lies X pB B) (hs:Sorted own) (hF:Fits own) (hsB:Sorted B) (hFB:Fits B) (hB80:B.length≤80) (hq80:q.size≤80) (hqne:q.data.toList≠[]) (hlen:own.length≤7900) :
  Calls Tryz.prog 180 #[.pointer (some ⟨U,0,none⟩),.string q] W (bQ (aL own B q) base U g (.slice pB B.length cB) W):=by
 have hUlt:=hU.ult
 have hglt:=hU.own.lt
 have hgU:=hU.ne
 have eg:∀ args w,(callFunc 221 args).run Tryz.prog w=.ok (.enter 221 args) w:=enters_of Tryz.func221 (by kernel_rfl) rfl
 have hqm:q.size≤maxLen:=by unfold maxLen;omega
 have hdel:=mZ (fun e=>inW q.data.toList e.p) 221 #[.pointer (some ⟨W.heap.size,0,none⟩)] eg own g c (W.alloc (.cells #[.string q] 9)) (hU.own.grown ((Grown.refl W).alloc _)) (by omega)
  (fun W2 x hG hx=>Ef x q W.heap.size W2 (hF x hx).1 hqm (by have:=hG.size;simp at this;omega) (by rw [gN hG (by simp) (by show W.heap.size≠g;omega)];simp))
 have hcw:(own.filter fun x => !inW q.data.toList x.p)=cutW own q.data.toList:=rfl
 rw [hcw] at hdel
 clear eg
 obtain ⟨n,hn⟩:∃ n,own.length=n:=⟨_,rfl⟩
 have hc0:=hU.c0
 have hf0:=hU.f0
 rw [hn] at hdel hc0
 have HU:Aside (UpAt W base U own g c (.slice pB B.length cB)):=hU
 have hU1:U≠W.heap.size:=by omega
 obtain ⟨cw,hcw⟩:∃ cw,cw=cutW own q.data.toList:=⟨_,rfl⟩
 rw [← hcw] at hdel
 have HCW:Aside (cw=cutW own q.data.toList):=hcw
 have HS:Aside (Sorted cw∧Fits cw∧cw.length≤7900):=by
  refine ⟨?_,?_,?_⟩
  ·rw [hcw];exact Dr hs _
  ·rw [hcw];exact uL hF _
  ·rw [hcw];exact Nat.le_trans (Ba _ _) hlen
 clear hcw hU hs hF hlen
 obtain ⟨nb,hnb⟩:∃ nb,nb=B.length:=⟨_,rfl⟩
 have HNB:Aside (nb=B.length):=hnb
 go_enter Tryz.func180,Tryz.ntmps180
 go_wp2_with (go_at_call 220;refine hdel.mono ?_;clear hdel;rintro r w2 ⟨rfl,hO2,hG2⟩;obtain ⟨k0,kf⟩:=Ce HU.out hG2;have HL:Aside _:=Eh HU.out hO2 hG2;clear hO2 hG2)
 obtain ⟨X1,hX1⟩:∃ X1,w2.setCell ⟨U,0,none⟩ (.slice (some ⟨g,0,none⟩) cw.length c)=X1:=⟨_,rfl⟩
 have hL:=HL.out
 rw [hX1] at hL ⊢
 obtain ⟨hU1',hM1,hP1⟩:=hL
 have HU1:Aside (UpAt X1 base U cw g c (.slice pB B.length cB)):=hU1'
 have HM1:Aside (Moved U g W X1):=hM1
 have hb1:Below base W X1:=hM1.below hU1'.ub hU1'.gb hbase
 have q1:=hU1'.c1
 rw [← hnb] at q1
 obtain ⟨x,hx⟩:∃ x,(getL B q.data.toList).getD zeroE=x:=⟨_,rfl⟩
 obtain ⟨b,hb⟩:∃ b,(getL B q.data.toList).isSome=b:=⟨_,rfl⟩
 have hgt:∀ X,Below base W X→Calls Tryz.prog 27 #[.slice pB nb cB,.string q] X fun r w'=>r=.returned (.tuple #[.agg #[.string x.path, .int .i64 x.kind, .string x.text, .bool x.opq],.bool b])∧Below X.heap.size X w':=fun X hX=>by
  rw [hnb]
  exact ny B q pB cB X (hLB X hX) hFB (by omega) hqm hsB x b hx hb
 have HB:Aside ((getL B q.data.toList).isSome=b):=hb
 have hPl:=block_lt_of_cell hP1
 simp only at hPl
 have hUl:=hU1'.ult
 clear HL hX1 hU1' hM1 hx hb k0 kf hc0 hf0 hnb hn hcw
 obtain ⟨xp,xk,xt,xo⟩:=x
 simp only at hgt
 have n1:=World.new_ne X1 ⟨U,1,none⟩ q1
 have n2:=World.new_ne X1 ⟨W.heap.size,0,none⟩ hP1
 go_region_held3 (fun w'=>w'.cell? ⟨U,1,none⟩=some (.slice pB nb cB)∧w'.cell? ⟨W.heap.size,0,none⟩=some (.string q)) (go_keep) (first
  | (go_at_call 27;refine (hgt _ hb1.drew).mono ?_;clear hgt;rintro r w3 ⟨rfl,hN3⟩;have HN3:Aside _:=hN3;have z1:=(hN3.cell (p:=⟨U,1,none⟩) hUl).trans q1;have z2:=(hN3.cell (p:=⟨W.heap.size,0,none⟩) hPl).trans hP1;clear hN3)
  | (go_at_call 27;refine (hgt _ (hb1.alloc (Nat.le_trans hbase HM1.out.size) _).drew).mono ?_;clear hgt;rintro r w3 ⟨rfl,hN3⟩;have HN3:Aside _:=hN3;have z1:=(hN3.cell (p:=⟨U,1,none⟩) (by simp;omega)).trans (Lib.cell?_alloc_some _ q1);have z2:=(hN3.cell (p:=⟨W.heap.size,0,none⟩) (by simp;omega)).trans (Lib.cell?_alloc_some _ hP1);obtain ⟨⟨b0,b1,b2,b3⟩,⟨g0,g1,g2,g3⟩⟩:=new4 (w:=X1) (B:=X1.heap.size+1) (Nat.lt_succ_self _) (((Below.refl _ _).drew).trans (hN3.mono (Nat.le_of_eq (World.size_alloc X1 _).symm)));clear hN3))
 ·obtain ⟨X2,hX2'⟩:∃ X2,w3.alloc (.cells #[.string xp,.int .i64 xk,.string xt,.bool xo] 53)=X2:=⟨_,rfl⟩
  have hX2:Below X1.heap.size X1 X2:=by
   have h1:Below X1.heap.size X1 w3:=((Below.refl _ _).drew).trans HN3.out
   rw [← hX2'];exact h1.alloc h1.size _
  rw [hX2']
  clear hX2' HN3
  have HU2:Aside (UpAt X2 base U cw g c (.slice pB B.length cB)):=HU1.out.kept hX2
  have HM2:Aside (Moved U g W X2):=HM1.out.trans (Moved.fH (g:=g) hX2) (.inl rfl)
  have hP2:=(hX2.cell (p:=⟨W.heap.size,0,none⟩) hPl).trans hP1
  have hPl2:W.heap.size<X2.heap.size:=Nat.lt_of_lt_of_le hPl hX2.size
  have hUl2:=HU2.out.ult
  obtain ⟨nc,hnc⟩:∃ nc,nc=cw.length:=⟨_,rfl⟩
  have hc2:=HU2.out.c0
  rw [← hnc] at hc2
  have K0:=fun n os=>cell_grown (w:=X2) (a:=⟨U,0,none⟩) hUl2 hc2 n os
  have J0:=fun n os=>cell_grown (w:=X2) (a:=⟨W.heap.size,0,none⟩) hPl2 hP2 n os
  have mixed:Tryz.prog.follows .mixedOrders=true:=by kernel_rfl
  have hhi:∀ n os,Calls Tryz.prog 203 #[.slice (some ⟨g,0,none⟩) nc c,.string q] (grow (X2.drewN n) os) fun r w'=>r=.returned (.bool (bI cw q.data.toList))∧∃ p os',w'=grow ((grow (X2.drewN n) os).drewN p) os':=fun n os=>by
   rw [hnc]
   exact rC cw q _ c _ (HU2.out.own.grown ⟨n,os,rfl⟩).lies HS.out.2.1 (by have:=HS.out.2.2;omega) hqm
  have hhv:∀ X,Grown X2 X→Calls Tryz.prog 176 #[.pointer (some ⟨U,0,none⟩),.agg #[.string q,.int .i64 4,.string ⟨#[]⟩,.bool false]] X (bQ (aC cw (mkE q 4)) base U g (.slice pB B.length cB) X):=fun X hX =>
   lY (mkE q 4).p.length cw (mkE q 4) base U g c _ X (Nat.le_refl _) (HU2.out.kept hX.below) HS.out.1 HS.out.2.1 hq80 (by show (ByteArray.mk #[]).size≤maxLen;unfold maxLen;decide) hqne (by have h1:(mkE q 4).p.length=q.size:=szl q;have:=HS.out.2.2;omega)
  have HDR:Aside (aL own B q=if (getL B q.data.toList).isSome && !bI cw q.data.toList then aC cw (mkE q 4) else cw):=by show _=_;rw [HCW.out];rfl
  obtain ⟨dl,hdl⟩:∃ dl,dl=aL own B q:=⟨_,rfl⟩
  have HDL:Aside (dl=aL own B q):=hdl
  rw [← hdl]
  clear hnc hdl hX2 z1 z2 q1 hP1 hb1 n1 n2 hc2
  generalize bI cw q.data.toList=hh at hhi HDR
  cases b with
  | false =>
   have HE:Aside (dl=cw):=by show _=_;rw [HDL.out,HDR.out,HB.out];rfl
   clear hhi hhv
   go_wp2
   go_quiet (fail)
   go_wp2
   refine bodyPost_ret (results_none rfl _ _ _) rfl ?_
   rw [← HDL.out,HE.out]
   exact nP HU2.out HM2.out (below_drewN (Below.refl _ _) _)
  | true =>
   cases hh with
   | true =>
    have HE:Aside (dl=cw):=by show _=_;rw [HDL.out,HDR.out,HB.out];rfl
    clear hhv
    go_wp2
    go_quiet_grown (exact Calls.grown_of (hhi _ _))
    go_wp2
    refine bodyPost_ret (results_none rfl _ _ _) rfl ?_
    rw [← HDL.out,HE.out]
    exact nP HU2.out HM2.out (Grown.below ⟨_,_,rfl⟩)
   | false =>
    have HE:Aside (dl=aC cw (mkE q 4)):=by show _=_;rw [HDL.out,HDR.out,HB.out];rfl
    go_wp2
    go_quiet_grown (exact Calls.grown_of (hhi _ _))
    obtain ⟨X3,hX3⟩:∃ X3,X3=grow (X2.drewN nq) osq:=⟨_,rfl⟩
    have hG3:Grown X2 X3:=⟨nq,osq,hX3⟩
    show Exit.then _ _ Exit.normal _ (grow (X2.drewN nq) osq)
    rw [← hX3]
    have hP3:=(hG3.cell (p:=⟨W.heap.size,0,none⟩) hPl2).trans hP2
    clear hhi K0 J0 hX3
    go_wp2_with (go_at_call 176;refine (hhv _ hG3).mono ?_;clear hhv;rintro r X4 ⟨rfl,hH⟩;have HH:Aside _:=hH;clear hH)
    refine bodyPost_ret (results_none rfl _ _ _) rfl ?_
    rw [← HDL.out,HE.out]
    exact zO HM2.out hG3.below HH.out
 ·have hX2:Below X1.heap.size X1 ((((w3.setCell ⟨X1.heap.size,0,none⟩ (.string xp)).setCell ⟨X1.heap.size,1,none⟩ (.int .i64 xk)).setCell ⟨X1.heap.size,2,none⟩ (.string xt)).setCell ⟨X1.heap.size,3,none⟩ (.bool xo)):=by
   have h1:Below X1.heap.size X1 w3:=(((Below.refl _ _).alloc (Nat.le_refl _) _).drew).trans (HN3.out.mono (by rw [show ∀ o,(X1.alloc o).drew.heap.size=X1.heap.size+1 from fun o=>World.size_alloc X1 o];omega))
   exact (((h1.setCell (p:=⟨X1.heap.size,0,none⟩) (Nat.le_refl _) _).setCell (p:=⟨X1.heap.size,1,none⟩) (Nat.le_refl _) _).setCell (p:=⟨X1.heap.size,2,none⟩) (Nat.le_refl _) _).setCell (p:=⟨X1.heap.size,3,none⟩) (Nat.le_refl _) _
  generalize (((w3.setCell ⟨X1.heap.size,0,none⟩ (.string xp)).setCell ⟨X1.heap.size,1,none⟩ (.int .i64 xk)).setCell ⟨X1.heap.size,2,none⟩ (.string xt)).setCell ⟨X1.heap.size,3,none⟩ (.bool xo)=X2 at hX2 ⊢
  clear HN3 b0 b1 b2 b3 g0 g1 g2 g3
  have HU2:Aside (UpAt X2 base U cw g c (.slice pB B.length cB)):=HU1.out.kept hX2
  have HM2:Aside (Moved U g W X2):=HM1.out.trans (Moved.fH (g:=g) hX2) (.inl rfl)
  have hP2:=(hX2.cell (p:=⟨W.heap.size,0,none⟩) hPl).trans hP1
  have hPl2:W.heap.size<X2.heap.size:=Nat.lt_of_lt_of_le hPl hX2.size
  have hUl2:=HU2.out.ult
  obtain ⟨nc,hnc⟩:∃ nc,nc=cw.length:=⟨_,rfl⟩
  have hc2:=HU2.out.c0
  rw [← hnc] at hc2
  have K0:=fun n os=>cell_grown (w:=X2) (a:=⟨U,0,none⟩) hUl2 hc2 n os
  have J0:=fun n os=>cell_grown (w:=X2) (a:=⟨W.heap.size,0,none⟩) hPl2 hP2 n os
  have mixed:Tryz.prog.follows .mixedOrders=true:=by kernel_rfl
  have hhi:∀ n os,Calls Tryz.prog 203 #[.slice (some ⟨g,0,none⟩) nc c,.string q] (grow (X2.drewN n) os) fun r w'=>r=.returned (.bool (bI cw q.data.toList))∧∃ p os',w'=grow ((grow (X2.drewN n) os).drewN p) os':=fun n os=>by
   rw [hnc]
   exact rC cw q _ c _ (HU2.out.own.grown ⟨n,os,rfl⟩).lies HS.out.2.1 (by have:=HS.out.2.2;omega) hqm
  have hhv:∀ X,Grown X2 X→Calls Tryz.prog 176 #[.pointer (some ⟨U,0,none⟩),.agg #[.string q,.int .i64 4,.string ⟨#[]⟩,.bool false]] X (bQ (aC cw (mkE q 4)) base U g (.slice pB B.length cB) X):=fun X hX =>
   lY (mkE q 4).p.length cw (mkE q 4) base U g c _ X (Nat.le_refl _) (HU2.out.kept hX.below) HS.out.1 HS.out.2.1 hq80 (by show (ByteArray.mk #[]).size≤maxLen;unfold maxLen;decide) hqne (by have h1:(mkE q 4).p.length=q.size:=szl q;have:=HS.out.2.2;omega)
  have HDR:Aside (aL own B q=if (getL B q.data.toList).isSome && !bI cw q.data.toList then aC cw (mkE q 4) else cw):=by show _=_;rw [HCW.out];rfl
  obtain ⟨dl,hdl⟩:∃ dl,dl=aL own B q:=⟨_,rfl⟩
  have HDL:Aside (dl=aL own B q):=hdl
  rw [← hdl]
  clear hnc hdl hX2 z1 z2 q1 hP1 hb1 n1 n2 hc2
  generalize bI cw q.data.toList=hh at hhi HDR
  cases b with
  | false =>
   have HE:Aside (dl=cw):=by show _=_;rw [HDL.out,HDR.out,HB.out];rfl
   clear hhi hhv
   go_wp2
   go_quiet (fail)
   go_wp2
   refine bodyPost_ret (results_none rfl _ _ _) rfl ?_
   rw [← HDL.out,HE.out]
   exact nP HU2.out HM2.out (below_drewN (Below.refl _ _) _)
  | true =>
   cases hh with
   | true =>
    have HE:Aside (dl=cw):=by show _=_;rw [HDL.out,HDR.out,HB.out];rfl
    clear hhv
    go_wp2
    go_quiet_grown (exact Calls.grown_of (hhi _ _))
    go_wp2
    refine bodyPost_ret (results_none rfl _ _ _) rfl ?_
    rw [← HDL.out,HE.out]
    exact nP HU2.out HM2.out (Grown.below ⟨_,_,rfl⟩)
   | false =>
    have HE:Aside (dl=aC cw (mkE q 4)):=by show _=_;rw [HDL.out,HDR.out,HB.out];rfl
    go_wp2
    go_quiet_grown (exact Calls.grown_of (hhi _ _))
    obtain ⟨X3,hX3⟩:∃ X3,X3=grow (X2.drewN nq) osq:=⟨_,rfl⟩
    have hG3:Grown X2 X3:=⟨nq,osq,hX3⟩
    show Exit.then _ _ Exit.normal _ (grow (X2.drewN nq) osq)
    rw [← hX3]
    have hP3:=(hG3.cell (p:=⟨W.heap.size,0,none⟩) hPl2).trans hP2
    clear hhi K0 J0 hX3
    go_wp2_with (go_at_call 176;refine (hhv _ hG3).mono ?_;clear hhv;rintro r X4 ⟨rfl,hH⟩;have HH:Aside _:=hH;clear hH)
    refine bodyPost_ret (results_none rfl _ _ _) rfl ?_
    rw [← HDL.out,HE.out]
    exact zO HM2.out hG3.below HH.out
end Go.Proofs.YthfeoiffoeagkaaGreatDoor
namespace Go.Proofs.YthfeoiffoeagkaaGreatDoor
open Go.RowKit PM Go.Sort
set_option linter.unusedVariables false
def UpSt (W:World) (base U g:Nat) (l:List Ent) (vb:Value) (X:World):Prop:=(∃ g' c',UpAt X base U l g' c' vb∧(g'=g∨W.heap.size≤g'))∧Moved U g W X
theorem UpSt.start {W:World} {base U g c:Nat} {l:List Ent} {vb:Value} (h:UpAt W base U l g c vb):UpSt W base U g l vb W:=⟨⟨g,c,h,.inl rfl⟩,Moved.refl _ _ _⟩
theorem UpSt.kept {W X Y:World} {base U g:Nat} {l:List Ent} {vb:Value} (h:UpSt W base U g l vb X) (hB:Below X.heap.size X Y):UpSt W base U g l vb Y:=by
 obtain ⟨⟨g',c',h1,h2⟩,h3⟩:=h
 exact ⟨⟨g',c',h1.kept hB,h2⟩,h3.trans (Moved.fH (g:=g) hB) (.inl rfl)⟩
theorem UpSt.next {W X Y:World} {base U g g1:Nat} {l:List Ent} {vb:Value} (hM:Moved U g W X) (hg:g1=g∨W.heap.size≤g1) (h:(∃ g' c',UpAt Y base U l g' c' vb∧(g'=g1∨X.heap.size≤g'))∧Moved U g1 X Y):UpSt W base U g l vb Y:=by
 obtain ⟨⟨g',c',h1,h2⟩,h3⟩:=h
 have hs:=hM.size
 refine ⟨⟨g',c',h1,?_⟩,hM.trans h3 hg⟩
 rcases h2 with e | e
 ·rw [e];exact hg
 ·exact .inr (by omega)
theorem UpSt.below {W X:World} {base U g c:Nat} {l l0:List Ent} {vb:Value} (h:UpSt W base U g l vb X) (h0:UpAt W base U l0 g c vb) (hb:base≤W.heap.size):Below base W X:=h.2.below h0.ub h0.gb hb
theorem rz {own B:List Ent} {p:ByteArray} (h:Fits own) (hp:p.size≤80):Fits (aL own B p):=by
 unfold aL
 split
 ·exact qc (uL h _) hp (by show (ByteArray.mk #[]).size≤maxLen;unfold maxLen;decide)
 ·exact uL h _
theorem tV (frm to:ByteArray):∀ (M:List Ent) (o:List Ent),(∀ e∈M,(mvE frm to e).path.size≤80∧(mvE frm to e).text.size≤maxLen)→Sorted o→Fits o→Sorted (bZ frm to o M)∧Fits (bZ frm to o M)∧(bZ frm to o M).length≤o.length+81*M.length
 | [],o,_,hs,hF=>⟨hs,hF,by simp [bZ]⟩
 | e::M,o,hM,hs,hF=>by
  obtain ⟨h1,h2⟩:=hM e (by simp)
  obtain ⟨s1,s2⟩:=mq (mvE frm to e).p.length (own:=o) (e:=mvE frm to e) (Nat.le_refl _) hs
  have hpl:(mvE frm to e).p.length=(mvE frm to e).path.size:=szl _
  obtain ⟨a,b,c⟩:=tV frm to M (aC o (mvE frm to e)) (fun x hx=>hM x (by simp [hx])) s1 (qc hF h1 h2)
  refine ⟨a,b,?_⟩
  show (bZ frm to (aC o (mvE frm to e)) M).length≤_
  rw [List.length_cons]
  omega
theorem vM (frm to:ByteArray) (o M:List Ent) (e:Ent):bZ frm to o (M++[e])=aC (bZ frm to o M) (mvE frm to e):=by simp [bZ,List.foldl_append]
theorem tu {s:List Ent} {f:Ent→Bool} {k:Nat} {y:Ent} (hy:s[k]?=some y):(s.take (k+1)).filter f=(s.take k).filter f++(if f y then [y] else []):=by
 rw [dh hy,List.filter_append]
 cases h:f y <;> simp [h]
set_option maxHeartbeats 1000000 in
set_option maxRecDepth 100000 in
theorem DF (own B s:List Ent) (frm to:ByteArray) (base U g c:Nat) (pB ps:Option Addr) (cB cs:Nat) (W:World) (hU:UpAt W base U own g c (.slice pB B.length cB)) (hbase:base≤W.heap.size) (hLB:∀ X,Below base W X→Lies X pB B) (hLs:∀ X,Below base W X→Lies X ps s)
  (hs:Sorted own) (hF:Fits own) (hsB:Sorted B) (hFB:Fits B) (hB80:B.length≤80) (hss:Sorted s) (hFs:Fits s) (hs80:s.length≤80) (hf80:frm.size≤80) (ht80:to.size≤80) (hfne:frm.data.toList≠[]) (htne:to.data.toList≠[]) (hlen:own.length≤80)
  (hp80:∀ e∈s,e.path.size≤80) (hmv:∀ e∈s,inM frm.data.toList e=true→(mvE frm to e).path.size≤80∧(mvE frm to e).p≠[]) :
  Calls Tryz.prog 185 #[.pointer (some ⟨U,0,none⟩),.slice ps s.length cs,.string frm,.string to] W (bQ (fV own B s frm to) base U g (.slice pB B.length cB) W):=by
 obtain ⟨x,hx⟩:∃ x,(getL s to.data.toList).getD zeroE=x:=⟨_,rfl⟩
 obtain ⟨b,hb⟩:∃ b,(getL s to.data.toList).isSome=b:=⟨_,rfl⟩
 have hget:Calls Tryz.prog 27 #[.slice ps s.length cs,.string to] W fun r w'=>r=.returned (.tuple #[.agg #[.string x.path, .int .i64 x.kind, .string x.text, .bool x.opq],.bool b])∧Below W.heap.size W w' :=
  ny s to ps cs W (hLs W (Below.refl _ _)) hFs (by omega) (by unfold maxLen;omega) hss x b hx hb
 have HU:Aside (UpAt W base U own g c (.slice pB B.length cB)):=hU
 have HLs:Aside (∀ X,Below base W X→Lies X ps s):=hLs
 have hdrop:∀ (o:List Ent) (q:ByteArray) (X:World) (g1 c1:Nat),UpAt X base U o g1 c1 (.slice pB B.length cB)→Below base W X→Sorted o→Fits o→o.length≤7900→q.size≤80→q.data.toList≠[] →
   Calls Tryz.prog 180 #[.pointer (some ⟨U,0,none⟩),.string q] X (bQ (aL o B q) base U g1 (.slice pB B.length cB) X):=fun o q X g1 c1 h1 h2 h3 h4 h5 h6 h7 =>
  yN o B q base U g1 c1 pB cB X h1 (Nat.le_trans hbase h2.size) (fun Y hY=>hLB Y (h2.trans hY)) h3 h4 hsB hFB hB80 h6 h7 h5
 have HCT:Aside (Sorted (dL own B s to)∧Fits (dL own B s to)∧(dL own B s to).length≤161):=by
  unfold dL
  split
  ·have:=yO (own:=own) (B:=B) (p:=to) hs
   exact ⟨this.2,rz hF ht80,by omega⟩
  ·exact ⟨hs,hF,by omega⟩
 obtain ⟨o2,ho2⟩:∃ o2,o2=aL (dL own B s to) B frm:=⟨_,rfl⟩
 have HO2:Aside (Sorted o2∧Fits o2∧o2.length≤242):=by
  have:=yO (own:=dL own B s to) (B:=B) (p:=frm) HCT.out.1
  have h2:=HCT.out.2.2
  rw [ho2]
  exact ⟨this.2,rz HCT.out.2.1 hf80,by omega⟩
 have HMU:Aside (fV own B s frm to=bZ frm to o2 (s.filter (inM frm.data.toList))):=by show _=_;rw [ho2];rfl
 have HDF:Aside (o2=aL (dL own B s to) B frm):=ho2
 have HMV:Aside (∀ e∈s,inM frm.data.toList e=true→(mvE frm to e).path.size≤80∧(mvE frm to e).p≠[]):=hmv
 have HFS:Aside (Fits s):=hFs
 have HP8:Aside (∀ e∈s,e.path.size≤80):=hp80
 have HBD:Aside (∀ k,Sorted (bZ frm to o2 ((s.take k).filter (inM frm.data.toList)))∧Fits (bZ frm to o2 ((s.take k).filter (inM frm.data.toList)))∧(bZ frm to o2 ((s.take k).filter (inM frm.data.toList))).length≤6800):=fun k=>by
  have h1:((s.take k).filter (inM frm.data.toList)).length≤80:=Nat.le_trans (List.length_filter_le _ _) (Nat.le_trans (by rw [List.length_take];exact Nat.min_le_right _ _) hs80)
  obtain ⟨a,b,cc⟩:=tV frm to ((s.take k).filter (inM frm.data.toList)) o2 (fun e he=>by
   obtain ⟨h2,h3⟩:=List.mem_filter.1 he
   have h4:=List.mem_of_mem_take h2
   exact ⟨(hmv e h4 h3).1,(hFs e h4).2⟩) HO2.out.1 HO2.out.2.1
  exact ⟨a,b,by have:=HO2.out.2.2;omega⟩
 obtain ⟨n,hn⟩:∃ n,n=s.length:=⟨_,rfl⟩
 have HN:Aside (n=s.length):=hn
 rw [← hn] at hget hs80 ⊢
 have HB0:Aside ((getL s to.data.toList).isSome=b):=hb
 obtain ⟨mu,hmu⟩:∃ mu,mu=fV own B s frm to:=⟨_,rfl⟩
 have HMM:Aside (mu=fV own B s frm to):=hmu
 have HOW:Aside (Sorted own∧Fits own∧own.length≤80):=⟨hs,hF,hlen⟩
 obtain ⟨xp,xk,xt,xo⟩:=x
 simp only at hget
 have hUlt:=hU.ult
 clear hx hb ho2 hn hmu hs hF hss hFs hmv hLs hLB hlen hU hp80
 cases b with
 | false =>
  have HC:Aside (dL own B s to=own):=by show _=_;rw [dL,HB0.out];rfl
  go_enter Tryz.func185,Tryz.ntmps185
  go_wp2_with (first
   | (go_at_call 27;refine hget.mono ?_;clear hget;rintro r w1 ⟨rfl,hN1⟩;have HS1:Aside (UpSt W base U g own (.slice pB B.length cB) (w1.alloc (.cells #[.string xp,.int .i64 xk,.string xt,.bool xo] 53))):=((UpSt.start HU.out).kept hN1).kept ((Grown.refl _).alloc _).below;clear hN1)
   | (go_at_call 180;obtain ⟨⟨g1,c1,hU1,hg1⟩,hM1⟩:=HS1.out;refine (hdrop own frm _ g1 c1 hU1 (HS1.out.below HU.out hbase) HOW.out.1 HOW.out.2.1 (by have:=HOW.out.2.2;omega) hf80 hfne).mono ?_;rintro r w2 ⟨rfl,hH⟩;have HS2:Aside (UpSt W base U g o2 (.slice pB B.length cB) w2):=by { have:=UpSt.next hM1 hg1 hH;rw [← HC.out,← HDF.out] at this;exact this };clear hH hM1 hU1 hg1 HS1))
  go_loopg [27] n (fun gg s27 wr=>∃ k:Nat,k≤n∧n-k≤gg∧s27=.int .i64 k∧Aside (UpSt W base U g (bZ frm to o2 ((s.take k).filter (inM frm.data.toList))) (.slice pB B.length cB) wr))
  case atStart=>exact ⟨0,Nat.zero_le _,by omega,rfl,HS2.out⟩
  case round =>
   obtain ⟨k,hk,hgg,rfl,ST⟩:=hrel
   by_cases hlt:k<n
   ·have hltz:(k:Int)<(n:Int):=by omega
    obtain ⟨y,hy⟩:∃ y,s[k]?=some y:=⟨_,List.getElem?_eq_getElem (by have:=HN.out;omega)⟩
    have HY:Aside (s[k]?=some y):=hy
    have hys:=List.mem_of_getElem? hy
    have hyF:=HFS.out y hys
    have hy80:=HP8.out y hys
    have hbw:=ST.out.below HU.out hbase
    rcases HLs.out wr hbw with h0 | ⟨bb,off,rfl,hbb,hc⟩
    ·rw [h0] at hy;simp at hy
    obtain ⟨c0,c1',c2,c3⟩:=Lies.cells hc hbb (Below.refl _ _) hy
    have hne:bb≠wr.heap.size:=by omega
    have hwi:=fun X=>qH y.path frm X hyF.1 (by unfold maxLen;omega)
    have HFT:=tu (f:=inM frm.data.toList) hy
    have HST:Aside ((s.take (k+1)).filter (inM frm.data.toList)=(s.take k).filter (inM frm.data.toList)++(if inM frm.data.toList y then [y] else [])):=HFT
    clear hc hy HFT
    cases hin:inM frm.data.toList y with
    | false =>
     have hw:inW frm.data.toList y.path.data.toList=false:=hin
     rw [hw] at hwi
     have HE:Aside ((s.take (k+1)).filter (inM frm.data.toList)=(s.take k).filter (inM frm.data.toList)):=by show _=_;rw [HST.out,hin];simp
     clear hw hin HST
     go_wp2_with (go_at_call 222;refine (hwi _).mono ?_;rintro rr wx ⟨rfl,hwx⟩;subst wx)
     go_roundg (n-(k+1))
     case measure=>omega
     case rel=>exact ⟨k+1,by omega,by omega,by go_num,by rw [HE.out];exact ST.out.kept ((Grown.refl wr).alloc _).below⟩
    | true =>
     have hw:inW frm.data.toList y.path.data.toList=true:=hin
     rw [hw] at hwi
     have hsz:=uO hin
     have hszz:(frm.size:Int)≤(y.path.size:Int):=by omega
     have hmy:=HMV.out y hys hin
     have HE:Aside (bZ frm to o2 ((s.take (k+1)).filter (inM frm.data.toList))=aC (bZ frm to o2 ((s.take k).filter (inM frm.data.toList))) (mvE frm to y)):=by show _=_;rw [HST.out,hin,if_pos rfl,vM]
     have hbk:=HBD.out k
     have hhv:∀ X g1 c1,UpAt X base U (bZ frm to o2 ((s.take k).filter (inM frm.data.toList))) g1 c1 (.slice pB B.length cB)→Calls Tryz.prog 176 #[.pointer (some ⟨U,0,none⟩),.agg #[.string (to++y.path.extract frm.size y.path.size),.int .i64 y.kind,.string y.text,.bool y.opq]] X (bQ (aC (bZ frm to o2 ((s.take k).filter (inM frm.data.toList))) (mvE frm to y)) base U g1 (.slice pB B.length cB) X):=fun X g1 c1 hX =>
      lY (mvE frm to y).p.length _ (mvE frm to y) base U g1 c1 _ X (Nat.le_refl _) hX hbk.1 hbk.2.1 hmy.1 hyF.2 hmy.2 (by have h1:(mvE frm to y).p.length=(mvE frm to y).path.size:=szl _;have:=hbk.2.2;omega)
     generalize hnew:to++y.path.extract frm.size y.path.size=new at hhv
     clear hw hin HST hbk
     go_wp2_with (first
      | (go_at_call 222;refine (hwi _).mono ?_;rintro rr wx ⟨rfl,hwx⟩;subst wx)
      | (go_at_call 176;obtain ⟨⟨g1,c1,hU1,hg1⟩,hM1⟩:=ST.out.kept ((Grown.refl wr).alloc (.cells #[.string new,.int .i64 y.kind,.string y.text,.bool y.opq] 53)).below;refine (hhv _ g1 c1 hU1).mono ?_;clear hhv;rintro r w5 ⟨rfl,hH⟩;have HS5:Aside (UpSt W base U g _ (.slice pB B.length cB) w5):=UpSt.next hM1 hg1 hH;clear hH hM1 hU1 hg1))
     go_roundg (n-(k+1))
     case measure=>omega
     case rel=>exact ⟨k+1,by omega,by omega,by go_num,by rw [HE.out];exact HS5.out⟩
   ·obtain rfl:k=n:=by omega
    have hltz:¬ (k:Int)<(k:Int):=by omega
    go_wp2
    refine bodyPost_ret (results_none rfl _ _ _) rfl ?_
    have:=ST.out
    rw [List.take_of_length_le (by have:=HN.out;omega),← HMU.out] at this
    exact ⟨rfl,this⟩
 | true =>
  have HC:Aside (dL own B s to=aL own B to):=by show _=_;rw [dL,HB0.out];rfl
  have hgo4:True:=trivial
  go_enter Tryz.func185,Tryz.ntmps185
  go_wp2_with (first
   | (go_at_call 27;refine hget.mono ?_;clear hget;rintro r w1 ⟨rfl,hN1⟩;have HS1:Aside (UpSt W base U g own (.slice pB B.length cB) (w1.alloc (.cells #[.string xp,.int .i64 xk,.string xt,.bool xo] 53))):=((UpSt.start HU.out).kept hN1).kept ((Grown.refl _).alloc _).below;clear hN1)
   | (go_at_call 180;clear hgo4;obtain ⟨⟨g1,c1,hU1,hg1⟩,hM1⟩:=HS1.out;refine (hdrop own to _ g1 c1 hU1 (HS1.out.below HU.out hbase) HOW.out.1 HOW.out.2.1 (by have:=HOW.out.2.2;omega) ht80 htne).mono ?_;rintro r w2 ⟨rfl,hH⟩;have HSM:Aside (UpSt W base U g (dL own B s to) (.slice pB B.length cB) w2):=by { have:=UpSt.next hM1 hg1 hH;rw [← HC.out] at this;exact this };clear hH hM1 hU1 hg1 HS1;have hgo5:True:=trivial)
   | (go_at_call 180;clear hgo5;obtain ⟨⟨g1,c1,hU1,hg1⟩,hM1⟩:=HSM.out;refine (hdrop (dL own B s to) frm _ g1 c1 hU1 (HSM.out.below HU.out hbase) HCT.out.1 HCT.out.2.1 (by have:=HCT.out.2.2;omega) hf80 hfne).mono ?_;rintro r w3 ⟨rfl,hH⟩;have HS2:Aside (UpSt W base U g o2 (.slice pB B.length cB) w3):=by { have:=UpSt.next hM1 hg1 hH;rw [← HDF.out] at this;exact this };clear hH hM1 hU1 hg1 HSM))
  go_loopg [27] n (fun gg s27 wr=>∃ k:Nat,k≤n∧n-k≤gg∧s27=.int .i64 k∧Aside (UpSt W base U g (bZ frm to o2 ((s.take k).filter (inM frm.data.toList))) (.slice pB B.length cB) wr))
  case atStart=>exact ⟨0,Nat.zero_le _,by omega,rfl,HS2.out⟩
  case round =>
   obtain ⟨k,hk,hgg,rfl,ST⟩:=hrel
   by_cases hlt:k<n
   ·have hltz:(k:Int)<(n:Int):=by omega
    obtain ⟨y,hy⟩:∃ y,s[k]?=some y:=⟨_,List.getElem?_eq_getElem (by have:=HN.out;omega)⟩
    have HY:Aside (s[k]?=some y):=hy
    have hys:=List.mem_of_getElem? hy
    have hyF:=HFS.out y hys
    have hy80:=HP8.out y hys
    have hbw:=ST.out.below HU.out hbase
    rcases HLs.out wr hbw with h0 | ⟨bb,off,rfl,hbb,hc⟩
    ·rw [h0] at hy;simp at hy
    obtain ⟨c0,c1',c2,c3⟩:=Lies.cells hc hbb (Below.refl _ _) hy
    have hne:bb≠wr.heap.size:=by omega
    have hwi:=fun X=>qH y.path frm X hyF.1 (by unfold maxLen;omega)
    have HFT:=tu (f:=inM frm.data.toList) hy
    have HST:Aside ((s.take (k+1)).filter (inM frm.data.toList)=(s.take k).filter (inM frm.data.toList)++(if inM frm.data.toList y then [y] else [])):=HFT
    clear hc hy HFT
    cases hin:inM frm.data.toList y with
    | false =>
     have hw:inW frm.data.toList y.path.data.toList=false:=hin
     rw [hw] at hwi
     have HE:Aside ((s.take (k+1)).filter (inM frm.data.toList)=(s.take k).filter (inM frm.data.toList)):=by show _=_;rw [HST.out,hin];simp
     clear hw hin HST
     go_wp2_with (go_at_call 222;refine (hwi _).mono ?_;rintro rr wx ⟨rfl,hwx⟩;subst wx)
     go_roundg (n-(k+1))
     case measure=>omega
     case rel=>exact ⟨k+1,by omega,by omega,by go_num,by rw [HE.out];exact ST.out.kept ((Grown.refl wr).alloc _).below⟩
    | true =>
     have hw:inW frm.data.toList y.path.data.toList=true:=hin
     rw [hw] at hwi
     have hsz:=uO hin
     have hszz:(frm.size:Int)≤(y.path.size:Int):=by omega
     have hmy:=HMV.out y hys hin
     have HE:Aside (bZ frm to o2 ((s.take (k+1)).filter (inM frm.data.toList))=aC (bZ frm to o2 ((s.take k).filter (inM frm.data.toList))) (mvE frm to y)):=by show _=_;rw [HST.out,hin,if_pos rfl,vM]
     have hbk:=HBD.out k
     have hhv:∀ X g1 c1,UpAt X base U (bZ frm to o2 ((s.take k).filter (inM frm.data.toList))) g1 c1 (.slice pB B.length cB)→Calls Tryz.prog 176 #[.pointer (some ⟨U,0,none⟩),.agg #[.string (to++y.path.extract frm.size y.path.size),.int .i64 y.kind,.string y.text,.bool y.opq]] X (bQ (aC (bZ frm to o2 ((s.take k).filter (inM frm.data.toList))) (mvE frm to y)) base U g1 (.slice pB B.length cB) X):=fun X g1 c1 hX =>
      lY (mvE frm to y).p.length _ (mvE frm to y) base U g1 c1 _ X (Nat.le_refl _) hX hbk.1 hbk.2.1 hmy.1 hyF.2 hmy.2 (by have h1:(mvE frm to y).p.length=(mvE frm to y).path.size:=szl _;have:=hbk.2.2;omega)
     generalize hnew:to++y.path.extract frm.size y.path.size=new at hhv
     clear hw hin HST hbk
     go_wp2_with (first
      | (go_at_call 222;refine (hwi _).mono ?_;rintro rr wx ⟨rfl,hwx⟩;subst wx)
      | (go_at_call 176;obtain ⟨⟨g1,c1,hU1,hg1⟩,hM1⟩:=ST.out.kept ((Grown.refl wr).alloc (.cells #[.string new,.int .i64 y.kind,.string y.text,.bool y.opq] 53)).below;refine (hhv _ g1 c1 hU1).mono ?_;clear hhv;rintro r w5 ⟨rfl,hH⟩;have HS5:Aside (UpSt W base U g _ (.slice pB B.length cB) w5):=UpSt.next hM1 hg1 hH;clear hH hM1 hU1 hg1))
     go_roundg (n-(k+1))
     case measure=>omega
     case rel=>exact ⟨k+1,by omega,by omega,by go_num,by rw [HE.out];exact HS5.out⟩
   ·obtain rfl:k=n:=by omega
    have hltz:¬ (k:Int)<(k:Int):=by omega
    go_wp2
    refine bodyPost_ret (results_none rfl _ _ _) rfl ?_
    have:=ST.out
    rw [List.take_of_length_le (by have:=HN.out;omega),← HMU.out] at this
    exact ⟨rfl,this⟩
end Go.Proofs.YthfeoiffoeagkaaGreatDoor
namespace Go.Proofs.YthfeoiffoeagkaaGreatDoor
open Go.RowKit PM Go.Sort
set_option linter.unusedVariables false
structure UnOK (w:World) (y:Lay) (lo:List Lay) (pl:Option Addr) (cl:Nat):Prop where
 up:fQ w y
 upn:y.ad=none→y.cap=0
 lies:dw w pl lo
 each:∀ x∈lo,fQ w x∧(x.ad=none→x.cap=0)
 nil:pl=none→cl=0
 cap:lo.length≤cl
theorem UnOK.kept {w W:World} {y:Lay} {lo:List Lay} {pl:Option Addr} {cl:Nat} (h:UnOK w y lo pl cl) (hB:Below w.heap.size w W):UnOK W y lo pl cl :=
 ⟨h.up.kept hB,h.upn,h.lies.kept hB,fun x hx=>⟨(h.each x hx).1.kept hB,(h.each x hx).2⟩,h.nil,h.cap⟩
theorem UnOK.all {w:World} {y:Lay} {lo:List Lay} {pl:Option Addr} {cl:Nat} (h:UnOK w y lo pl cl):∀ x∈y::lo,fQ w x:=fun x hx=>by
 rcases List.mem_cons.1 hx with rfl | hx
 ·exact h.up
 ·exact (h.each x hx).1
def jF (base:Nat) (y:Lay) (lo:List Lay) (pl:Option Addr):Prop:=(∀ b off s,y.ad=some ⟨b,off,s⟩→base≤b)∧(∀ b off s,pl=some ⟨b,off,s⟩→base≤b)∧∀ x∈lo,∀ b off s,x.ad=some ⟨b,off,s⟩→base≤b
def eO (er:Int) (up:List Ent) (lows:List (List Ent)) (w:World) (r:Ending) (w':World):Prop :=
 ∃ (y:Lay) (lo:List Lay) (pl:Option Addr) (cl:Nat),r=.returned (.tuple #[.agg #[.slice y.ad y.es.length y.cap,.slice pl lo.length cl],.int .i64 er])∧y.es=up∧lo.map (·.es)=lows∧UnOK w' y lo pl cl∧Below w.heap.size w w'∧jF w.heap.size y lo pl
theorem eO.none {er:Int} {w w':World} (hB:Below w.heap.size w w'):eO er [] [] w (.returned (.tuple #[.agg #[.slice .none 0 0,.slice .none 0 0],.int .i64 er])) w' :=
 ⟨⟨.none,0,[]⟩,[],.none,0,rfl,rfl,rfl,⟨⟨Lies.nil _ _,fun e he=>by simp at he,Nat.le_refl _,by decide⟩,fun _=>rfl,.inl rfl,fun x hx=>by simp at hx,fun _=>rfl,Nat.le_refl _⟩,hB,⟨nofun,nofun,fun x hx=>by simp at hx⟩⟩
theorem aX.vB {w:World} {base:Nat} {v:Value} {ls:List Lay} (h:aX w base v ls):∃ p c,v=.slice p ls.length c∧dw w p ls∧ls.length≤c∧(p=none→c=0)∧∀ b off s,p=some ⟨b,off,s⟩→base≤b:=by
 obtain ⟨p,c,hv,hL⟩:=h.form
 refine ⟨p,c,hv,hL,?_⟩
 obtain ⟨h1,⟨h2,h3⟩ | ⟨g,cap,cur,hv',hg,hh,hnc,hm,hs,ht⟩⟩:=h
 ·rw [h2] at hv
  injection hv with e1 e2 e3
  exact ⟨by omega,fun _=>e3.symm,(fun b off s h=>by rw [h] at e1;cases e1)⟩
 ·rw [hv'] at hv
  injection hv with e1 e2 e3
  exact ⟨by omega,(fun hp=>by rw [hp] at e1;cases e1),(fun b off s h=>by rw [h] at e1;cases e1;exact hg)⟩
abbrev AskC (w:World) (ga:Nat) (la:Array Value) (s:List Ent) (ae:Int):Prop:=∀ X p c,Below w.heap.size w X→Lies X p s→s.length≤c→(p=none→c=0)→Calls Tryz.prog ga (#[.slice p s.length c]++la) X fun r X'=>(∃ v,r=.returned (.tuple #[v,.int .i64 ae]))∧Below X.heap.size X X'
abbrev ChgC (w:World) (gc:Nat) (lc:Array Value) (up B s own':List Ent):Prop:=∀ X base U g c pB cB p cs,Below w.heap.size w X→UpAt X base U up g c (.slice pB B.length cB)→w.heap.size≤base→base≤X.heap.size→(∀ Y,Below base X Y→Lies Y pB B)→(∀ Y,Below base X Y→Lies Y p s) →
 Calls Tryz.prog gc (#[.pointer (some ⟨U,0,none⟩),.slice p s.length cs]++lc) X (bQ own' base U g (.slice pB B.length cB) X)
abbrev Enters (gf:Nat):Prop:=∀ args w,(callFunc gf args).run Tryz.prog w=.ok (.enter gf args) w
set_option maxHeartbeats 1000000 in
set_option maxRecDepth 100000 in
theorem BU (w:World) (a:Option Addr) (k c:Nat) (pl:Option Addr) (n cl:Nat) (er ea:Int) (sl:List Ent) (hmd:MdC w a k c pl n cl er ea sl) (he:¬ er=0) (ga gc:Nat) (la lc:Array Value) :
  Calls Tryz.prog 174 #[.agg #[.slice a k c,.slice pl n cl],.func (.func ga) #[] la,.func (.func gc) #[] lc] w (eO er [] [] w):=by
 have HB2:Aside (Below (w.heap.size+2) ((w.alloc (.cells #[.slice a k c,.slice pl n cl] 26)).alloc (.cells #[.slice none 0 0,.slice none 0 0] 26)) ((w.alloc (.cells #[.slice a k c,.slice pl n cl] 26)).alloc (.cells #[.slice none 0 0,.slice none 0 0] 26))):=Below.refl _ _
 go_enter Tryz.func174,Tryz.ntmps174
 go_wp2_with (go_at_call 48;refine (hmd _ (gG HB2.out)).mono ?_;clear hmd;rintro e w3 ⟨p3,c3,rfl,hL3,hc3,hn3,hN3,hw3⟩;have HB3:Aside (Below (w.heap.size+2) ((w.alloc (.cells #[.slice a k c,.slice pl n cl] 26)).alloc (.cells #[.slice none 0 0,.slice none 0 0] 26)) w3):=up2 HB2.out hN3;obtain ⟨⟨r0,r1⟩,⟨g0,g1⟩⟩:=res2 HB3.out;have hlt:=block_lt_of_cell r0;simp only at hlt;have hne:w.heap.size+1≠w3.heap.size:=(by omega);clear hL3 hc3 hn3 hN3 hw3)
 go_region
 go_wp2
 obtain ⟨s0,s1⟩:=Fx (.slice none 0 0) (.slice none 0 0) r0 r1 (.cells #[.int .i64 er,.int .i64 ea] 46)
 refine bodyPost_ret (v:=.tuple #[.agg #[.slice none 0 0,.slice none 0 0],.int .i64 er]) (by simp [results,Tryz.results174,go_sem,s0,s1]) rfl ?_
 have h:=lG HB3.out (.slice none 0 0) (.slice none 0 0)
 exact eO.none ((h.alloc h.size _).drew)
set_option maxHeartbeats 2000000 in
set_option maxRecDepth 100000 in
theorem BX (y:Lay) (ls:List Lay) (m:Int) (pl:Option Addr) (cl:Nat) (w:World) (hUn:UnOK w y ls pl cl) (ea:Int) (sl B:List Ent) (hB:B=(au (ls.map (·.es))).2) (hsl:Right false sl) (hy80:y.es.length≤80) (h4:ls.length≤4) (hz:(au (ls.map (·.es))).1=0) (hmd:MdC w y.ad y.es.length y.cap pl ls.length cl 0 ea sl)
  (hm:w.cell? ⟨0,0,none⟩=some (.int .i64 m)) (ga gc:Nat) (la lc:Array Value) (ega:Enters ga) (egc:Enters gc) (ae:Int) (hask:AskC w ga la sl ae) (hae:¬ ae=0) :
  Calls Tryz.prog 174 #[.agg #[.slice y.ad y.es.length y.cap,.slice pl ls.length cl],.func (.func ga) #[] la,.func (.func gc) #[] lc] w (eO ae [] [] w):=by
 have hup:∀ W,Below w.heap.size w W→Calls Tryz.prog 215 #[.agg #[.slice y.ad y.es.length y.cap,.slice pl ls.length cl]] W (pX y.es B W):=fun W hW=>by
  have h:=hUn.kept hW
  rw [hB]
  exact oQ y ls m pl cl W h.up h.upn hy80 h.lies (fun x hx=>(h.each x hx).1) h4 hz (held hW hm)
 have HUN:Aside (UnOK w y ls pl cl):=hUn
 obtain ⟨sn,hsn⟩:∃ sn,sn=sl.length:=⟨_,rfl⟩
 have HSN:Aside (sn=sl.length):=hsn
 obtain ⟨k,hk⟩:∃ k,k=y.es.length:=⟨_,rfl⟩
 have HK:Aside (k=y.es.length):=hk
 obtain ⟨n,hn⟩:∃ n,n=ls.length:=⟨_,rfl⟩
 have HN:Aside (n=ls.length):=hn
 rw [← hk,← hn] at hmd hup ⊢
 have HB2:Aside (Below (w.heap.size+2) ((w.alloc (.cells #[.slice y.ad k y.cap,.slice pl n cl] 26)).alloc (.cells #[.slice none 0 0,.slice none 0 0] 26)) ((w.alloc (.cells #[.slice y.ad k y.cap,.slice pl n cl] 26)).alloc (.cells #[.slice none 0 0,.slice none 0 0] 26))):=Below.refl _ _
 have HR80:Aside (sl.length≤80):=hsl.len
 simp only [AskC] at hask
 rw [← hsn] at hask
 clear hsn hk hn hUn hsl hy80 hB hz hm
 clear hup
 go_enter Tryz.func174,Tryz.ntmps174
 go_wp2_with (first
  | (go_at_call 48;refine (hmd _ (gG HB2.out)).mono ?_;clear hmd;rintro e w3 ⟨p3,c3,rfl,hL3,hc3,hn3,hN3,hw3⟩;have HB3:Aside (Below (w.heap.size+2) ((w.alloc (.cells #[.slice y.ad k y.cap,.slice pl n cl] 26)).alloc (.cells #[.slice none 0 0,.slice none 0 0] 26)) (w3.alloc (.cells #[.int .i64 0,.int .i64 ea] 46))):=up2 (up2 HB2.out hN3) ((Grown.refl _).alloc _).below;have HL3:Aside (Lies (w3.alloc (.cells #[.int .i64 0,.int .i64 ea] 46)) p3 sl):=hL3.grown ((Grown.refl _).alloc _);rw [← HSN.out] at hc3 ⊢;clear hL3 hN3 hw3)
  | (go_at_fn ga;refine (hask _ p3 c3 (gG HB3.out) HL3.out hc3 hn3).mono ?_;clear hask;rintro e w5 ⟨⟨v5,rfl⟩,hN5⟩;have HB5:Aside (Below (w.heap.size+2) ((w.alloc (.cells #[.slice y.ad k y.cap,.slice pl n cl] 26)).alloc (.cells #[.slice none 0 0,.slice none 0 0] 26)) w5):=up2 HB3.out hN5;have HL5:Aside (Lies w5 p3 sl):=HL3.out.kept hN5;obtain ⟨⟨u0,u1⟩,_⟩:=box2 HB5.out;obtain ⟨⟨r0,r1⟩,⟨f0,f1⟩⟩:=res2 HB5.out;clear hN5))
 refine bodyPost_ret (v:=.tuple #[.agg #[.slice none 0 0,.slice none 0 0],.int .i64 ae]) (by simp [results,Tryz.results174,go_sem,r0,r1]) rfl ?_
 exact eO.none (lG HB5.out _ _)
set_option maxHeartbeats 2000000 in
set_option maxRecDepth 100000 in
theorem BZ (y:Lay) (ls:List Lay) (m:Int) (pl:Option Addr) (cl:Nat) (w:World) (hUn:UnOK w y ls pl cl) (ea:Int) (sl B:List Ent) (hB:B=(au (ls.map (·.es))).2) (hsl:Right false sl) (hy80:y.es.length≤80) (h4:ls.length≤4) (hz:(au (ls.map (·.es))).1=0) (hmd:MdC w y.ad y.es.length y.cap pl ls.length cl 0 ea sl)
  (hm:w.cell? ⟨0,0,none⟩=some (.int .i64 m)) (ga gc:Nat) (la lc:Array Value) (ega:Enters ga) (egc:Enters gc) (ae:Int) (hask:AskC w ga la sl ae) (hae:ae=0) (own':List Ent) (hchg:ChgC w gc lc y.es B sl own') (h80:80<own'.length) :
  Calls Tryz.prog 174 #[.agg #[.slice y.ad y.es.length y.cap,.slice pl ls.length cl],.func (.func ga) #[] la,.func (.func gc) #[] lc] w (eO 5 [] [] w):=by
 have hup:∀ W,Below w.heap.size w W→Calls Tryz.prog 215 #[.agg #[.slice y.ad y.es.length y.cap,.slice pl ls.length cl]] W (pX y.es B W):=fun W hW=>by
  have h:=hUn.kept hW
  rw [hB]
  exact oQ y ls m pl cl W h.up h.upn hy80 h.lies (fun x hx=>(h.each x hx).1) h4 hz (held hW hm)
 have HUN:Aside (UnOK w y ls pl cl):=hUn
 obtain ⟨sn,hsn⟩:∃ sn,sn=sl.length:=⟨_,rfl⟩
 have HSN:Aside (sn=sl.length):=hsn
 obtain ⟨k,hk⟩:∃ k,k=y.es.length:=⟨_,rfl⟩
 have HK:Aside (k=y.es.length):=hk
 obtain ⟨n,hn⟩:∃ n,n=ls.length:=⟨_,rfl⟩
 have HN:Aside (n=ls.length):=hn
 rw [← hk,← hn] at hmd hup ⊢
 have HB2:Aside (Below (w.heap.size+2) ((w.alloc (.cells #[.slice y.ad k y.cap,.slice pl n cl] 26)).alloc (.cells #[.slice none 0 0,.slice none 0 0] 26)) ((w.alloc (.cells #[.slice y.ad k y.cap,.slice pl n cl] 26)).alloc (.cells #[.slice none 0 0,.slice none 0 0] 26))):=Below.refl _ _
 have HR80:Aside (sl.length≤80):=hsl.len
 simp only [AskC] at hask
 rw [← hsn] at hask
 clear hsn hk hn hUn hsl hy80 hB hz hm
 subst hae
 obtain ⟨on,hon⟩:∃ on,on=own'.length:=⟨_,rfl⟩
 have HON:Aside (on=own'.length):=hon
 rw [← hon] at h80
 clear hon
 simp only [ChgC] at hchg
 rw [← HSN.out] at hchg
 have h80z:(80:Int)<(on:Int):=by omega
 go_enter Tryz.func174,Tryz.ntmps174
 go_wp2_with (first
  | (go_at_call 48;refine (hmd _ (gG HB2.out)).mono ?_;clear hmd;rintro e w3 ⟨p3,c3,rfl,hL3,hc3,hn3,hN3,hw3⟩;have HB3:Aside (Below (w.heap.size+2) ((w.alloc (.cells #[.slice y.ad k y.cap,.slice pl n cl] 26)).alloc (.cells #[.slice none 0 0,.slice none 0 0] 26)) (w3.alloc (.cells #[.int .i64 0,.int .i64 ea] 46))):=up2 (up2 HB2.out hN3) ((Grown.refl _).alloc _).below;have HL3:Aside (Lies (w3.alloc (.cells #[.int .i64 0,.int .i64 ea] 46)) p3 sl):=hL3.grown ((Grown.refl _).alloc _);rw [← HSN.out] at hc3 ⊢;clear hL3 hN3 hw3)
  | (go_at_fn ga;refine (hask _ p3 c3 (gG HB3.out) HL3.out hc3 hn3).mono ?_;clear hask;rintro e w5 ⟨⟨v5,rfl⟩,hN5⟩;have HB5:Aside (Below (w.heap.size+2) ((w.alloc (.cells #[.slice y.ad k y.cap,.slice pl n cl] 26)).alloc (.cells #[.slice none 0 0,.slice none 0 0] 26)) w5):=up2 HB3.out hN5;have HL5:Aside (Lies w5 p3 sl):=HL3.out.kept hN5;obtain ⟨⟨u0,u1⟩,_⟩:=box2 HB5.out;obtain ⟨⟨r0,r1⟩,⟨f0,f1⟩⟩:=res2 HB5.out;clear hN5)
  | (go_at_call 215;refine (hup _ (gG HB5.out)).mono ?_;clear hup;rintro e w6 ⟨U,g,c,pB,cB,base,rfl,hU6,hb6,hb6',hLB6,hcB6,hN6⟩;have HU6:Aside _:=hU6;have HL6:Aside _:=hLB6;have HB6:Aside (Below (w.heap.size+2) ((w.alloc (.cells #[.slice y.ad k y.cap,.slice pl n cl] 26)).alloc (.cells #[.slice none 0 0,.slice none 0 0] 26)) w6):=up2 HB5.out hN6;have HS6:Aside (∀ Y,Below base w6 Y→Lies Y p3 sl):=(fun Y hY=>HL5.out.kept (hN6.trans (hY.mono hb6)));have hw6:=hN6.size;have hw5:=HB5.out.size;clear hN6 hU6 hLB6 u0 u1 r0 r1 f0 f1)
  | (go_at_fn gc;refine (hchg _ base U g c pB cB p3 c3 (gG HB6.out) HU6.out (by simp at hw5;omega) hb6' HL6.out HS6.out).mono ?_;clear hchg;rintro e w7 ⟨rfl,⟨g7,c7,hU7,hg7⟩,hM7⟩;have hB7:=hM7.below HU6.out.ub HU6.out.gb hb6';have HB7:Aside (Below (w.heap.size+2) ((w.alloc (.cells #[.slice y.ad k y.cap,.slice pl n cl] 26)).alloc (.cells #[.slice none 0 0,.slice none 0 0] 26)) w7):=HB6.out.trans (hB7.mono (by simp at hw5;omega));obtain ⟨⟨u0,u1⟩,_⟩:=box2 HB7.out;obtain ⟨⟨r0,r1⟩,⟨f0,f1⟩⟩:=res2 HB7.out;have k0:=hU7.c0;rw [← HON.out] at k0;have HU7:Aside _:=hU7;clear hM7 hU7 hB7))
 refine bodyPost_ret (v:=.tuple #[.agg #[.slice none 0 0,.slice none 0 0],.int .i64 5]) (by simp [results,Tryz.results174,go_sem,r0,r1]) rfl ?_
 exact eO.none (lG HB7.out _ _)
theorem pI {w3:World} {B:Nat} {x y:Value} (a b:Value) (r0:w3.cell? ⟨B,0,none⟩=some x) (r1:w3.cell? ⟨B,1,none⟩=some y) :
  ((w3.setCell ⟨B,0,none⟩ a).setCell ⟨B,1,none⟩ b).cell? ⟨B,0,none⟩=some a∧((w3.setCell ⟨B,0,none⟩ a).setCell ⟨B,1,none⟩ b).cell? ⟨B,1,none⟩=some b:=by
 constructor
 ·rw [World.cell?_setCell_other _ ⟨B,1,none⟩ ⟨B,0,none⟩ _ (fun h=>by cases h)]
  exact World.cell?_setCell_same' _ _ _ (by rw [r0];rfl)
 ·refine World.cell?_setCell_same' _ _ _ ?_
  rw [World.cell?_setCell_other _ ⟨B,0,none⟩ ⟨B,1,none⟩ _ (fun h=>by cases h),r1];rfl
theorem Dg {w W:World} {o:Obj} {cs:Array Value} {b c:Nat} {l:List Ent} (hO:Own W b c l) (h:Below (w.heap.size+2) ((w.alloc o).alloc (.cells cs 26)) W):b≠w.heap.size+1:=by
 intro e
 obtain ⟨cur,hc,_⟩:=hO
 have h1:=h.block (w.heap.size+1) (by omega)
 rw [← e,hc] at h1
 have h2:((w.alloc o).alloc (.cells cs 26)).heap[b]?=some (.cells cs 26):=by
  rw [e]
  have hs:(w.alloc o).heap.size=w.heap.size+1:=World.size_alloc w o
  show ((w.alloc o).heap.push _)[w.heap.size+1]?=_
  rw [← hs,Array.getElem?_push,if_pos rfl]
 rw [h2] at h1
 have:=Option.some.inj h1
 injection this with _ ht _
 exact absurd ht (by decide)
theorem aX.gQ {w:World} {base:Nat} {v:Value} {ls:List Lay} (h:aX w base v ls) (a:Addr) (x:Value) (ha:a.block<base):aX (w.setCell a x) base v ls:=by
 refine ⟨h.1,h.2.imp id ?_⟩
 rintro ⟨g,cap,cur,e,hg,hh,r⟩
 exact ⟨g,cap,cur,e,hg,(Below.heap_setCell _ _ _ _ (by omega)).trans hh,r⟩
theorem FR {w w8:World} {o:Obj} {cs:Array Value} {g7 c7 on ln:Nat} {own':List Ent} {p8:Option Addr} {c8 base:Nat} {lo ls:List Lay} (hB:Below (w.heap.size+2) ((w.alloc o).alloc (.cells cs 26)) w8) (hO:Own w8 g7 c7 own') (hg:w.heap.size+2≤g7) (hR:aX w8 base (.slice p8 ln c8) lo) (hb:w.heap.size+2≤base) (hm:lo.map (·.es)=ls.map (·.es)) (hL:∀ x∈lo,jo base w8 x) (hF:Fits own') (h80:own'.length≤80) (hl80:∀ x∈ls,x.es.length≤80) (hFl:∀ x∈ls,Fits x.es) (hon:on=own'.length) (hln:ln=lo.length) (va vb:Value) :
  eO 0 own' (ls.map (·.es)) w (.returned (.tuple #[.agg #[.slice (some ⟨g7,0,none⟩) on c7,.slice p8 ln c8],.int .i64 0])) ((w8.setCell ⟨w.heap.size+1,0,none⟩ va).setCell ⟨w.heap.size+1,1,none⟩ vb):=by
 have hR':=(hR.gQ ⟨w.heap.size+1,0,none⟩ va (by simp only;omega)).gQ ⟨w.heap.size+1,1,none⟩ vb (by simp only;omega)
 obtain ⟨p,c,hv,hT,hc,hn,hfr⟩:=hR'.vB
 injection hv with e1 e2 e3
 subst e1 e3
 have own2:∀ {b c:Nat} {l:List Ent},Own w8 b c l→Own ((w8.setCell ⟨w.heap.size+1,0,none⟩ va).setCell ⟨w.heap.size+1,1,none⟩ vb) b c l:=fun {b c l} h=>by
  have hne:=Dg h hB
  exact (h.kept (Below.heap_setCell _ _ _ _ (by simpa using hne))).kept (Below.heap_setCell _ _ _ _ (by simpa using hne))
 refine ⟨⟨some ⟨g7,0,none⟩,c7,own'⟩,lo,p8,c8,by rw [hon,hln],rfl,hm,⟨⟨(own2 hO).lies,hF,hO.len,by show own'.length<_;omega⟩,nofun,hT,fun x hx=>?_,hn,hc⟩,lG hB _ _,⟨(fun b off s h=>by cases h;omega),(fun b off s h=>by have:=hfr b off s h;omega),(fun x hx b off s h=>by obtain ⟨b',hb',_,hbb⟩:=hL x hx;rw [hb'] at h;cases h;omega)⟩⟩
 obtain ⟨b,hb',hO',hbb⟩:=hL x hx
 have hmem:x.es∈ls.map (·.es):=by rw [← hm];exact List.mem_map.2 ⟨x,hx,rfl⟩
 obtain ⟨z,hz,hze⟩:=List.mem_map.1 hmem
 exact jo.ok ⟨b,hb',own2 hO',hbb⟩ (by rw [← hze];exact hFl z hz) (by rw [← hze];exact hl80 z hz)
set_option maxHeartbeats 2000000 in
set_option maxRecDepth 100000 in
theorem Ca (y:Lay) (ls:List Lay) (m:Int) (pl:Option Addr) (cl:Nat) (w:World) (hUn:UnOK w y ls pl cl) (ea:Int) (sl B:List Ent) (hB:B=(au (ls.map (·.es))).2) (hsl:Right false sl) (hy80:y.es.length≤80) (h4:ls.length≤4) (hz:(au (ls.map (·.es))).1=0) (hmd:MdC w y.ad y.es.length y.cap pl ls.length cl 0 ea sl)
  (hm:w.cell? ⟨0,0,none⟩=some (.int .i64 m)) (ga gc:Nat) (la lc:Array Value) (ega:Enters ga) (egc:Enters gc) (ae:Int) (hask:AskC w ga la sl ae) (hae:ae=0) (own':List Ent) (hchg:ChgC w gc lc y.es B sl own') (hg':Fits own') (h80:own'.length≤80) (hl80:∀ x∈ls,x.es.length≤80) :
  Calls Tryz.prog 174 #[.agg #[.slice y.ad y.es.length y.cap,.slice pl ls.length cl],.func (.func ga) #[] la,.func (.func gc) #[] lc] w (eO 0 own' (ls.map (·.es)) w):=by
 have hcp:∀ W,Below w.heap.size w W→Calls Tryz.prog 57 #[.slice pl ls.length cl] W (pR (ls.map (·.es)) W):=fun W hW=>by
  have h:=hUn.kept hW
  exact vo ls pl cl W h.lies (fun x hx=>⟨(h.each x hx).1.lies,(h.each x hx).2,hl80 x hx⟩) h4
 have HL80:Aside (∀ x∈ls,x.es.length≤80):=hl80
 have hup:∀ W,Below w.heap.size w W→Calls Tryz.prog 215 #[.agg #[.slice y.ad y.es.length y.cap,.slice pl ls.length cl]] W (pX y.es B W):=fun W hW=>by
  have h:=hUn.kept hW
  rw [hB]
  exact oQ y ls m pl cl W h.up h.upn hy80 h.lies (fun x hx=>(h.each x hx).1) h4 hz (held hW hm)
 have HUN:Aside (UnOK w y ls pl cl):=hUn
 obtain ⟨sn,hsn⟩:∃ sn,sn=sl.length:=⟨_,rfl⟩
 have HSN:Aside (sn=sl.length):=hsn
 obtain ⟨k,hk⟩:∃ k,k=y.es.length:=⟨_,rfl⟩
 have HK:Aside (k=y.es.length):=hk
 obtain ⟨n,hn⟩:∃ n,n=ls.length:=⟨_,rfl⟩
 have HN:Aside (n=ls.length):=hn
 rw [← hk,← hn] at hmd hup ⊢
 rw [← hn] at hcp
 have HB2:Aside (Below (w.heap.size+2) ((w.alloc (.cells #[.slice y.ad k y.cap,.slice pl n cl] 26)).alloc (.cells #[.slice none 0 0,.slice none 0 0] 26)) ((w.alloc (.cells #[.slice y.ad k y.cap,.slice pl n cl] 26)).alloc (.cells #[.slice none 0 0,.slice none 0 0] 26))):=Below.refl _ _
 have HR80:Aside (sl.length≤80):=hsl.len
 simp only [AskC] at hask
 rw [← hsn] at hask
 clear hsn hk hn hUn hsl hy80 hB hz hm
 subst hae
 obtain ⟨on,hon⟩:∃ on,on=own'.length:=⟨_,rfl⟩
 have HON:Aside (on=own'.length):=hon
 rw [← hon] at h80
 clear hon
 simp only [ChgC] at hchg
 rw [← HSN.out] at hchg
 have h80z:¬ (80:Int)<(on:Int):=by omega
 go_enter Tryz.func174,Tryz.ntmps174
 go_wp2_with (first
  | (go_at_call 48;refine (hmd _ (gG HB2.out)).mono ?_;clear hmd;rintro e w3 ⟨p3,c3,rfl,hL3,hc3,hn3,hN3,hw3⟩;have HB3:Aside (Below (w.heap.size+2) ((w.alloc (.cells #[.slice y.ad k y.cap,.slice pl n cl] 26)).alloc (.cells #[.slice none 0 0,.slice none 0 0] 26)) (w3.alloc (.cells #[.int .i64 0,.int .i64 ea] 46))):=up2 (up2 HB2.out hN3) ((Grown.refl _).alloc _).below;have HL3:Aside (Lies (w3.alloc (.cells #[.int .i64 0,.int .i64 ea] 46)) p3 sl):=hL3.grown ((Grown.refl _).alloc _);rw [← HSN.out] at hc3 ⊢;clear hL3 hN3 hw3)
  | (go_at_fn ga;refine (hask _ p3 c3 (gG HB3.out) HL3.out hc3 hn3).mono ?_;clear hask;rintro e w5 ⟨⟨v5,rfl⟩,hN5⟩;have HB5:Aside (Below (w.heap.size+2) ((w.alloc (.cells #[.slice y.ad k y.cap,.slice pl n cl] 26)).alloc (.cells #[.slice none 0 0,.slice none 0 0] 26)) w5):=up2 HB3.out hN5;have HL5:Aside (Lies w5 p3 sl):=HL3.out.kept hN5;obtain ⟨⟨u0,u1⟩,_⟩:=box2 HB5.out;obtain ⟨⟨r0,r1⟩,⟨f0,f1⟩⟩:=res2 HB5.out;clear hN5)
  | (go_at_call 215;refine (hup _ (gG HB5.out)).mono ?_;clear hup;rintro e w6 ⟨U,g,c,pB,cB,base,rfl,hU6,hb6,hb6',hLB6,hcB6,hN6⟩;have HU6:Aside _:=hU6;have HL6:Aside _:=hLB6;have HB6:Aside (Below (w.heap.size+2) ((w.alloc (.cells #[.slice y.ad k y.cap,.slice pl n cl] 26)).alloc (.cells #[.slice none 0 0,.slice none 0 0] 26)) w6):=up2 HB5.out hN6;have HS6:Aside (∀ Y,Below base w6 Y→Lies Y p3 sl):=(fun Y hY=>HL5.out.kept (hN6.trans (hY.mono hb6)));have hw6:=hN6.size;have hw5:=HB5.out.size;clear hN6 hU6 hLB6 u0 u1 r0 r1 f0 f1)
  | (go_at_fn gc;refine (hchg _ base U g c pB cB p3 c3 (gG HB6.out) HU6.out (by simp at hw5;omega) hb6' HL6.out HS6.out).mono ?_;clear hchg;rintro e w7 ⟨rfl,⟨g7,c7,hU7,hg7⟩,hM7⟩;have hB7:=hM7.below HU6.out.ub HU6.out.gb hb6';have HB7:Aside (Below (w.heap.size+2) ((w.alloc (.cells #[.slice y.ad k y.cap,.slice pl n cl] 26)).alloc (.cells #[.slice none 0 0,.slice none 0 0] 26)) w7):=HB6.out.trans (hB7.mono (by simp at hw5;omega));obtain ⟨⟨u0,u1⟩,_⟩:=box2 HB7.out;obtain ⟨⟨r0,r1⟩,⟨f0,f1⟩⟩:=res2 HB7.out;have k0:=hU7.c0;rw [← HON.out] at k0;have HU7:Aside _:=hU7;clear hM7 hU7 hB7))
 have hUl7:=HU7.out.ult
 have hUr:w.heap.size+1≠U:=by have:=HU7.out.ub;simp at hw5;omega
 have hUr':U≠w.heap.size+1:=Ne.symm hUr
 go_region_held3 (fun w'=>w'.cell? ⟨U,0,none⟩=some (.slice (some ⟨g7,0,none⟩) on c7)∧w'.cell? ⟨w.heap.size,1,none⟩=some (.slice pl n cl)) (go_keep) (first
  | (go_at_call 57;refine (hcp _ (gG HB7.out).drew).mono ?_;clear hcp;rintro r w8 ⟨⟨v8,lo,rfl,hR8,hm8,hL8⟩,hN8⟩;have HB8:Aside (Below (w.heap.size+2) ((w.alloc (.cells #[.slice y.ad k y.cap,.slice pl n cl] 26)).alloc (.cells #[.slice none 0 0,.slice none 0 0] 26)) w8):=up2 HB7.out (((Below.refl _ _).drew).trans hN8);have q0:=(hN8.cell (p:=⟨U,0,none⟩) hUl7).trans k0;have HO8:Aside (Own w8 g7 c7 own'):=HU7.out.own.below (((Below.refl _ _).drew).trans hN8) HU7.out.own.lt;have HR8:Aside _:=hR8;have HM8:Aside _:=hm8;have HL8:Aside _:=hL8;obtain ⟨p8,c8,hv8,_⟩:=hR8.vB;subst hv8;obtain ⟨⟨q2,q1⟩,_⟩:=box2 HB8.out;obtain ⟨⟨r0,r1⟩,⟨f0,f1⟩⟩:=res2 HB8.out;clear hN8 hR8 hm8 hL8 u0 u1 k0))
 obtain ⟨ln,hln⟩:∃ ln,ln=lo.length:=⟨_,rfl⟩
 have HLN:Aside (ln=lo.length):=hln
 rw [← hln]
 go_wp2
 obtain ⟨s0,s1⟩:=pI (.slice (some ⟨g7,0,none⟩) on c7) (.slice p8 ln c8) r0 r1
 refine bodyPost_ret (v:=.tuple #[.agg #[.slice (some ⟨g7,0,none⟩) on c7,.slice p8 ln c8],.int .i64 0]) (by simp [results,Tryz.results174,go_sem,s0,s1]) rfl ?_
 have hr:aX w8 w7.drew.heap.size (.slice p8 ln c8) lo:=by rw [hln];exact HR8.out
 have hgb:=HU7.out.gb
 exact FR HB8.out HO8.out (by simp at hw5;omega) hr (by have:=HB7.out.size;simp at this;exact this) HM8.out HL8.out hg' (by rw [← HON.out];exact h80) HL80.out (fun x hx=>(HUN.out.each x hx).1.fits) HON.out HLN.out _ _
end Go.Proofs.YthfeoiffoeagkaaGreatDoor
namespace Go.Proofs.YthfeoiffoeagkaaGreatDoor
open Go.RowKit PM Go.Sort
set_option linter.unusedVariables false
namespace PM
def aF (we ae:Int) (n:Nat):Int:=if we=0 then (if ae=0 then (if 80<n then 5 else 0) else ae) else we
theorem jA {we ae:Int} {n:Nat}:aF we ae n=0↔we=0∧ae=0∧n≤80:=by
 unfold aF
 by_cases h1:we=0
 ·rw [if_pos h1]
  by_cases h2:ae=0
  ·rw [if_pos h2]
   by_cases h3:80<n
   ·rw [if_pos h3];exact ⟨fun h=>absurd h (by decide),fun h=>by omega⟩
   ·rw [if_neg h3];exact ⟨fun _=>⟨h1,h2,by omega⟩,fun _=>rfl⟩
  ·rw [if_neg h2];exact ⟨fun h=>absurd h h2,fun h=>absurd h.2.1 h2⟩
 ·rw [if_neg h1];exact ⟨fun h=>absurd h h1,fun h=>absurd h.1 h1⟩
end PM
theorem jy (y:Lay) (ls:List Lay) (m:Int) (pl:Option Addr) (cl:Nat) (w:World) (hUn:UnOK w y ls pl cl) (hm:w.cell? ⟨0,0,none⟩=some (.int .i64 m)) (ga gc:Nat) (la lc:Array Value) (ega:Enters ga) (egc:Enters gc) (ae:Int) (own':List Ent)
  (hask:(ay (y.es::ls.map (·.es))).1=0→AskC w ga la (aB (y.es::ls.map (·.es))) ae)
  (hchg:(ay (y.es::ls.map (·.es))).1=0→ae=0→ChgC w gc lc y.es (au (ls.map (·.es))).2 (aB (y.es::ls.map (·.es))) own'∧Fits own') :
  Calls Tryz.prog 174 #[.agg #[.slice y.ad y.es.length y.cap,.slice pl ls.length cl],.func (.func ga) #[] la,.func (.func gc) #[] lc] w
   (eO (aF (ay (y.es::ls.map (·.es))).1 ae own'.length) (if aF (ay (y.es::ls.map (·.es))).1 ae own'.length=0 then own' else []) (if aF (ay (y.es::ls.map (·.es))).1 ae own'.length=0 then ls.map (·.es) else []) w):=by
 have hmd:MdC w y.ad y.es.length y.cap pl ls.length cl (ay (y.es::ls.map (·.es))).1 ((ay (y.es::ls.map (·.es))).2:Nat) (aB (y.es::ls.map (·.es))):=fun W hB=>by
  have h:=hUn.kept hB
  exact vK y ls m pl cl W h.lies h.all h.nil (held hB hm)
 by_cases h1:(ay (y.es::ls.map (·.es))).1=0
 ·obtain ⟨hl5,hz,hr⟩:=eG.1 h1
  rw [List.length_cons,List.length_map] at hl5
  have hy80:y.es.length≤80:=(hr _ (by simp)).len
  have hzl:(au (ls.map (·.es))).1=0:=(jB hz).1
  have hsr:=aK (y.es::ls.map (·.es))
  have hl80:∀ x∈ls,x.es.length≤80:=fun x hx=>(hr x.es (by simp;exact .inr ⟨x,hx,rfl⟩)).len
  rw [h1] at hmd
  by_cases h2:ae=0
  ·obtain ⟨hc1,hc2⟩:=hchg h1 h2
   by_cases h3:80<own'.length
   ·have e:aF (ay (y.es::ls.map (·.es))).1 ae own'.length=5:=by rw [aF,if_pos h1,if_pos h2,if_pos h3]
    rw [e,if_neg (by decide),if_neg (by decide)]
    exact BZ y ls m pl cl w hUn _ _ _ rfl hsr hy80 (by omega) hzl hmd hm ga gc la lc ega egc ae (hask h1) h2 own' hc1 h3
   ·have e:aF (ay (y.es::ls.map (·.es))).1 ae own'.length=0:=by rw [aF,if_pos h1,if_pos h2,if_neg h3]
    rw [e,if_pos rfl,if_pos rfl]
    exact Ca y ls m pl cl w hUn _ _ _ rfl hsr hy80 (by omega) hzl hmd hm ga gc la lc ega egc ae (hask h1) h2 own' hc1 hc2 (by omega) hl80
  ·have e:aF (ay (y.es::ls.map (·.es))).1 ae own'.length=ae:=by rw [aF,if_pos h1,if_neg h2]
   rw [e,if_neg h2,if_neg h2]
   exact BX y ls m pl cl w hUn _ _ _ rfl hsr hy80 (by omega) hzl hmd hm ga gc la lc ega egc ae (hask h1) h2
 ·have e:aF (ay (y.es::ls.map (·.es))).1 ae own'.length=(ay (y.es::ls.map (·.es))).1:=by rw [aF,if_neg h1]
  rw [e,if_neg h1,if_neg h1]
  exact BU w y.ad y.es.length y.cap pl ls.length cl _ _ _ hmd h1 ga gc la lc
/-! what is asked -/
theorem GK (s:List Ent) (e:Ent) (m:Int) (E0:Nat) (p:Option Addr) (c:Nat) (X:World) (hL:Lies X p s) (hF:Fits s) (hn:s.length≤80) (hc:s.length≤c) (hnil:p=none→c=0) (he:e.path.size≤maxLen) (he62:e.path.size<4611686018427387904) (het:e.text.size≤maxLen)
  (h0:X.cell? ⟨E0,0,none⟩=some (.string e.path)) (h1:X.cell? ⟨E0,1,none⟩=some (.int .i64 e.kind)) (h2:X.cell? ⟨E0,2,none⟩=some (.string e.text)) (h3:X.cell? ⟨E0,3,none⟩=some (.bool e.opq)) (hm:X.cell? ⟨0,0,none⟩=some (.int .i64 m)) :
  Calls Tryz.prog 172 #[.slice p s.length c,.pointer (some ⟨E0,0,none⟩)] X fun r X'=>(∃ v,r=.returned (.tuple #[v,.int .i64 (aQ s e)]))∧Below X.heap.size X X':=by
 have hp:=IW s e m p c X hL hF (by omega) hc hnil he he62 het hm
 generalize s.length=n at hp hc hn ⊢
 generalize aQ s e=pe at hp ⊢
 generalize (if pe=0 then putL s e else [])=rl at hp
 go_enter Tryz.func172,Tryz.ntmps172
 go_wp2_with (go_at_call 173;refine hp.mono ?_;clear hp;rintro r w1 ⟨p1,c1,rfl,hL1,hc1,hn1,hN⟩)
 go_ret2
 exact ⟨⟨_,rfl⟩,hN⟩
theorem GU (s:List Ent) (q:ByteArray) (m:Int) (E0:Nat) (p:Option Addr) (c:Nat) (X:World) (hL:Lies X p s) (hF:Fits s) (hn:s.length≤80) (hc:s.length≤c) (hnil:p=none→c=0) (hq:q.size≤maxLen)
  (h0:X.cell? ⟨E0,0,none⟩=some (.string q)) (hm:X.cell? ⟨0,0,none⟩=some (.int .i64 m)) :
  Calls Tryz.prog 177 #[.slice p s.length c,.pointer (some ⟨E0,0,none⟩)] X fun r X'=>(∃ v,r=.returned (.tuple #[v,.int .i64 (bB s q.data.toList)]))∧Below X.heap.size X X':=by
 have hp:=Dk s q m p c X hL hF (by omega) hc hnil hq hm
 generalize s.length=n at hp hc hn ⊢
 generalize bB s q.data.toList=pe at hp ⊢
 generalize (if pe=0 then remL s q.data.toList else [])=rl at hp
 go_enter Tryz.func177,Tryz.ntmps177
 go_wp2_with (go_at_call 178;refine hp.mono ?_;clear hp;rintro r w1 ⟨p1,c1,rfl,hL1,hc1,hn1,hN⟩)
 go_ret2
 exact ⟨⟨_,rfl⟩,hN⟩
theorem EM (s:List Ent) (frm to:ByteArray) (m:Int) (E0 E1:Nat) (p:Option Addr) (c:Nat) (X:World) (hL:Lies X p s) (hF:Fits s) (hn:s.length≤80) (hc:s.length≤c) (hnil:p=none→c=0) (hf:frm.size≤maxLen) (ht:to.size≤maxLen)
  (h0:X.cell? ⟨E0,0,none⟩=some (.string frm)) (h1:X.cell? ⟨E1,0,none⟩=some (.string to)) (hm:X.cell? ⟨0,0,none⟩=some (.int .i64 m)) :
  Calls Tryz.prog 182 #[.slice p s.length c,.pointer (some ⟨E0,0,none⟩),.pointer (some ⟨E1,0,none⟩)] X fun r X'=>(∃ v,r=.returned (.tuple #[v,.int .i64 (bg s frm to)]))∧Below X.heap.size X X':=by
 have hp:=Gu s frm to m p c X hL hF (by omega) hc hnil hf ht hm
 have hp':Calls Tryz.prog 183 #[.slice p s.length c,.string frm,.string to] X fun r X'=>(∃ v,r=.returned (.tuple #[v,.int .i64 (bg s frm to)]))∧Below X.heap.size X X':=hp.mono (by
  rintro r X' ⟨l,⟨p1,c1,rfl,_,_,_,hN⟩,_⟩
  exact ⟨⟨_,rfl⟩,hN⟩)
 clear hp
 generalize s.length=n at hp' hc hn ⊢
 generalize bg s frm to=pe at hp' ⊢
 go_enter Tryz.func182,Tryz.ntmps182
 go_wp2_with (go_at_call 183;refine hp'.mono ?_;clear hp';rintro r w1 ⟨⟨v,rfl⟩,hN⟩)
 go_ret2
 exact ⟨⟨_,rfl⟩,hN⟩
/-! what is changed -/
theorem GL (own:List Ent) (e:Ent) (base U g c:Nat) (vb:Value) (E0:Nat) (p:Option Addr) (n cs:Nat) (X:World) (hU:UpAt X base U own g c vb) (hs:Sorted own) (hF:Fits own) (hl:own.length≤80) (he:e.path.size≤80) (ht:e.text.size≤maxLen) (hne:e.p≠[])
  (h0:X.cell? ⟨E0,0,none⟩=some (.string e.path)) (h1:X.cell? ⟨E0,1,none⟩=some (.int .i64 e.kind)) (h2:X.cell? ⟨E0,2,none⟩=some (.string e.text)) (h3:X.cell? ⟨E0,3,none⟩=some (.bool e.opq)) :
  Calls Tryz.prog 175 #[.pointer (some ⟨U,0,none⟩),.slice p n cs,.pointer (some ⟨E0,0,none⟩)] X (bQ (aC own e) base U g vb X):=by
 have hh:=lY e.p.length own e base U g c vb X (Nat.le_refl _) hU hs hF he ht hne (by have h1:e.p.length=e.path.size:=szl _;omega)
 clear hU
 go_enter Tryz.func175,Tryz.ntmps175
 go_wp2_with (go_at_call 176;refine hh.mono ?_;clear hh;rintro r w1 ⟨rfl,hH⟩;have HH:Aside _:=hH;clear hH)
 refine bodyPost_ret (results_none rfl _ _ _) rfl ?_
 exact ⟨rfl,HH.out⟩
theorem GV (own B:List Ent) (q:ByteArray) (base U g c:Nat) (pB:Option Addr) (cB:Nat) (E0:Nat) (p:Option Addr) (n cs:Nat) (X:World) (hU:UpAt X base U own g c (.slice pB B.length cB)) (hbase:base≤X.heap.size) (hLB:∀ Y,Below base X Y→Lies Y pB B) (hs:Sorted own) (hF:Fits own) (hl:own.length≤80) (hB:Right false B) (hq:q.size≤80) (hne:q.data.toList≠[])
  (h0:X.cell? ⟨E0,0,none⟩=some (.string q)) :
  Calls Tryz.prog 179 #[.pointer (some ⟨U,0,none⟩),.slice p n cs,.pointer (some ⟨E0,0,none⟩)] X (bQ (aL own B q) base U g (.slice pB B.length cB) X):=by
 have hh:=yN own B q base U g c pB cB X hU hbase hLB hs hF hB.sorted (gK hB) hB.len hq hne (by omega)
 clear hU hLB
 go_enter Tryz.func179,Tryz.ntmps179
 go_wp2_with (go_at_call 180;refine hh.mono ?_;clear hh;rintro r w1 ⟨rfl,hH⟩;have HH:Aside _:=hH;clear hH)
 refine bodyPost_ret (results_none rfl _ _ _) rfl ?_
 exact ⟨rfl,HH.out⟩
set_option maxHeartbeats 1000000 in
theorem EN (own B s:List Ent) (frm to:ByteArray) (base U g c:Nat) (pB:Option Addr) (cB:Nat) (E0 E1:Nat) (p:Option Addr) (cs:Nat) (X:World) (hU:UpAt X base U own g c (.slice pB B.length cB)) (hbase:base≤X.heap.size) (hLB:∀ Y,Below base X Y→Lies Y pB B) (hLs:∀ Y,Below base X Y→Lies Y p s) (hs:Sorted own) (hF:Fits own) (hl:own.length≤80) (hB:Right false B)
  (hm:bg s frm to=0)
  (h0:X.cell? ⟨E0,0,none⟩=some (.string frm)) (h1:X.cell? ⟨E1,0,none⟩=some (.string to)) :
  Calls Tryz.prog 184 #[.pointer (some ⟨U,0,none⟩),.slice p s.length cs,.pointer (some ⟨E0,0,none⟩),.pointer (some ⟨E1,0,none⟩)] X (bQ (if frm.data.toList=to.data.toList then own else fV own B s frm to) base U g (.slice pB B.length cB) X):=by
 by_cases hft:frm.data.toList=to.data.toList
 ·rw [if_pos hft]
  obtain ⟨e1,e2⟩:=jJ hft
  have HU:Aside _:=hU
  clear hU hLB hLs hft
  go_enter Tryz.func184,Tryz.ntmps184
  go_wp2
  refine bodyPost_ret (results_none rfl _ _ _) rfl ?_
  exact nP HU.out (Moved.refl _ _ _) (Below.refl _ _)
 ·rw [if_neg hft]
  have hok:=sO hm hft
  obtain ⟨e1,e2⟩:=ji hft
  obtain ⟨a,ha,hap⟩:=hok.src
  have hfc:clean frm.data.toList=true:=by rw [← hap];exact hok.right.clean ha
  have hh:=DF own B s frm to base U g c pB p cB cs X hU hbase hLB hLs hs hF hB.sorted (gK hB) hB.len hok.right.sorted (gK hok.right) hok.right.len (bL hfc) (bL hok.tocl) hok.fne hok.tne hl (fun e he=>bL (hok.right.clean he)) (fun e he hi=>by
   have hcl:=hok.cl e he (hok.neTo hi) hi
   exact ⟨bL hcl,bX hcl⟩)
  clear hU hLB hLs hft hok ha hap hfc
  generalize s.length=n at hh ⊢
  generalize fV own B s frm to=mu at hh ⊢
  go_enter Tryz.func184,Tryz.ntmps184
  go_wp2_with (go_at_call 185;refine hh.mono ?_;clear hh;rintro r w1 ⟨rfl,hH⟩;have HH:Aside _:=hH;clear hH)
  refine bodyPost_ret (results_none rfl _ _ _) rfl ?_
  exact ⟨rfl,HH.out⟩
end Go.Proofs.YthfeoiffoeagkaaGreatDoor
namespace Go.Proofs.YthfeoiffoeagkaaGreatDoor
open Go.RowKit PM Go.Sort
set_option linter.unusedVariables false
theorem dw.gQ {W:World} {p:Option Addr} {t:List Lay} (h:dw W p t) (a:Addr) (v:Value) (hne:∀ b off s,p=some ⟨b,off,s⟩→a.block≠b):dw (W.setCell a v) p t:=by
 rcases h with h | ⟨b,off,rfl,hb,hc⟩
 ·exact .inl h
 ·refine .inr ⟨b,off,rfl,by simpa using hb,fun j x hx=>?_⟩
  rw [World.cell?_setCell_far _ _ _ _ (hne b off none rfl)]
  exact hc j x hx
theorem UnOK.gQ {w:World} {y:Lay} {lo:List Lay} {pl:Option Addr} {cl base:Nat} (h:UnOK w y lo pl cl) (hN:jF base y lo pl) (a:Addr) (v:Value) (ha:a.block<base):UnOK (w.setCell a v) y lo pl cl :=
 ⟨⟨h.up.lies.gQ a v (fun b off s e=>by have:=hN.1 b off s e;omega),h.up.fits,h.up.cap,h.up.small⟩,h.upn,h.lies.gQ a v (fun b off s e=>by have:=hN.2.1 b off s e;omega),
  fun x hx=>⟨⟨(h.each x hx).1.lies.gQ a v (fun b off s e=>by have:=hN.2.2 x hx b off s e;omega),(h.each x hx).1.fits,(h.each x hx).1.cap,(h.each x hx).1.small⟩,(h.each x hx).2⟩,h.nil,h.cap⟩
theorem jF.mono {b b':Nat} {y:Lay} {lo:List Lay} {pl:Option Addr} (h:jF b y lo pl) (hb:b'≤b):jF b' y lo pl :=
 ⟨fun x o s e=>Nat.le_trans hb (h.1 x o s e),fun x o s e=>Nat.le_trans hb (h.2.1 x o s e),fun z hz x o s e=>Nat.le_trans hb (h.2.2 z hz x o s e)⟩
theorem wH {w W0 w4:World} {er:Int} {up:List Ent} {lows:List (List Ent)} {y:Lay} {lo:List Lay} {pl:Option Addr} {cl k n:Nat} (hW:Below w.heap.size w W0) (hB:Below (W0.heap.size+1) (W0.alloc (.cells #[.slice none 0 0,.slice none 0 0] 26)) w4) (h1:y.es=up) (h2:lo.map (·.es)=lows) (hk:k=y.es.length) (hn:n=lo.length) (hok:UnOK w4 y lo pl cl) (hnew:jF (W0.heap.size+1) y lo pl) (va vb:Value) :
  eO er up lows w (.returned (.tuple #[.agg #[.slice y.ad k y.cap,.slice pl n cl],.int .i64 er])) ((w4.setCell ⟨W0.heap.size,0,none⟩ va).setCell ⟨W0.heap.size,1,none⟩ vb):=by
 have hs:=hW.size
 refine ⟨y,lo,pl,cl,by rw [hk,hn],h1,h2,(hok.gQ hnew _ _ (by simp only;omega)).gQ hnew _ _ (by simp only;omega),?_,hnew.mono (by omega)⟩
 exact Below.onto hW (jl hB va vb)
theorem qP (W:World) (H:Nat) (hH:H=W.heap.size) (v:Value) (T:TypeId):(W.alloc (.cells #[v] T)).cell? ⟨H,0,none⟩=some v:=by subst hH;simp
set_option maxHeartbeats 2000000 in
set_option maxRecDepth 100000 in
theorem nT (y:Lay) (ls:List Lay) (m:Int) (pl:Option Addr) (cl:Nat) (e:Ent) (he:e.path.size≤maxLen) (he62:e.path.size<4611686018427387904) (het:e.text.size≤maxLen) (w:World) (hUn:UnOK w y ls pl cl) (hm:w.cell? ⟨0,0,none⟩=some (.int .i64 m)) :
  Calls Tryz.prog 126 #[.agg #[.slice y.ad y.es.length y.cap,.slice pl ls.length cl],.agg #[.string e.path, .int .i64 e.kind, .string e.text, .bool e.opq]] w
   (eO (aF (ay (y.es::ls.map (·.es))).1 (aQ (aB (y.es::ls.map (·.es))) e) (aC y.es e).length) (if aF (ay (y.es::ls.map (·.es))).1 (aQ (aB (y.es::ls.map (·.es))) e) (aC y.es e).length=0 then aC y.es e else []) (if aF (ay (y.es::ls.map (·.es))).1 (aQ (aB (y.es::ls.map (·.es))) e) (aC y.es e).length=0 then ls.map (·.es) else []) w):=by
 obtain ⟨W0,hW0⟩:∃ W0,((w.alloc (.cells #[.slice y.ad y.es.length y.cap,.slice pl ls.length cl] 26)).alloc (.cells #[.string e.path,.int .i64 e.kind,.string e.text,.bool e.opq] 53))=W0:=⟨_,rfl⟩
 have hBw:Below w.heap.size w W0:=by rw [← hW0];exact (((Below.refl _ _).alloc (Nat.le_refl _) _).alloc (by simp) _)
 have hs0:W0.heap.size=w.heap.size+2:=by rw [← hW0];simp
 have hE:∀ j v,(encE e)[j]?=some v→∀ X,Below (W0.alloc (.cells #[.slice none 0 0,.slice none 0 0] 26)).heap.size (W0.alloc (.cells #[.slice none 0 0,.slice none 0 0] 26)) X→X.cell? ⟨w.heap.size+1,j,none⟩=some v:=fun j v hv X hX=>by
  have h1:=jE (w.alloc (.cells #[.slice y.ad y.es.length y.cap,.slice pl ls.length cl] 26)) e (w.heap.size+1) (by simp) j v hv
  rw [Addr.add_lit,Nat.zero_add,hW0] at h1
  have hl:=block_lt_of_cell h1
  simp only at hl
  exact (hX.cell (p:=⟨w.heap.size+1,j,none⟩) (by simp;omega)).trans (Lib.cell?_alloc_some _ h1)
 have hB0:Below w.heap.size w (W0.alloc (.cells #[.slice none 0 0,.slice none 0 0] 26)):=hBw.alloc hBw.size _
 have hX0:Below W0.heap.size W0 (W0.alloc (.cells #[.slice none 0 0,.slice none 0 0] 26)):=(Below.refl _ _).alloc (Nat.le_refl _) _
 have hch:=jy y ls m pl cl (W0.alloc (.cells #[.slice none 0 0,.slice none 0 0] 26)) (hUn.kept hB0) (held hB0 hm) 172 175 #[.pointer (some ⟨w.heap.size+1,0,none⟩)] #[.pointer (some ⟨w.heap.size+1,0,none⟩)] (enters_of Tryz.func172 (by kernel_rfl) rfl) (enters_of Tryz.func175 (by kernel_rfl) rfl) (aQ (aB (y.es::ls.map (·.es))) e) (aC y.es e)
  (fun h X p c hB hL hc hn=>GK _ e m (w.heap.size+1) p c X hL (gK (aK _)) (aK _).len hc hn he he62 het (hE 0 _ rfl X hB) (hE 1 _ rfl X hB) (hE 2 _ rfl X hB) (hE 3 _ rfl X hB) (held (Below.onto hB0 hB) hm))
  (fun h ha=>by
    obtain ⟨_,_,hr⟩:=eG.1 h
    have hU:=hr y.es (by simp)
    have hw:=(sS ha).2.1
    have hcl:=bq hw
    exact ⟨fun X base U g c pB cB p cs hB hUp _ _ _ _=>GL y.es e base U g c _ (w.heap.size+1) p _ cs X hUp hU.sorted (jL hU.good) hU.len (bL hcl) het (bX hcl) (hE 0 _ rfl X hB) (hE 1 _ rfl X hB) (hE 2 _ rfl X hB) (hE 3 _ rfl X hB),qc (jL hU.good) (bL hcl) het⟩)
 generalize aF (ay (y.es::ls.map (·.es))).1 (aQ (aB (y.es::ls.map (·.es))) e) (aC y.es e).length=er at hch ⊢
 generalize (if er=0 then aC y.es e else [])=rl at hch ⊢
 generalize (if er=0 then ls.map (·.es) else [])=rls at hch ⊢
 have HBW:Aside (Below w.heap.size w W0):=hBw
 have hs1:W0.heap.size=w.heap.size+2:=hs0
 rw [← hW0] at hch
 obtain ⟨k,hk⟩:∃ k,k=y.es.length:=⟨_,rfl⟩
 obtain ⟨n,hn⟩:∃ n,n=ls.length:=⟨_,rfl⟩
 rw [← hk,← hn] at hch ⊢
 have HW0:Aside (((w.alloc (.cells #[.slice y.ad k y.cap,.slice pl n cl] 26)).alloc (.cells #[.string e.path,.int .i64 e.kind,.string e.text,.bool e.opq] 53))=W0):=by rw [hk,hn];exact hW0
 have hs2:((w.alloc (.cells #[.slice y.ad k y.cap,.slice pl n cl] 26)).alloc (.cells #[.string e.path,.int .i64 e.kind,.string e.text,.bool e.opq] 53)).heap.size=w.heap.size+2:=by simp
 clear hUn hm hB0 hX0 hBw hW0 hk hn hE
 go_enter Tryz.func126,Tryz.ntmps126
 go_wp2_with (go_at_call 174;refine hch.mono ?_;clear hch;rintro r w4 ⟨y',lo,pl',cl',rfl,h1,h2,hok,hN4,hnew⟩;rw [HW0.out] at hN4 hnew;have hs5:(W0.alloc (.cells #[.slice none 0 0,.slice none 0 0] 26)).heap.size=W0.heap.size+1:=World.size_alloc _ _;rw [hs5] at hN4 hnew;obtain ⟨⟨r0,r1⟩,⟨f0,f1⟩⟩:=new2 (Nat.lt_succ_self _) hN4;rw [hs1] at r0 r1 f0 f1;have HE:Aside (y'.es=rl∧lo.map (·.es)=rls∧UnOK w4 y' lo pl' cl'∧jF (W0.heap.size+1) y' lo pl'∧Below (W0.heap.size+1) (W0.alloc (.cells #[.slice none 0 0,.slice none 0 0] 26)) w4):=⟨h1,h2,hok,hnew,hN4⟩;clear h1 h2 hok hnew hN4 hs5;obtain ⟨k',hk'⟩:∃ k',k'=y'.es.length:=⟨_,rfl⟩;obtain ⟨n',hn'⟩:∃ n',n'=lo.length:=⟨_,rfl⟩;have HK:Aside (k'=y'.es.length∧n'=lo.length):=⟨hk',hn'⟩;rw [← hk',← hn'];clear hk' hn')
 obtain ⟨s0,s1⟩:=pI (.slice y'.ad k' y'.cap) (.slice pl' n' cl') r0 r1
 refine bodyPost_ret (v:=.tuple #[.agg #[.slice y'.ad k' y'.cap,.slice pl' n' cl'],.int .i64 er]) (by simp [results,Tryz.results126,go_sem,s0,s1]) rfl ?_
 have:=wH (er:=er) HBW.out HE.out.2.2.2.2 HE.out.1 HE.out.2.1 HK.out.1 HK.out.2 HE.out.2.2.1 HE.out.2.2.2.1 (.slice y'.ad k' y'.cap) (.slice pl' n' cl')
 rw [hs1] at this
 exact this
set_option maxHeartbeats 2000000 in
set_option maxRecDepth 100000 in
theorem jI (y:Lay) (ls:List Lay) (m:Int) (pl:Option Addr) (cl:Nat) (q:ByteArray) (hq:q.size≤maxLen) (w:World) (hUn:UnOK w y ls pl cl) (hm:w.cell? ⟨0,0,none⟩=some (.int .i64 m)) :
  Calls Tryz.prog 128 #[.agg #[.slice y.ad y.es.length y.cap,.slice pl ls.length cl],.string q] w
   (eO (aF (ay (y.es::ls.map (·.es))).1 (bB (aB (y.es::ls.map (·.es))) q.data.toList) (aL y.es (au (ls.map (·.es))).2 q).length) (if aF (ay (y.es::ls.map (·.es))).1 (bB (aB (y.es::ls.map (·.es))) q.data.toList) (aL y.es (au (ls.map (·.es))).2 q).length=0 then aL y.es (au (ls.map (·.es))).2 q else []) (if aF (ay (y.es::ls.map (·.es))).1 (bB (aB (y.es::ls.map (·.es))) q.data.toList) (aL y.es (au (ls.map (·.es))).2 q).length=0 then ls.map (·.es) else []) w):=by
 obtain ⟨W0,hW0⟩:∃ W0,((w.alloc (.cells #[.slice y.ad y.es.length y.cap,.slice pl ls.length cl] 26)).alloc (.cells #[.string q] 9))=W0:=⟨_,rfl⟩
 have hBw:Below w.heap.size w W0:=by rw [← hW0];exact (((Below.refl _ _).alloc (Nat.le_refl _) _).alloc (by simp) _)
 have hs0:W0.heap.size=w.heap.size+2:=by rw [← hW0];simp
 have hE:∀ X,Below (W0.alloc (.cells #[.slice none 0 0,.slice none 0 0] 26)).heap.size (W0.alloc (.cells #[.slice none 0 0,.slice none 0 0] 26)) X→X.cell? ⟨w.heap.size+1,0,none⟩=some (.string q):=fun X hX=>by
  have h1:W0.cell? ⟨w.heap.size+1,0,none⟩=some (.string q):=by rw [← hW0];simp
  exact (hX.cell (p:=⟨w.heap.size+1,0,none⟩) (by simp;omega)).trans (Lib.cell?_alloc_some _ h1)
 have hB0:Below w.heap.size w (W0.alloc (.cells #[.slice none 0 0,.slice none 0 0] 26)):=hBw.alloc hBw.size _
 have hX0:Below W0.heap.size W0 (W0.alloc (.cells #[.slice none 0 0,.slice none 0 0] 26)):=(Below.refl _ _).alloc (Nat.le_refl _) _
 have hch:=jy y ls m pl cl (W0.alloc (.cells #[.slice none 0 0,.slice none 0 0] 26)) (hUn.kept hB0) (held hB0 hm) 177 179 #[.pointer (some ⟨w.heap.size+1,0,none⟩)] #[.pointer (some ⟨w.heap.size+1,0,none⟩)] (enters_of Tryz.func177 (by kernel_rfl) rfl) (enters_of Tryz.func179 (by kernel_rfl) rfl) (bB (aB (y.es::ls.map (·.es))) q.data.toList) (aL y.es (au (ls.map (·.es))).2 q)
  (fun h X p c hB hL hc hn=>GU _ q m (w.heap.size+1) p c X hL (gK (aK _)) (aK _).len hc hn hq (hE X hB) (held (Below.onto hB0 hB) hm))
  (fun h ha=>by
    obtain ⟨_,hz,hr⟩:=eG.1 h
    have hU:=hr y.es (by simp)
    obtain ⟨hsr,⟨a,ha1,ha2⟩,_⟩:=oN ha
    have hcl:clean q.data.toList=true:=by rw [← ha2];exact hsr.clean ha1
    exact ⟨fun X base U g c pB cB p cs hB hUp _ hb2 hLB _=>GV y.es _ q base U g c pB cB (w.heap.size+1) p _ cs X hUp hb2 hLB hU.sorted (jL hU.good) hU.len (iU (jB hz).1) (bL hcl) (bX hcl) (hE X hB),rz (jL hU.good) (bL hcl)⟩)
 generalize aF (ay (y.es::ls.map (·.es))).1 (bB (aB (y.es::ls.map (·.es))) q.data.toList) (aL y.es (au (ls.map (·.es))).2 q).length=er at hch ⊢
 generalize (if er=0 then aL y.es (au (ls.map (·.es))).2 q else [])=rl at hch ⊢
 generalize (if er=0 then ls.map (·.es) else [])=rls at hch ⊢
 have HBW:Aside (Below w.heap.size w W0):=hBw
 have hs1:W0.heap.size=w.heap.size+2:=hs0
 rw [← hW0] at hch
 obtain ⟨k,hk⟩:∃ k,k=y.es.length:=⟨_,rfl⟩
 obtain ⟨n,hn⟩:∃ n,n=ls.length:=⟨_,rfl⟩
 rw [← hk,← hn] at hch ⊢
 have HW0:Aside (((w.alloc (.cells #[.slice y.ad k y.cap,.slice pl n cl] 26)).alloc (.cells #[.string q] 9))=W0):=by rw [hk,hn];exact hW0
 have hs2:((w.alloc (.cells #[.slice y.ad k y.cap,.slice pl n cl] 26)).alloc (.cells #[.string q] 9)).heap.size=w.heap.size+2:=by simp
 clear hUn hm hB0 hX0 hBw hW0 hk hn hE
 go_enter Tryz.func128,Tryz.ntmps128
 go_wp2_with (go_at_call 174;refine hch.mono ?_;clear hch;rintro r w4 ⟨y',lo,pl',cl',rfl,h1,h2,hok,hN4,hnew⟩;rw [HW0.out] at hN4 hnew;have hs5:(W0.alloc (.cells #[.slice none 0 0,.slice none 0 0] 26)).heap.size=W0.heap.size+1:=World.size_alloc _ _;rw [hs5] at hN4 hnew;obtain ⟨⟨r0,r1⟩,⟨f0,f1⟩⟩:=new2 (Nat.lt_succ_self _) hN4;rw [hs1] at r0 r1 f0 f1;have HE:Aside (y'.es=rl∧lo.map (·.es)=rls∧UnOK w4 y' lo pl' cl'∧jF (W0.heap.size+1) y' lo pl'∧Below (W0.heap.size+1) (W0.alloc (.cells #[.slice none 0 0,.slice none 0 0] 26)) w4):=⟨h1,h2,hok,hnew,hN4⟩;clear h1 h2 hok hnew hN4 hs5;obtain ⟨k',hk'⟩:∃ k',k'=y'.es.length:=⟨_,rfl⟩;obtain ⟨n',hn'⟩:∃ n',n'=lo.length:=⟨_,rfl⟩;have HK:Aside (k'=y'.es.length∧n'=lo.length):=⟨hk',hn'⟩;rw [← hk',← hn'];clear hk' hn')
 obtain ⟨s0,s1⟩:=pI (.slice y'.ad k' y'.cap) (.slice pl' n' cl') r0 r1
 refine bodyPost_ret (v:=.tuple #[.agg #[.slice y'.ad k' y'.cap,.slice pl' n' cl'],.int .i64 er]) (by simp [results,Tryz.results128,go_sem,s0,s1]) rfl ?_
 have:=wH (er:=er) HBW.out HE.out.2.2.2.2 HE.out.1 HE.out.2.1 HK.out.1 HK.out.2 HE.out.2.2.1 HE.out.2.2.2.1 (.slice y'.ad k' y'.cap) (.slice pl' n' cl')
 rw [hs1] at this
 exact this
set_option maxHeartbeats 2000000 in
set_option maxRecDepth 100000 in
theorem xX (y:Lay) (ls:List Lay) (m:Int) (pl:Option Addr) (cl:Nat) (frm to:ByteArray) (hf:frm.size≤maxLen) (ht:to.size≤maxLen) (w:World) (hUn:UnOK w y ls pl cl) (hm:w.cell? ⟨0,0,none⟩=some (.int .i64 m)) :
  Calls Tryz.prog 131 #[.agg #[.slice y.ad y.es.length y.cap,.slice pl ls.length cl],.string frm,.string to] w
   (eO (aF (ay (y.es::ls.map (·.es))).1 (bg (aB (y.es::ls.map (·.es))) frm to) (if frm.data.toList=to.data.toList then y.es else fV y.es (au (ls.map (·.es))).2 (aB (y.es::ls.map (·.es))) frm to).length) (if aF (ay (y.es::ls.map (·.es))).1 (bg (aB (y.es::ls.map (·.es))) frm to) (if frm.data.toList=to.data.toList then y.es else fV y.es (au (ls.map (·.es))).2 (aB (y.es::ls.map (·.es))) frm to).length=0 then if frm.data.toList=to.data.toList then y.es else fV y.es (au (ls.map (·.es))).2 (aB (y.es::ls.map (·.es))) frm to else []) (if aF (ay (y.es::ls.map (·.es))).1 (bg (aB (y.es::ls.map (·.es))) frm to) (if frm.data.toList=to.data.toList then y.es else fV y.es (au (ls.map (·.es))).2 (aB (y.es::ls.map (·.es))) frm to).length=0 then ls.map (·.es) else []) w):=by
 obtain ⟨W0,hW0⟩:∃ W0,(((w.alloc (.cells #[.slice y.ad y.es.length y.cap,.slice pl ls.length cl] 26)).alloc (.cells #[.string frm] 9)).alloc (.cells #[.string to] 9))=W0:=⟨_,rfl⟩
 have hBw:Below w.heap.size w W0:=by rw [← hW0];exact ((((Below.refl _ _).alloc (Nat.le_refl _) _).alloc (by simp) _).alloc (by simp;omega) _)
 have hs0:W0.heap.size=w.heap.size+3:=by rw [← hW0];simp
 have hE:∀ X,Below (W0.alloc (.cells #[.slice none 0 0,.slice none 0 0] 26)).heap.size (W0.alloc (.cells #[.slice none 0 0,.slice none 0 0] 26)) X→X.cell? ⟨w.heap.size+1,0,none⟩=some (.string frm):=fun X hX=>by
  have h1:W0.cell? ⟨w.heap.size+1,0,none⟩=some (.string frm):=by rw [← hW0];exact Lib.cell?_alloc_some _ (qP _ _ (by simp) _ _)
  exact (hX.cell (p:=⟨w.heap.size+1,0,none⟩) (by simp;omega)).trans (Lib.cell?_alloc_some _ h1)
 have hE2:∀ X,Below (W0.alloc (.cells #[.slice none 0 0,.slice none 0 0] 26)).heap.size (W0.alloc (.cells #[.slice none 0 0,.slice none 0 0] 26)) X→X.cell? ⟨w.heap.size+2,0,none⟩=some (.string to):=fun X hX=>by
  have h1:W0.cell? ⟨w.heap.size+2,0,none⟩=some (.string to):=by rw [← hW0];exact qP _ _ (by simp) _ _
  exact (hX.cell (p:=⟨w.heap.size+2,0,none⟩) (by simp;omega)).trans (Lib.cell?_alloc_some _ h1)
 have hB0:Below w.heap.size w (W0.alloc (.cells #[.slice none 0 0,.slice none 0 0] 26)):=hBw.alloc hBw.size _
 have hX0:Below W0.heap.size W0 (W0.alloc (.cells #[.slice none 0 0,.slice none 0 0] 26)):=(Below.refl _ _).alloc (Nat.le_refl _) _
 have hch:=jy y ls m pl cl (W0.alloc (.cells #[.slice none 0 0,.slice none 0 0] 26)) (hUn.kept hB0) (held hB0 hm) 182 184 #[.pointer (some ⟨w.heap.size+1,0,none⟩),.pointer (some ⟨w.heap.size+2,0,none⟩)] #[.pointer (some ⟨w.heap.size+1,0,none⟩),.pointer (some ⟨w.heap.size+2,0,none⟩)] (enters_of Tryz.func182 (by kernel_rfl) rfl) (enters_of Tryz.func184 (by kernel_rfl) rfl) (bg (aB (y.es::ls.map (·.es))) frm to) (if frm.data.toList=to.data.toList then y.es else fV y.es (au (ls.map (·.es))).2 (aB (y.es::ls.map (·.es))) frm to)
  (fun h X p c hB hL hc hn=>EM _ frm to m (w.heap.size+1) (w.heap.size+2) p c X hL (gK (aK _)) (aK _).len hc hn hf ht (hE X hB) (hE2 X hB) (held (Below.onto hB0 hB) hm))
  (fun h ha=>by
    obtain ⟨_,hz,hr⟩:=eG.1 h
    have hU:=hr y.es (by simp)
    have hs1:aB (y.es::ls.map (·.es))=(au (y.es::ls.map (·.es))).2:=by rw [aB,if_pos h]
    exact ⟨fun X base U g c pB cB p cs hB hUp _ hb2 hLB hLs=>EN y.es _ _ frm to base U g c pB cB (w.heap.size+1) (w.heap.size+2) p cs X hUp hb2 hLB hLs hU.sorted (jL hU.good) hU.len (iU (jB hz).1) ha (hE X hB) (hE2 X hB),by
     split
     ·exact jL hU.good
     ·rename_i hne
      rw [hs1] at ha ⊢
      exact jL (vL (Prod.ext hz rfl) ha hne).1⟩)
 generalize aF (ay (y.es::ls.map (·.es))).1 (bg (aB (y.es::ls.map (·.es))) frm to) (if frm.data.toList=to.data.toList then y.es else fV y.es (au (ls.map (·.es))).2 (aB (y.es::ls.map (·.es))) frm to).length=er at hch ⊢
 generalize (if er=0 then if frm.data.toList=to.data.toList then y.es else fV y.es (au (ls.map (·.es))).2 (aB (y.es::ls.map (·.es))) frm to else [])=rl at hch ⊢
 generalize (if er=0 then ls.map (·.es) else [])=rls at hch ⊢
 have HBW:Aside (Below w.heap.size w W0):=hBw
 have hs1:W0.heap.size=w.heap.size+3:=hs0
 rw [← hW0] at hch
 obtain ⟨k,hk⟩:∃ k,k=y.es.length:=⟨_,rfl⟩
 obtain ⟨n,hn⟩:∃ n,n=ls.length:=⟨_,rfl⟩
 rw [← hk,← hn] at hch ⊢
 have HW0:Aside ((((w.alloc (.cells #[.slice y.ad k y.cap,.slice pl n cl] 26)).alloc (.cells #[.string frm] 9)).alloc (.cells #[.string to] 9))=W0):=by rw [hk,hn];exact hW0
 have hs2:(((w.alloc (.cells #[.slice y.ad k y.cap,.slice pl n cl] 26)).alloc (.cells #[.string frm] 9)).alloc (.cells #[.string to] 9)).heap.size=w.heap.size+3:=by simp
 clear hUn hm hB0 hX0 hBw hW0 hk hn hE hE2
 go_enter Tryz.func131,Tryz.ntmps131
 go_wp2_with (go_at_call 174;refine hch.mono ?_;clear hch;rintro r w4 ⟨y',lo,pl',cl',rfl,h1,h2,hok,hN4,hnew⟩;rw [HW0.out] at hN4 hnew;have hs5:(W0.alloc (.cells #[.slice none 0 0,.slice none 0 0] 26)).heap.size=W0.heap.size+1:=World.size_alloc _ _;rw [hs5] at hN4 hnew;obtain ⟨⟨r0,r1⟩,⟨f0,f1⟩⟩:=new2 (Nat.lt_succ_self _) hN4;rw [hs1] at r0 r1 f0 f1;have HE:Aside (y'.es=rl∧lo.map (·.es)=rls∧UnOK w4 y' lo pl' cl'∧jF (W0.heap.size+1) y' lo pl'∧Below (W0.heap.size+1) (W0.alloc (.cells #[.slice none 0 0,.slice none 0 0] 26)) w4):=⟨h1,h2,hok,hnew,hN4⟩;clear h1 h2 hok hnew hN4 hs5;obtain ⟨k',hk'⟩:∃ k',k'=y'.es.length:=⟨_,rfl⟩;obtain ⟨n',hn'⟩:∃ n',n'=lo.length:=⟨_,rfl⟩;have HK:Aside (k'=y'.es.length∧n'=lo.length):=⟨hk',hn'⟩;rw [← hk',← hn'];clear hk' hn')
 obtain ⟨s0,s1⟩:=pI (.slice y'.ad k' y'.cap) (.slice pl' n' cl') r0 r1
 refine bodyPost_ret (v:=.tuple #[.agg #[.slice y'.ad k' y'.cap,.slice pl' n' cl'],.int .i64 er]) (by simp [results,Tryz.results131,go_sem,s0,s1]) rfl ?_
 have:=wH (er:=er) HBW.out HE.out.2.2.2.2 HE.out.1 HE.out.2.1 HK.out.1 HK.out.2 HE.out.2.2.1 HE.out.2.2.2.1 (.slice y'.ad k' y'.cap) (.slice pl' n' cl')
 rw [hs1] at this
 exact this
end Go.Proofs.YthfeoiffoeagkaaGreatDoor
