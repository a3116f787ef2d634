/-
  The step of open.
-/
import Derived.Test.YthfeoiffoeagkaaGreatDoorZA31
import Derived.Deep.QuietTactic
import Derived.BigQuiet
namespace Go.Proofs.YthfeoiffoeagkaaGreatDoor
open Go.RowKit PM Go.Sort
set_option linter.unusedVariables false
theorem qI (w:World) (o:Obj) (p:Addr) (v:Value) (h:p.block<w.heap.size):(w.alloc o).setCell p v=(w.setCell p v).alloc o:=by
 have hm:∀ f:Obj→Obj,(w.heap.push o).modify p.block f=(w.heap.modify p.block f).push o:=by
  intro f
  apply Array.ext_getElem?
  intro i
  rw [Array.getElem?_modify,Array.getElem?_push,Array.getElem?_push,Array.getElem?_modify,Array.size_modify]
  by_cases h1:p.block=i
  ·subst h1
   have h2:¬ p.block=w.heap.size:=by omega
   simp [h2]
  ·simp [h1]
 unfold World.setCell World.alloc
 simp only [hm]
namespace PM
def Sy.opened (s:Sy) (q:ByteArray) (use:Int) (n:Nat):Sy:=((s.fileAt q).1.gT ⟨(s.fileAt q).2,use,0⟩).dS n (some (s.fileAt q).1.opens.length)
end PM
theorem Gz {base:Nat} {X X1 X2 w5:World} {S:Nat} {s s1:Sy} {L L1 L2 L5:Lay6} {q:ByteArray} {use:Int} {o k:Nat} (h:aj base X S s L) (hB1:Below X.heap.size X X1) (hx1:L1.ex=fun b=>b=X.heap.size∨L.ex b) (ho1:L1.ob=L.ob) (hf1:L1.fb=L.fb) (ho2:L2.ob=L1.ob) (hf2:L2.fb=L1.fb) (hx2:L2.ex=L1.ex) (hb2:Below base X1 X2) (hk2:Keep (·=S) X1 X2) (hn:dD s s1) (h5:aj base w5 S (s1.fileAt q).1 L5) (ho5:L5.ob=L2.ob) (hx5:L5.ex=L2.ex) (hB5:Below X2.heap.size X2 w5) (hf5:∀ x,x<s1.files.length→L5.fb x=L2.fb x) (hg5:∀ x,s1.files.length≤x→x<(s1.fileAt q).1.files.length→X2.heap.size≤L5.fb x) (hi5:(s1.fileAt q).2<(s1.fileAt q).1.files.length) (hop:(s1.fileAt q).1.opens=s1.opens) (ho4:o<4) (hk8:k<8) (hbk:w5.heap[X.heap.size]?=some (.cells #[.int .i64 0,.int .i64 0,.string ⟨#[]⟩,.slice none 0 0] 38)) (Z:World) (hZ:Z=(w5.setCell ⟨S,3+o*8+k,none⟩ (.pointer (some ⟨w5.heap.size,0,none⟩))).alloc (.cells #[.pointer (some ⟨L5.fb (s1.fileAt q).2,0,none⟩),.int .i64 use,.int .i64 0] 116)) :
  ∃ L6,aj base Z S (s1.opened q use (o*8+k)) L6∧(∀ b,L6.ex b↔b=X.heap.size∨L.ex b)∧Below base X Z∧Keep (Mine S s L) X Z∧Z.heap[X.heap.size]?=some (.cells #[.int .i64 0,.int .i64 0,.string ⟨#[]⟩,.slice none 0 0] 38)∧∀ b,Sp S (s1.opened q use (o*8+k)) L6 b→Sp S s L b∨X.heap.size≤b:=by
 obtain ⟨L6,h6,e1,e2,e3,e4⟩:=h5.Gv (s1.fileAt q).2 hi5 use
 have h7:=h6.number (k:=o*8+k) (by omega) (some (s1.fileAt q).1.opens.length) (fun x hx=>by cases hx;simp [Sy.gT]) (.pointer (some ⟨w5.heap.size,0,none⟩)) (by rw [← e2];rfl)
 rw [← Nat.add_assoc,qI _ _ _ _ (by exact h5.lt),← hZ] at h7
 have hbX:base≤X.heap.size:=Nat.le_trans h.base.1 (Nat.le_of_lt h.lt)
 have hs1:=hB1.size
 have hs2:=hk2.size
 have hs5:=hB5.size
 have hb5:Below base X w5:=((hB1.mono hbX).trans hb2).trans (hB5.mono (by omega))
 have hbs:base≤S:=h.base.1
 have hbZ:Below base X Z:=by
  rw [hZ]
  have h1:=hb5.setCell (p:=⟨S,3+o*8+k,none⟩) hbs (.pointer (some ⟨w5.heap.size,0,none⟩))
  exact h1.alloc (Nat.le_trans hbX h1.size) _
 have hkZ:Keep (Mine S s L) X Z:=by
  have h1:Keep (Mine S s L) X w5:=(Keep.mine hB1 hk2 (fun b hb=>.inl hb)).trans (Keep.of_below _ hB5)
  rw [hZ]
  exact (h1.trans (Keep.set (.inl rfl) _ _ _)).trans (Keep.of_below _ ((Grown.refl _).alloc _).below)
 refine ⟨L6,h7,fun b=>by rw [e3,hx5,hx2,hx1],hbZ,hkZ,?_,fun b hb=>?_⟩
 ·rw [hZ]
  have hlt:X.heap.size<w5.heap.size:=(Array.getElem?_eq_some_iff.1 hbk).1
  refine (((Grown.refl _).alloc _).below.block _ (by simp [World.setCell];exact hlt)).trans ((Below.heap_setCell _ _ _ _ (fun e=>?_)).trans hbk)
  have e:X.heap.size=S:=e
  have:=h.lt;omega
 ·rcases hb with (e | hx) | ⟨j,hj,e⟩ | ⟨i,hi,e⟩
  ·exact .inl (.inl (.inl e))
  ·rw [e3,hx5,hx2,hx1] at hx
   rcases hx with e | hx
   ·exact .inr (Nat.le_of_eq e.symm)
   ·exact .inl (.inl (.inr hx))
  ·have hj:j<(s1.fileAt q).1.opens.length+1:=by simpa [Sy.opened,Sy.dS,Sy.gT] using hj
   rcases Nat.lt_or_ge j (s1.fileAt q).1.opens.length with hj | hj'
   ·rw [e4 j hj,ho5,ho2,ho1] at e
    rw [hop,hn.1] at hj
    exact .inl (.inr (.inl ⟨j,hj,e⟩))
   ·rw [show j=(s1.fileAt q).1.opens.length by omega,e2] at e
    right;omega
  ·have hi:i<(s1.fileAt q).1.files.length:=by simpa [Sy.opened,Sy.dS,Sy.gT] using hi
   rw [e1] at e
   rcases Nat.lt_or_ge i s1.files.length with hi' | hi'
   ·rw [hf5 i hi',hf2,hf1] at e
    rw [hn.2] at hi'
    exact .inl (.inr (.inr ⟨i,hi',e⟩))
   ·have:=hg5 i hi' hi
    right;omega
set_option maxRecDepth 100000 in
set_option maxHeartbeats 2000000 in
theorem Jt {base:Nat} {X:World} {S:Nat} {s:Sy} {L:Lay6} (h:aj base X S s L) (hg:Gl base X) (B0 B1 B2 B3 B4 B5 o k:Nat) (ho4:o<4) (hk8:k<8) (q:ByteArray) (use:Int) (hB0:X.cell? ⟨B0,0,none⟩=some (.pointer (some ⟨S,0,none⟩))) (hNB0:¬ Sp S s L B0) (hB2:X.cell? ⟨B2,0,none⟩=some (.string q)) (hNB2:¬ Sp S s L B2) (hB3:X.cell? ⟨B3,3,none⟩=some (.int .i64 use)) (hNB3:¬ Sp S s L B3) (hB4:X.cell? ⟨B4,0,none⟩=some (.pointer (some ⟨S,3+o*8,none⟩))) (hNB4:¬ Sp S s L B4) (hB5:X.cell? ⟨B5,0,none⟩=some (.int .i64 k)) (hNB5:¬ Sp S s L B5) (y:Lay) (lo:List Lay) (pl:Option Addr) (cl:Nat) (hb1:fD X B1 y lo pl cl) (hU:St (Sp S s L) X (fun X=>UnOK X y lo pl cl)) (h0:(ay (y.es::lo.map (·.es))).1=0) :
  Calls Tryz.prog 123 #[.pointer (some ⟨B0,0,none⟩),.pointer (some ⟨B1,0,none⟩),.pointer (some ⟨B2,0,none⟩),.pointer (some ⟨B3,0,none⟩),.pointer (some ⟨B4,0,none⟩),.pointer (some ⟨B5,0,none⟩)] X (dN base S s L ((s.aJ y.es (lo.map (·.es))).opened q use (o*8+k)) (ans k ⟨#[]⟩) X):=by
 obtain ⟨c0,c1⟩:=hb1
 obtain ⟨L1,hL1⟩:∃ L1:Lay6,L1={ L with ex:=fun b=>b=X.heap.size∨L.ex b }:=⟨_,rfl⟩
 obtain ⟨X1,hX1⟩:∃ X1,X.alloc (.cells #[.int .i64 0,.int .i64 0,.string ⟨#[]⟩,.slice none 0 0] 38)=X1:=⟨_,rfl⟩
 have hB1:Below X.heap.size X X1:=by rw [← hX1];exact ((Grown.refl X).alloc _).below
 have h1:=h.aside (.cells #[.int .i64 0,.int .i64 0,.string ⟨#[]⟩,.slice none 0 0] 38)
 have hU1:=St.aside hU (.cells #[.int .i64 0,.int .i64 0,.string ⟨#[]⟩,.slice none 0 0] 38)
 rw [hX1,← hL1] at h1 hU1
 have hbb:Below base X X1:=hB1.mono (Nat.le_trans h.base.1 (Nat.le_of_lt h.lt))
 have hst:=jV h1 (hg.kept hbb) y lo pl cl hU1 h0
 have hbk1:X1.heap[X.heap.size]?=some (.cells #[.int .i64 0,.int .i64 0,.string ⟨#[]⟩,.slice none 0 0] 38):=by rw [← hX1];exact heap_alloc_last X _
 have HA:Aside (aj base X S s L∧Below X.heap.size X X1∧X1.heap[X.heap.size]?=some (.cells #[.int .i64 0,.int .i64 0,.string ⟨#[]⟩,.slice none 0 0] 38)∧(L1.ex=fun b=>b=X.heap.size∨L.ex b)∧L1.ob=L.ob∧L1.fb=L.fb):=⟨h,hB1,hbk1,by rw [hL1],by rw [hL1],by rw [hL1]⟩
 have HK:Aside (∀ X2,Keep (·=S) X1 X2→X2.cell? ⟨B0,0,none⟩=some (.pointer (some ⟨S,0,none⟩))∧X2.cell? ⟨B2,0,none⟩=some (.string q)∧X2.cell? ⟨B3,3,none⟩=some (.int .i64 use)∧X2.cell? ⟨B4,0,none⟩=some (.pointer (some ⟨S,3+o*8,none⟩))∧X2.cell? ⟨B5,0,none⟩=some (.int .i64 k)):=by
  show ∀ X2,_
  intro X2 hk
  have go:∀ B i v,X.cell? ⟨B,i,none⟩=some v→¬ Sp S s L B→X2.cell? ⟨B,i,none⟩=some v:=fun B i v hv hn=>by
   have hl:=block_lt_of_cell hv
   simp only at hl
   exact (bR ((hk.block B (Nat.lt_of_lt_of_le hl hB1.size) (fun e=>hn (.inl (.inl e)))).trans (hB1.block B hl)) i).trans hv
  exact ⟨go _ _ _ hB0 hNB0,go _ _ _ hB2 hNB2,go _ _ _ hB3 hNB3,go _ _ _ hB4 hNB4,go _ _ _ hB5 hNB5⟩
 have aB0:=Lib.cell?_alloc_some (.cells #[.int .i64 0,.int .i64 0,.string ⟨#[]⟩,.slice none 0 0] 38) hB0
 have nB0:¬ S=B0:=fun e=>hNB0 (.inl (.inl e.symm))
 have lB0:=block_lt_of_cell hB0
 simp only at lB0
 have aB2:=Lib.cell?_alloc_some (.cells #[.int .i64 0,.int .i64 0,.string ⟨#[]⟩,.slice none 0 0] 38) hB2
 have nB2:¬ S=B2:=fun e=>hNB2 (.inl (.inl e.symm))
 have lB2:=block_lt_of_cell hB2
 simp only at lB2
 have aB3:=Lib.cell?_alloc_some (.cells #[.int .i64 0,.int .i64 0,.string ⟨#[]⟩,.slice none 0 0] 38) hB3
 have nB3:¬ S=B3:=fun e=>hNB3 (.inl (.inl e.symm))
 have lB3:=block_lt_of_cell hB3
 simp only at lB3
 have aB4:=Lib.cell?_alloc_some (.cells #[.int .i64 0,.int .i64 0,.string ⟨#[]⟩,.slice none 0 0] 38) hB4
 have nB4:¬ S=B4:=fun e=>hNB4 (.inl (.inl e.symm))
 have lB4:=block_lt_of_cell hB4
 simp only at lB4
 have aB5:=Lib.cell?_alloc_some (.cells #[.int .i64 0,.int .i64 0,.string ⟨#[]⟩,.slice none 0 0] 38) hB5
 have nB5:¬ S=B5:=fun e=>hNB5 (.inl (.inl e.symm))
 have lB5:=block_lt_of_cell hB5
 simp only at lB5
 have d0:=Lib.cell?_alloc_some (.cells #[.int .i64 0,.int .i64 0,.string ⟨#[]⟩,.slice none 0 0] 38) c0
 have d1:=Lib.cell?_alloc_some (.cells #[.int .i64 0,.int .i64 0,.string ⟨#[]⟩,.slice none 0 0] 38) c1
 have hkz:(k:Int)<8:=by omega
 have HE:Aside (X.alloc (.cells #[.int .i64 0,.int .i64 0,.string ⟨#[]⟩,.slice none 0 0] 38)=X1):=hX1
 rw [← hX1] at hst
 have hSX:=h.lt
 clear h hg hU h0 hB1 h1 hU1 hX1 hbk1 hL1 hbb c0 c1 hNB0 hB0 hNB2 hB2 hNB3 hB3 hNB4 hB4 hNB5 hB5
 generalize y.es.length=yn at d0 hst
 generalize lo.length=ln at d1 hst
 obtain ⟨s1,hs1⟩:∃ s1,s1=s.aJ y.es (lo.map (·.es)):=⟨_,rfl⟩
 have HS1:Aside (dD s s1):=by rw [hs1];exact ⟨rfl,rfl⟩
 rw [← hs1] at hst ⊢
 clear hs1
 go_enter Tryz.func123,Tryz.ntmps123
 go_wp2_with (go_at_call 124;refine hst.mono ?_;clear hst;rintro r X2 ⟨rfl,hS2⟩;rw [HE.out] at hS2;obtain ⟨L2,hA2,ho2,hf2,hx2,hb2,hk2⟩:=hS2;obtain ⟨t0,t2,t3,t4,t5⟩:=HK.out X2 hk2;have hfa:=tq hA2 q;have H2:Aside (aj base X2 S s1 L2∧L2.ob=L1.ob∧L2.fb=L1.fb∧L2.ex=L1.ex∧Below base X1 X2∧Keep (·=S) X1 X2):=⟨hA2,ho2,hf2,hx2,hb2,hk2⟩;have l12:X.heap.size<X2.heap.size:=Nat.lt_of_lt_of_le (Array.getElem?_eq_some_iff.1 HA.out.2.2.1).1 hk2.size;clear hA2 ho2 hf2 hx2 hb2 hk2)
 have c3:=H2.out.1.fd (k:=o*8+k) (by omega)
 have c3:X2.cell? ⟨S,3+o*8+k,none⟩=some (.pointer ((s1.fds (o*8+k)).map fun j=>⟨L2.ob j,0,none⟩)):=by rw [Nat.add_assoc];exact c3
 have f3:=H2.out.1.frz (3+o*8+k)
 have lS2:S<X2.heap.size:=H2.out.1.lt
 have mB0:B0<X2.heap.size:=Nat.lt_trans lB0 l12
 have mB2:B2<X2.heap.size:=Nat.lt_trans lB2 l12
 have mB3:B3<X2.heap.size:=Nat.lt_trans lB3 l12
 have mB4:B4<X2.heap.size:=Nat.lt_trans lB4 l12
 have mB5:B5<X2.heap.size:=Nat.lt_trans lB5 l12
 have hfa2:∀ Y,Y=X2.drew→Calls Tryz.prog 125 #[.pointer (some ⟨S,0,none⟩),.string q] Y (fun r w'=>∃ fbi,r=.returned (.pointer (some ⟨fbi,0,none⟩))∧Below X2.heap.size X2 w'∧Aside (∃ L5:Lay6,fbi=L5.fb (s1.fileAt q).2∧aj base w' S (s1.fileAt q).1 L5∧L5.ob=L2.ob∧L5.ex=L2.ex∧(∀ x,x<s1.files.length→L5.fb x=L2.fb x)∧(∀ x,s1.files.length≤x→x<(s1.fileAt q).1.files.length→X2.heap.size≤L5.fb x)∧(s1.fileAt q).2<(s1.fileAt q).1.files.length∧(s1.fileAt q).1.opens=s1.opens)):=fun Y hY=>by
  subst hY
  exact (tq (H2.out.1.kept (Below.refl _ _).drew) q).mono fun r w' ⟨L5,e1,e2,e3,e4,e5,e6,e7,e8,e9⟩=>⟨_,e1,((Below.refl _ _).drew).trans e5,L5,rfl,e2,e3,e4,e6,e7,e8,e9⟩
 clear hfa
 go_region_held3 (fun w'=>w'.cell? ⟨B0,0,none⟩=some (.pointer (some ⟨S,0,none⟩))∧w'.cell? ⟨B2,0,none⟩=some (.string q)∧w'.cell? ⟨B3,3,none⟩=some (.int .i64 use)∧w'.cell? ⟨B4,0,none⟩=some (.pointer (some ⟨S,3+o*8,none⟩))∧w'.cell? ⟨B5,0,none⟩=some (.int .i64 k)) (go_keep) (first | (go_at_call 125;refine (hfa2 _ rfl).mono ?_;clear hfa2;rintro r w5 ⟨fbi,rfl,hB5,H5⟩;have zB0:=(hB5.cell (p:=⟨B0,0,none⟩) mB0).trans t0;have eB0:=World.new_ne w5 ⟨B0,0,none⟩ zB0;have zB2:=(hB5.cell (p:=⟨B2,0,none⟩) mB2).trans t2;have eB2:=World.new_ne w5 ⟨B2,0,none⟩ zB2;have zB3:=(hB5.cell (p:=⟨B3,3,none⟩) mB3).trans t3;have eB3:=World.new_ne w5 ⟨B3,3,none⟩ zB3;have zB4:=(hB5.cell (p:=⟨B4,0,none⟩) mB4).trans t4;have eB4:=World.new_ne w5 ⟨B4,0,none⟩ zB4;have zB5:=(hB5.cell (p:=⟨B5,0,none⟩) mB5).trans t5;have eB5:=World.new_ne w5 ⟨B5,0,none⟩ zB5;have c4:=(hB5.cell (p:=⟨S,3+o*8+k,none⟩) lS2).trans c3;have f4:=(hB5.frozen (p:=⟨S,3+o*8+k,none⟩) lS2).trans f3;have eS:=World.new_ne w5 ⟨S,3+o*8+k,none⟩ c4;have eS':¬ S=w5.heap.size:=(fun e=>eS e.symm);have a4:=Lib.cell?_alloc_some (.cells #[.pointer (some ⟨fbi,0,none⟩),.int .i64 use,.int .i64 0] 116) c4;have b4:(w5.alloc (.cells #[.pointer (some ⟨fbi,0,none⟩),.int .i64 use,.int .i64 0] 116)).frozen? ⟨S,3+o*8+k,none⟩=false:=(((Grown.refl w5).alloc _).below.frozen (p:=⟨S,3+o*8+k,none⟩) (Nat.lt_of_lt_of_le lS2 hB5.size)).trans f4))
 all_goals
  have hbk5:w5.heap[X.heap.size]?=some (.cells #[.int .i64 0,.int .i64 0,.string ⟨#[]⟩,.slice none 0 0] 38):=(hB5.block _ l12).trans ((H2.out.2.2.2.2.2.block _ (Array.getElem?_eq_some_iff.1 HA.out.2.2.1).1 (fun e=>by have e:X.heap.size=S:=e;omega)).trans HA.out.2.2.1)
  obtain ⟨Z,hZ⟩:∃ Z,Z=(w5.setCell ⟨S,3+o*8+k,none⟩ (.pointer (some ⟨w5.heap.size,0,none⟩))).alloc (.cells #[.pointer (some ⟨fbi,0,none⟩),.int .i64 use,.int .i64 0] 116):=⟨_,rfl⟩
  have HM:Aside (∃ L6,aj base Z S (s1.opened q use (o*8+k)) L6∧(∀ b,L6.ex b↔b=X.heap.size∨L.ex b)∧Below base X Z∧Keep (Mine S s L) X Z∧Z.heap[X.heap.size]?=some (.cells #[.int .i64 0,.int .i64 0,.string ⟨#[]⟩,.slice none 0 0] 38)∧∀ b,Sp S (s1.opened q use (o*8+k)) L6 b→Sp S s L b∨X.heap.size≤b):=by
   obtain ⟨L5,e0,e2,e3,e4,e6,e7,e8,e9⟩:=H5.out
   exact Gz HA.out.1 HA.out.2.1 HA.out.2.2.2.1 HA.out.2.2.2.2.1 HA.out.2.2.2.2.2 H2.out.2.1 H2.out.2.2.1 H2.out.2.2.2.1 H2.out.2.2.2.2.1 H2.out.2.2.2.2.2 HS1.out e2 e3 e4 hB5 e6 e7 e8 e9 ho4 hk8 hbk5 Z (by rw [hZ,e0])
  have hb5:Z.cell? ⟨B5,0,none⟩=some (.int .i64 k):=by
   rw [hZ]
   refine Lib.cell?_alloc_some _ ((bR (Below.heap_setCell _ _ _ _ (fun e=>nB5 ?_)) 0).trans zB5)
   exact e.symm
  have hbkZ:Z.heap[X.heap.size]?=some (.cells #[.int .i64 0,.int .i64 0,.string ⟨#[]⟩,.slice none 0 0] 38):=by obtain ⟨L6,_,_,_,_,r,_⟩:=HM.out;exact r
  rw [qI _ _ _ _ (show S<w5.heap.size from Nat.lt_of_lt_of_le lS2 hB5.size),← hZ]
  obtain ⟨⟨d0,d1,d2,d3⟩,z0,z1,z2,z3⟩:=bK hbkZ
  clear hZ hbk5 hbkZ H5 H2 HK zB0 zB2 zB3 zB4 zB5 c3 c4 f3 f4 a4 b4
  go_wp2
  refine bodyPost_ret (v:=.agg #[.int .i64 0,.int .i64 k,.string ⟨#[]⟩,.slice none 0 0]) (by simp [results,Tryz.results123,go_sem,d0,d1,d2,d3]) rfl ?_
  obtain ⟨L6,p1,p2,p3,p4,p5,p6⟩:=HM.out
  obtain ⟨k1,k2⟩:=p1.answer ((p2 _).2 (.inl rfl)) p5 (.int .i64 0) (.int .i64 k) (.string ⟨#[]⟩) (.slice none 0 0)
  refine ⟨_,L6,rfl,k1,iR _ _ _ _,p3.trans k2,fun b hb=>(p2 b).2 (.inr hb),⟨Nat.le_trans p4.size (by simp [World.setCell]),fun x hx hn=>?_⟩,p6⟩
  have hne:∀ (Y:World) (i:Nat) (v:Value),(Y.setCell ⟨X.heap.size,i,none⟩ v).heap[x]?=Y.heap[x]?:=fun Y i v=>Below.heap_setCell _ _ _ _ (by show x≠X.heap.size;omega)
  rw [hne,hne,hne,hne]
  exact p4.block x hx hn
namespace PM
def Sy.opL (s:Sy) (cn:Int) (cp:ByteArray):Int × List UInt8:=aP s.seen (bits BinOp.and IntKind.i64 cn 16 == 0) cp.data.toList
noncomputable def Sy.gV (s:Sy) (o:Nat) (cn:Int) (cp:ByteArray):Int:=if KE cn=false then 8 else if s.aV o<0 then 5 else if ¬ (s.opL cn cp).1=0 then (s.opL cn cp).1 else s.gB (s.opL cn cp).2 cn
def Sy.jw (s:Sy) (o:Nat) (cn:Int) (cp:ByteArray):Sy:=(s.aJ (s.gX (s.opL cn cp).2 cn) s.lows).opened (baL (s.opL cn cp).2) cn (o*8+(s.aV o).toNat)
end PM
theorem Gy {base:Nat} {W Wf:World} {S:Nat} {s:Sy} {L:Lay6} (h:aj base W S s L) (hg:Gl base W) (hB:Below W.heap.size W Wf) {B0 B1 B2 B3 B4 B5 o k:Nat} {q:ByteArray} {use:Int} {y:Lay} {lo:List Lay} {pl:Option Addr} {cl:Nat} {up:List Ent} (ho4:o<4) (hk8:k<8) (l0:W.heap.size≤B0) (l2:W.heap.size≤B2) (l3:W.heap.size≤B3) (l4:W.heap.size≤B4) (l5:W.heap.size≤B5) (h0:Wf.cell? ⟨B0,0,none⟩=some (.pointer (some ⟨S,0,none⟩))) (h2:Wf.cell? ⟨B2,0,none⟩=some (.string q)) (h3:Wf.cell? ⟨B3,3,none⟩=some (.int .i64 use)) (h4:Wf.cell? ⟨B4,0,none⟩=some (.pointer (some ⟨S,3+o*8,none⟩))) (h5:Wf.cell? ⟨B5,0,none⟩=some (.int .i64 k)) (hb1:fD Wf B1 y lo pl cl) (hu:y.es=up∧lo.map (·.es)=s.lows∧St (Sp S s L) Wf (fun X=>UnOK X y lo pl cl)∧(ay (up::s.lows)).1=0) :
  yE base S s L 0 ((s.aJ up s.lows).opened q use (o*8+k)) (ans k ⟨#[]⟩) W (.returned (.tuple #[.func (.func 123) #[] #[.pointer (some ⟨B0,0,none⟩),.pointer (some ⟨B1,0,none⟩),.pointer (some ⟨B2,0,none⟩),.pointer (some ⟨B3,0,none⟩),.pointer (some ⟨B4,0,none⟩),.pointer (some ⟨B5,0,none⟩)],.int .i64 0])) Wf:=by
 obtain ⟨e1,e2,e3,e4⟩:=hu
 refine ⟨_,rfl,hB,fun _=>⟨_,_,rfl,enters_of Tryz.func123 (by kernel_rfl) rfl,?_⟩⟩
 have:=Jt (h.kept hB) (hg.kept (hB.mono (Nat.le_trans h.base.1 (Nat.le_of_lt h.lt)))) B0 B1 B2 B3 B4 B5 o k ho4 hk8 q use h0 (h.exNe l0) h2 (h.exNe l2) h3 (h.exNe l3) h4 (h.exNe l4) h5 (h.exNe l5) y lo pl cl hb1 e3 (by rw [e1,e2];exact e4)
 rw [e1,e2] at this
 exact this
set_option maxRecDepth 100000 in
set_option maxHeartbeats 4000000 in
theorem AL {base:Nat} {W:World} {S:Nat} {s:Sy} {L:Lay6} (h:aj base W S s L) (hg:Gl base W) (hw0:(ay s.all).1=0) (o:Nat) (ho4:o<4) (ck cf cn cm:Int) (cp ct cx:ByteArray) (ca:Bool) (hw:cp.size≤maxLen) :
  Calls Tryz.prog 85 #[.pointer (some ⟨S,0,none⟩),.agg #[.int .i64 ck,.int .i64 o,.int .i64 cf,.int .i64 cn,.int .i64 cm,.string cp,.string ct,.string cx,.bool ca]] W (yE base S s L (s.gV o cn cp) (s.jw o cn cp) (ans (s.aV o) ⟨#[]⟩) W):=by
 obtain ⟨W2,hW2⟩:∃ W2,(W.alloc (.cells #[.pointer (some ⟨S,0,none⟩)] 76)).alloc (.cells #[.int .i64 ck,.int .i64 o,.int .i64 cf,.int .i64 cn,.int .i64 cm,.string cp,.string ct,.string cx,.bool ca] 50)=W2:=⟨_,rfl⟩
 have hB2:Below W.heap.size W W2:=by rw [← hW2];exact ((Below.refl _ _).alloc (Nat.le_refl _) _).alloc (by simp) _
 have hs2:W2.heap.size=W.heap.size+2:=by rw [← hW2];simp
 have hbase:base≤W.heap.size:=Nat.le_trans h.base.1 (Nat.le_of_lt h.lt)
 have hft:=Gd cn W2
 have hfr:∀ Y,Below W.heap.size W Y→Calls Tryz.prog 120 #[.pointer (some ⟨S,3+o*8,none⟩)] Y (fun r w'=>r=.returned (.tuple #[.int .i64 (if s.aV o<0 then 0 else s.aV o),.int .i64 (if s.aV o<0 then 5 else 0)])∧Below Y.heap.size Y w'):=fun Y hY=>oh (h.kept hY) o ho4
 have hld:∀ Y,Below W.heap.size W Y→Calls Tryz.prog 121 #[.pointer (some ⟨S,0,none⟩),.string cp,.bool (bits BinOp.and IntKind.i64 cn 16 == 0)] Y (lI (s.opL cn cp).1 (s.opL cn cp).2 Y):=fun Y hY=>by
  obtain ⟨m,hm⟩:=(hg.kept (hY.mono hbase)).2
  exact kG s.seen cp _ Y S L.ps L.sc m (h.kept hY).cells.2.2 (h.kept hY).data.now.seen (aK s.all) hw hm
 have hq80:(s.opL cn cp).2.length≤80:=kH _ _ _
 have hrd:∀ Y,Below W.heap.size W Y→∀ d:ByteArray,d.data.toList=(s.opL cn cp).2→Calls Tryz.prog 122 #[.pointer (some ⟨S,0,none⟩),.string d,.int .i64 cn] Y (gZ S s L (s.gB (s.opL cn cp).2 cn) (s.gX (s.opL cn cp).2 cn) Y):=fun Y hY d hd=>by
  have:=Fv (h.kept hY) (hg.kept (hY.mono hbase)) hw0 d (by have:=szl d;rw [hd] at this;omega) cn
  rw [hd] at this
  exact this
 have HF:Aside (s.aV o = -1∨∃ k:Nat,k<8∧s.aV o=k∧s.fds (o*8+k)=none):=lU s o
 have HE:Aside (s.gV o cn cp=(if KE cn=false then 8 else if s.aV o<0 then 5 else if ¬ (s.opL cn cp).1=0 then (s.opL cn cp).1 else s.gB (s.opL cn cp).2 cn)∧s.jw o cn cp=(s.aJ (s.gX (s.opL cn cp).2 cn) s.lows).opened (baL (s.opL cn cp).2) cn (o*8+(s.aV o).toNat)):=⟨rfl,rfl⟩
 have HA:Aside (aj base W S s L∧Gl base W∧Below W.heap.size W W2):=⟨h,hg,hB2⟩
 have HW2:Aside ((W.alloc (.cells #[.pointer (some ⟨S,0,none⟩)] 76)).alloc (.cells #[.int .i64 ck,.int .i64 o,.int .i64 cf,.int .i64 cn,.int .i64 cm,.string cp,.string ct,.string cx,.bool ca] 50)=W2):=hW2
 rw [← hW2] at hft
 generalize s.gV o cn cp=er at HE ⊢
 generalize s.jw o cn cp=sf at HE ⊢
 generalize s.gB (s.opL cn cp).2 cn=ae at HE hrd
 generalize s.gX (s.opL cn cp).2 cn=up at HE hrd
 generalize (s.opL cn cp).1=e at HE hld
 generalize (s.opL cn cp).2=q at HE hld hrd hq80
 generalize s.aV o=R at HE hfr HF ⊢
 generalize KE cn=ft at HE hft
 have ho4z:(o:Int)<4:=by omega
 have hSW:=h.lt
 clear h hg hw0 hB2 hW2 hw
 cases ft with
 | false =>
  go_enter Tryz.func85,Tryz.ntmps85
  go_wp2_with (go_at_call 119;refine hft.mono ?_;clear hft;rintro r w3 ⟨rfl,hB3⟩;rw [HW2.out] at hB3)
  go_ret2
  rw [HE.out.1,if_pos (by trivial)]
  exact yE.no _ (by decide) (Below.onto HA.out.2.2 hB3)
 | true =>
  go_enter Tryz.func85,Tryz.ntmps85
  go_wp2_with (go_at_call 119;refine hft.mono ?_;clear hft;rintro r w3 ⟨rfl,hB3⟩;rw [HW2.out] at hB3)
  have h3:Below W.heap.size W w3:=Below.onto HA.out.2.2 hB3
  have b0:w3.cell? ⟨W.heap.size,0,none⟩=some (.pointer (some ⟨S,0,none⟩)):=(hB3.cell (p:=⟨W.heap.size,0,none⟩) (by show W.heap.size<_;omega)).trans (by simp [World.cell?,iI HW2.out])
  have k1:w3.cell? ⟨W.heap.size+1,1,none⟩=some (.int .i64 o):=(hB3.cell (p:=⟨W.heap.size+1,1,none⟩) (by show W.heap.size+1<_;omega)).trans (by simp [World.cell?,dY HW2.out])
  have k3:w3.cell? ⟨W.heap.size+1,3,none⟩=some (.int .i64 cn):=(hB3.cell (p:=⟨W.heap.size+1,3,none⟩) (by show W.heap.size+1<_;omega)).trans (by simp [World.cell?,dY HW2.out])
  have k5:w3.cell? ⟨W.heap.size+1,5,none⟩=some (.string cp):=(hB3.cell (p:=⟨W.heap.size+1,5,none⟩) (by show W.heap.size+1<_;omega)).trans (by simp [World.cell?,dY HW2.out])
  have n0:=World.new_ne w3 ⟨W.heap.size,0,none⟩ b0
  have n1:=World.new_ne w3 ⟨W.heap.size+1,1,none⟩ k1
  clear hB3 hs2
  go_region_held3 (fun w'=>w'.cell? ⟨W.heap.size,0,none⟩=some (.pointer (some ⟨S,0,none⟩))∧w'.cell? ⟨W.heap.size+1,1,none⟩=some (.int .i64 o)) (go_keep) (fail)
  all_goals
   have nb:Below w3.heap.size w3 (w3.alloc (.cells #[.pointer (some ⟨S,3+o*8,none⟩)] 166)).drew:=(((Grown.refl w3).alloc _).below).drew
   have HOB:Aside (∀ Y,Below (w3.alloc (.cells #[.pointer (some ⟨S,3+o*8,none⟩)] 166)).drew.heap.size (w3.alloc (.cells #[.pointer (some ⟨S,3+o*8,none⟩)] 166)).drew Y→Y.cell? ⟨W.heap.size,0,none⟩=some (.pointer (some ⟨S,0,none⟩))∧Y.cell? ⟨(W.heap.size+1),3,none⟩=some (.int .i64 cn)∧Y.cell? ⟨(W.heap.size+1),5,none⟩=some (.string cp)∧Y.cell? ⟨w3.heap.size,0,none⟩=some (.pointer (some ⟨S,3+o*8,none⟩))):=by
    show ∀ Y,_
    intro Y hY
    have hY2:=Below.onto nb hY
    exact ⟨(hY2.cell (p:=⟨W.heap.size,0,none⟩) (block_lt_of_cell b0)).trans b0,(hY2.cell (p:=⟨W.heap.size+1,3,none⟩) (block_lt_of_cell k3)).trans k3,(hY2.cell (p:=⟨W.heap.size+1,5,none⟩) (block_lt_of_cell k5)).trans k5,(hY.cell (p:=⟨w3.heap.size,0,none⟩) (by show w3.heap.size<(w3.alloc (.cells #[.pointer (some ⟨S,3+o*8,none⟩)] 166)).heap.size;simp)).trans (by show (w3.alloc (.cells #[.pointer (some ⟨S,3+o*8,none⟩)] 166)).cell? ⟨w3.heap.size,0,none⟩=_;simp)⟩
   have hX0:Below W.heap.size W (w3.alloc (.cells #[.pointer (some ⟨S,3+o*8,none⟩)] 166)).drew:=Below.onto h3 nb
   obtain ⟨B4,hB4⟩:∃ B4,B4=w3.heap.size:=⟨_,rfl⟩
   have lB4:W.heap.size≤B4:=by rw [hB4];exact h3.size
   rw [← hB4] at HOB ⊢
   generalize (w3.alloc (.cells #[.pointer (some ⟨S,3+o*8,none⟩)] 166)).drew=X at HOB hX0 ⊢
   have HX:Aside (Below W.heap.size W X):=hX0
   obtain ⟨x0,x3,x5,x4⟩:=HOB.out X (Below.refl _ _)
   clear nb h3 hB4 b0 k1 k3 k5 n0 n1 hX0
   by_cases hR:R<0
   ·rw [if_pos hR,if_pos hR] at hfr
    go_wp2_with (go_at_call 120;refine (hfr _ HX.out).mono ?_;clear hfr;rintro r w5 ⟨rfl,hB5⟩;have hF:Below X.heap.size X (w5.alloc (.cells #[.int .i64 0] 3)):=Below.onto hB5 ((Grown.refl w5).alloc _).below;obtain ⟨u0,u3,u5,u4⟩:=HOB.out _ hF;have hWF:Below W.heap.size W (w5.alloc (.cells #[.int .i64 0] 3)):=Below.onto HX.out hF)
    go_ret2
    rw [HE.out.1,if_neg (by simp),if_pos hR]
    exact yE.no _ (by decide) hWF
   ·rw [if_neg hR,if_neg hR] at hfr
    by_cases hz1:e=0
    ·subst hz1
     by_cases hz:ae=0
     ·subst hz
      go_wp2_with (first | (go_at_call 120;refine (hfr _ HX.out).mono ?_;clear hfr;rintro r w5 ⟨rfl,hB5⟩;have hF:Below X.heap.size X (w5.alloc (.cells #[.int .i64 R] 3)):=Below.onto hB5 ((Grown.refl w5).alloc _).below;obtain ⟨u0,u3,u5,u4⟩:=HOB.out _ hF;have hWF:Below W.heap.size W (w5.alloc (.cells #[.int .i64 R] 3)):=Below.onto HX.out hF) | (go_at_call 121;refine (hld _ hWF).mono ?_;clear hld;rintro r w6 ⟨d,rfl,hd,hB6⟩;have hF6:Below X.heap.size X (w6.alloc (.cells #[.string d] 9)):=Below.onto hF (Below.onto hB6 ((Grown.refl w6).alloc _).below);obtain ⟨v0,v3,v5,v4⟩:=HOB.out _ hF6;have hW6:Below W.heap.size W (w6.alloc (.cells #[.string d] 9)):=Below.onto HX.out hF6;have hrd2:=hrd _ hW6 d hd;clear hrd;have HD:Aside (d.data.toList=q):=hd;clear hd) | (go_at_call 122;refine hrd2.mono ?_;clear hrd2;rintro r w7 ⟨y,lo,pl,cl,yn,ln,rfl,hB7,H7⟩))
      go_ret2
      rw [HE.out.1,if_neg (by simp),if_neg (show ¬ R<0 by omega),if_neg (by simp),HE.out.2]
      rcases HF.out with e | ⟨k,hk,e,_⟩
      ·omega
      obtain ⟨r1,r2,r3⟩:=H7.out
      subst r1 r2
      have nU:Below w7.heap.size w7 (w7.alloc (.cells #[.slice y.ad y.es.length y.cap,.slice pl lo.length cl] 26)):=((Grown.refl w7).alloc _).below
      have hBf:=Below.onto hW6 (Below.onto hB7 nU)
      have hXf:=Below.onto hF6 (Below.onto hB7 nU)
      obtain ⟨g0,g3,g5,g4⟩:=HOB.out _ hXf
      obtain ⟨p1,p2,p3,p4⟩:=r3 (by trivial)
      have hbd:baL q=d:=dz (by rw [HD.out];simp [baL])
      have h5s:=hB5.size
      have h6s:=hB6.size
      rw [World.size_alloc] at h6s
      have hXs:=HX.out.size
      subst e
      rw [hbd,show ((k:Int)).toNat=k from rfl]
      exact Gy HA.out.1 HA.out.2.1 hBf ho4 hk (Nat.le_refl _) (by omega) (by omega) lB4 (by omega) g0 ((nU.cell (p:=⟨w6.heap.size,0,none⟩) (Nat.lt_of_lt_of_le (by show w6.heap.size<(w6.alloc (.cells #[.string d] 9)).heap.size;simp) hB7.size)).trans ((hB7.cell (p:=⟨w6.heap.size,0,none⟩) (by show w6.heap.size<(w6.alloc (.cells #[.string d] 9)).heap.size;simp)).trans (by simp))) g3 g4 ((Below.onto (Below.onto hB6 ((Grown.refl w6).alloc _).below) (Below.onto hB7 nU)).cell (p:=⟨w5.heap.size,0,none⟩) (by show w5.heap.size<(w5.alloc (.cells #[.int .i64 k] 3)).heap.size;simp) |>.trans (by simp)) ⟨by simp,by simp⟩ ⟨p1,p2,St.on p3 (Keep.of_below _ nU),p4⟩
     ·have hne:(ae != 0)=true:=by simpa using hz
      go_wp2_with (first | (go_at_call 120;refine (hfr _ HX.out).mono ?_;clear hfr;rintro r w5 ⟨rfl,hB5⟩;have hF:Below X.heap.size X (w5.alloc (.cells #[.int .i64 R] 3)):=Below.onto hB5 ((Grown.refl w5).alloc _).below;obtain ⟨u0,u3,u5,u4⟩:=HOB.out _ hF;have hWF:Below W.heap.size W (w5.alloc (.cells #[.int .i64 R] 3)):=Below.onto HX.out hF) | (go_at_call 121;refine (hld _ hWF).mono ?_;clear hld;rintro r w6 ⟨d,rfl,hd,hB6⟩;have hF6:Below X.heap.size X (w6.alloc (.cells #[.string d] 9)):=Below.onto hF (Below.onto hB6 ((Grown.refl w6).alloc _).below);obtain ⟨v0,v3,v5,v4⟩:=HOB.out _ hF6;have hW6:Below W.heap.size W (w6.alloc (.cells #[.string d] 9)):=Below.onto HX.out hF6;have hrd2:=hrd _ hW6 d hd;clear hrd;have HD:Aside (d.data.toList=q):=hd;clear hd) | (go_at_call 122;refine hrd2.mono ?_;clear hrd2;rintro r w7 ⟨y,lo,pl,cl,yn,ln,rfl,hB7,H7⟩))
      go_ret2
      rw [HE.out.1,if_neg (by simp),if_neg (show ¬ R<0 by omega),if_neg (by simp)]
      exact yE.no _ hz (Below.onto hW6 (Below.onto hB7 ((Grown.refl w7).alloc _).below))
    ·have hne:(e != 0)=true:=by simpa using hz1
     go_wp2_with (first | (go_at_call 120;refine (hfr _ HX.out).mono ?_;clear hfr;rintro r w5 ⟨rfl,hB5⟩;have hF:Below X.heap.size X (w5.alloc (.cells #[.int .i64 R] 3)):=Below.onto hB5 ((Grown.refl w5).alloc _).below;obtain ⟨u0,u3,u5,u4⟩:=HOB.out _ hF;have hWF:Below W.heap.size W (w5.alloc (.cells #[.int .i64 R] 3)):=Below.onto HX.out hF) | (go_at_call 121;refine (hld _ hWF).mono ?_;clear hld;rintro r w6 ⟨d,rfl,hd,hB6⟩;have hF6:Below X.heap.size X (w6.alloc (.cells #[.string d] 9)):=Below.onto hF (Below.onto hB6 ((Grown.refl w6).alloc _).below);obtain ⟨v0,v3,v5,v4⟩:=HOB.out _ hF6;have hW6:Below W.heap.size W (w6.alloc (.cells #[.string d] 9)):=Below.onto HX.out hF6;have hrd2:=hrd _ hW6 d hd;clear hrd;have HD:Aside (d.data.toList=q):=hd;clear hd))
     go_ret2
     rw [HE.out.1,if_neg (by simp),if_neg (show ¬ R<0 by omega),if_pos hz1]
     exact yE.no _ hz1 hW6
theorem yE.parts {base S:Nat} {s:Sy} {L:Lay6} {err:Int} {s':Sy} {an:An} {W Y w':World} {r:Ending} (hB:Below W.heap.size W Y) (h:yE base S s L err s' an Y r w'):∃ v,r=.returned (.tuple #[v,.int .i64 err])∧Aside (yE base S s L err s' an W (.returned (.tuple #[v,.int .i64 err])) w'):=by
 obtain ⟨v,e,hB2,h2⟩:=h
 exact ⟨v,e,v,rfl,Below.onto hB hB2,h2⟩
theorem uG.parts {base S:Nat} {s:Sy} {L:Lay6} {s':Sy} {an:An} {W Y w':World} {r:Ending} (hB:Below W.heap.size W Y) (h:uG base S s L s' an Y r w'):∃ v,r=.returned v∧Aside (yE base S s L 0 s' an W (.returned (.tuple #[v,.int .i64 0])) w'):=by
 obtain ⟨g,cap,e,hB2,h2,h3⟩:=h
 exact ⟨_,e,_,rfl,Below.onto hB hB2,fun _=>⟨g,cap,rfl,h2,h3⟩⟩
namespace PM
noncomputable def Sy.onR (s:Sy) (ow k:Nat) (ck cn cm:Int) (cx:ByteArray) (ca:Bool) (j:Nat) (op:Opn) (f:Fl):Int × Sy × An :=
 if ck=2 then (0,(s.dS (ow*8+k) none).setF op.file { f with locks:=LK.KM.dI f.locks ow },ans 0 ⟨#[]⟩)
 else if ck=13 then (if s.aV ow<0 then 5 else 0,s.dS (ow*8+(s.aV ow).toNat) (some j),ans (s.aV ow) ⟨#[]⟩)
 else if ck=5 then (pJ cn,s.setO j { op with pos:=cn },ans 0 ⟨#[]⟩)
 else if ck=14 then ((bG false f.locks ⟨ow,cn,cm,ca⟩).1,s.setF op.file { f with locks:=(bG false f.locks ⟨ow,cn,cm,ca⟩).2 },ans 0 ⟨#[]⟩)
 else if ck=15 then ((bG true f.locks ⟨ow,cn,cm,ca⟩).1,s.setF op.file { f with locks:=(bG true f.locks ⟨ow,cn,cm,ca⟩).2 },ans 0 ⟨#[]⟩)
 else if ck=3 then (wI op cn,s.setO j { op with pos:=op.pos+(gI (s.textOf f) op.pos cn).size },ans (gI (s.textOf f) op.pos cn).size (gI (s.textOf f) op.pos cn))
 else if ck=4 then (s.wu op f cx,s.wrDo j op f cx,ans cx.size ⟨#[]⟩)
 else (s.qW op f cn,s.eB op.file f (dA (s.textOf f) cn),ans 0 ⟨#[]⟩)
structure Sy.fB (s:Sy) (n j:Nat) (op:Opn) (f:Fl):Prop where
 hfd:s.fds n=some j
 hop:s.opens[j]?=some op
 hfl:s.files[op.file]?=some f
def Sy.Calm (s:Sy):Prop:=∀ n j op f,s.fB n j op f→0≤op.pos∧op.pos≤1000∧f.path.size≤80∧(s.textOf f).size≤100∧f.locks.length≤1000
end PM
set_option maxRecDepth 100000 in
set_option maxHeartbeats 4000000 in
theorem Ai {base:Nat} {W:World} {S:Nat} {s:Sy} {L:Lay6} (h:aj base W S s L) (hg:Gl base W) (o k:Nat) (ho4:o<4) (hk8:k<8) (ck cn cm:Int) (cp ct cx:ByteArray) (ca:Bool) (hx:cx.size≤140737488355328) (j:Nat) (op:Opn) (f:Fl) (hl:s.fB (o*8+k) j op f) (hc:s.Calm) :
  Calls Tryz.prog 91 #[.pointer (some ⟨S,0,none⟩),.agg #[.int .i64 ck,.int .i64 o,.int .i64 k,.int .i64 cn,.int .i64 cm,.string cp,.string ct,.string cx,.bool ca]] W (fun r w'=>yE base S s L (s.onR o k ck cn cm cx ca j op f).1 (s.onR o k ck cn cm cx ca j op f).2.1 (s.onR o k ck cn cm cx ca j op f).2.2 W r w'):=by
 obtain ⟨hfd,hop,hf⟩:=hl
 obtain ⟨hp0,hp1,hfp,hft,hlk⟩:=hc _ _ _ _ ⟨hfd,hop,hf⟩
 obtain ⟨X,hX⟩:∃ X,W.alloc (.cells #[.int .i64 ck,.int .i64 o,.int .i64 k,.int .i64 cn,.int .i64 cm,.string cp,.string ct,.string cx,.bool ca] 50)=X:=⟨_,rfl⟩
 have hBX:Below W.heap.size W X:=by rw [← hX];exact ((Grown.refl W).alloc _).below
 have hbk:X.heap[W.heap.size]?=some (.cells #[.int .i64 ck,.int .i64 o,.int .i64 k,.int .i64 cn,.int .i64 cm,.string cp,.string ct,.string cx,.bool ca] 50):=by rw [← hX];exact heap_alloc_last W _
 have hbase:base≤W.heap.size:=Nat.le_trans h.base.1 (Nat.le_of_lt h.lt)
 have hk:=h.kept hBX
 have hgX:=hg.kept (hBX.mono hbase)
 have k0:X.cell? ⟨W.heap.size,0,none⟩=some (.int .i64 ck):=by simp [World.cell?,hbk]
 have k1:X.cell? ⟨W.heap.size,1,none⟩=some (.int .i64 o):=by simp [World.cell?,hbk]
 have k2:X.cell? ⟨W.heap.size,2,none⟩=some (.int .i64 k):=by simp [World.cell?,hbk]
 have k3:X.cell? ⟨W.heap.size,3,none⟩=some (.int .i64 cn):=by simp [World.cell?,hbk]
 have k4:X.cell? ⟨W.heap.size,4,none⟩=some (.int .i64 cm):=by simp [World.cell?,hbk]
 have k5:X.cell? ⟨W.heap.size,5,none⟩=some (.string cp):=by simp [World.cell?,hbk]
 have k6:X.cell? ⟨W.heap.size,6,none⟩=some (.string ct):=by simp [World.cell?,hbk]
 have k7:X.cell? ⟨W.heap.size,7,none⟩=some (.string cx):=by simp [World.cell?,hbk]
 have k8:X.cell? ⟨W.heap.size,8,none⟩=some (.bool ca):=by simp [World.cell?,hbk]
 have c3:=hk.fd (k:=o*8+k) (by omega)
 have c3:X.cell? ⟨S,3+o*8+k,none⟩=some (.pointer (some ⟨L.ob j,0,none⟩)):=by rw [Nat.add_assoc,hfd] at *;exact c3
 have ho4z:(o:Int)<4:=by omega
 have hk8z:(k:Int)<8:=by omega
 have d1:decide ((k:Int)<0)=false:=by simp
 have d2:decide ((8:Int)≤(k:Int))=false:=by simpa using hk8z
 have HX:Aside (W.alloc (.cells #[.int .i64 ck,.int .i64 o,.int .i64 k,.int .i64 cn,.int .i64 cm,.string cp,.string ct,.string cx,.bool ca] 50)=X):=hX
 have hjl:=(List.getElem?_eq_some_iff.1 hop).1
 have HB:Aside (Below W.heap.size W X):=hBX
 by_cases e2:ck=2
 ·subst e2
  have hF:=fun Y (hY:Below X.heap.size X Y)=>D5 (hk.kept hY) o k j o op f ho4 hk8 hfd hop hf hlk
  have HV:Aside (s.onR o k 2 cn cm cx ca j op f=s.onR o k 2 cn cm cx ca j op f):=rfl
  rw [show s.onR o k 2 cn cm cx ca j op f=_ from by unfold Sy.onR;rw [if_pos rfl]]
  clear h hg hk hgX hop hf hfd hbk hX hBX hc hjl
  go_enter Tryz.func91,Tryz.ntmps91
  go_wp2
  rw [HX.out]
  go_quiet (fail)
  go_wp2
  go_quiet (fail)
  go_wp2
  go_quiet (fail)
  go_wp2_with (go_at_call 137;refine (hF _ (below_drewN (Below.refl _ _) _)).mono ?_;clear hF;intro r w5 hS;obtain ⟨v,rfl,HS⟩:=hS.parts (W:=W) (Below.onto HB.out (below_drewN (Below.refl _ _) _));clear hS)
  go_ret2
  exact HS.out
 by_cases e13:ck=13
 ·subst e13
  have hF:=fun Y (hY:Below X.heap.size X Y)=>Cc (hk.kept hY) o j ho4 hjl
  have HV:Aside (s.onR o k 13 cn cm cx ca j op f=s.onR o k 13 cn cm cx ca j op f):=rfl
  rw [show s.onR o k 13 cn cm cx ca j op f=_ from by unfold Sy.onR;rw [if_neg (by decide),if_pos rfl]]
  generalize (if s.aV o<0 then (5:Int) else 0)=fe at hF ⊢
  clear h hg hk hgX hop hf hfd hbk hX hBX hc hjl
  go_enter Tryz.func91,Tryz.ntmps91
  go_wp2
  rw [HX.out]
  go_quiet (fail)
  go_wp2
  go_quiet (fail)
  go_wp2
  go_quiet (fail)
  go_wp2_with (go_at_call 138;refine (hF _ (below_drewN (Below.refl _ _) _)).mono ?_;clear hF;intro r w5 hS;obtain ⟨v,rfl,HS⟩:=hS.parts (W:=W) (Below.onto HB.out (below_drewN (Below.refl _ _) _));clear hS)
  go_ret2
  exact HS.out
 by_cases e5:ck=5
 ·subst e5
  have hF:=fun Y (hY:Below X.heap.size X Y)=>G5 (hk.kept hY) cn j op hop
  have HV:Aside (s.onR o k 5 cn cm cx ca j op f=s.onR o k 5 cn cm cx ca j op f):=rfl
  rw [show s.onR o k 5 cn cm cx ca j op f=_ from by unfold Sy.onR;rw [if_neg (by decide),if_neg (by decide),if_pos rfl]]
  clear h hg hk hgX hop hf hfd hbk hX hBX hc hjl
  go_enter Tryz.func91,Tryz.ntmps91
  go_wp2
  rw [HX.out]
  go_quiet (fail)
  go_wp2
  go_quiet (fail)
  go_wp2
  go_quiet (fail)
  go_wp2_with (go_at_call 139;refine (hF _ (below_drewN (Below.refl _ _) _)).mono ?_;clear hF;intro r w5 hS;obtain ⟨v,rfl,HS⟩:=hS.parts (W:=W) (Below.onto HB.out (below_drewN (Below.refl _ _) _));clear hS)
  go_ret2
  exact HS.out
 by_cases e14:ck=14
 ·subst e14
  have hF:=fun Y (hY:Below X.heap.size X Y)=>uy (hk.kept hY) 141 (enters_of Tryz.func141 (by kernel_rfl) rfl) false (fun Y l x p cap a b c=>LK.Ht l x p cap Y a b c) j op f hop hf hlk 14 o k cn cm cp ct cx ca
  have HV:Aside (s.onR o k 14 cn cm cx ca j op f=s.onR o k 14 cn cm cx ca j op f):=rfl
  rw [show s.onR o k 14 cn cm cx ca j op f=_ from by unfold Sy.onR;rw [if_neg (by decide),if_neg (by decide),if_neg (by decide),if_pos rfl]]
  clear h hg hk hgX hop hf hfd hbk hX hBX hc hjl
  go_enter Tryz.func91,Tryz.ntmps91
  go_wp2
  rw [HX.out]
  go_quiet (fail)
  go_wp2
  go_quiet (fail)
  go_wp2
  go_quiet (fail)
  go_wp2_with (go_at_call 140;refine (hF _ (below_drewN (Below.refl _ _) _)).mono ?_;clear hF;intro r w5 hS;obtain ⟨v,rfl,HS⟩:=hS.parts (W:=W) (Below.onto HB.out (below_drewN (Below.refl _ _) _));clear hS)
  go_ret2
  exact HS.out
 by_cases e15:ck=15
 ·subst e15
  have hF:=fun Y (hY:Below X.heap.size X Y)=>uy (hk.kept hY) 142 (enters_of Tryz.func142 (by kernel_rfl) rfl) true (fun Y l x p cap a b c=>LK.Gh l x p cap Y a b c) j op f hop hf hlk 15 o k cn cm cp ct cx ca
  have HV:Aside (s.onR o k 15 cn cm cx ca j op f=s.onR o k 15 cn cm cx ca j op f):=rfl
  rw [show s.onR o k 15 cn cm cx ca j op f=_ from by unfold Sy.onR;rw [if_neg (by decide),if_neg (by decide),if_neg (by decide),if_neg (by decide),if_pos rfl]]
  clear h hg hk hgX hop hf hfd hbk hX hBX hc hjl
  go_enter Tryz.func91,Tryz.ntmps91
  go_wp2
  rw [HX.out]
  go_quiet (fail)
  go_wp2
  go_quiet (fail)
  go_wp2
  go_quiet (fail)
  go_wp2_with (go_at_call 140;refine (hF _ (below_drewN (Below.refl _ _) _)).mono ?_;clear hF;intro r w5 hS;obtain ⟨v,rfl,HS⟩:=hS.parts (W:=W) (Below.onto HB.out (below_drewN (Below.refl _ _) _));clear hS)
  go_ret2
  exact HS.out
 by_cases e3:ck=3
 ·subst e3
  have hF:=fun Y (hY:Below X.heap.size X Y)=>GQ (hk.kept hY) j op f cn hop hf hp0 hp1 hfp hft
  have HV:Aside (s.onR o k 3 cn cm cx ca j op f=s.onR o k 3 cn cm cx ca j op f):=rfl
  rw [show s.onR o k 3 cn cm cx ca j op f=_ from by unfold Sy.onR;rw [if_neg (by decide),if_neg (by decide),if_neg (by decide),if_neg (by decide),if_neg (by decide),if_pos rfl]]
  clear h hg hk hgX hop hf hfd hbk hX hBX hc hjl
  go_enter Tryz.func91,Tryz.ntmps91
  go_wp2
  rw [HX.out]
  go_quiet (fail)
  go_wp2
  go_quiet (fail)
  go_wp2
  go_quiet (fail)
  go_wp2_with (go_at_call 143;refine (hF _ (below_drewN (Below.refl _ _) _)).mono ?_;clear hF;intro r w5 hS;obtain ⟨v,rfl,HS⟩:=hS.parts (W:=W) (Below.onto HB.out (below_drewN (Below.refl _ _) _));clear hS)
  go_ret2
  exact HS.out
 by_cases e4:ck=4
 ·subst e4
  have hF:=fun Y (hY:Below X.heap.size X Y)=>zN (hk.kept hY) (hgX.kept (hY.mono (Nat.le_trans hbase hBX.size))) j op f cx hx hop hf hp0 hp1 hfp hft
  have HV:Aside (s.onR o k 4 cn cm cx ca j op f=s.onR o k 4 cn cm cx ca j op f):=rfl
  rw [show s.onR o k 4 cn cm cx ca j op f=_ from by unfold Sy.onR;rw [if_neg (by decide),if_neg (by decide),if_neg (by decide),if_neg (by decide),if_neg (by decide),if_neg (by decide),if_pos rfl]]
  clear h hg hk hgX hop hf hfd hbk hX hBX hc hjl
  go_enter Tryz.func91,Tryz.ntmps91
  go_wp2
  rw [HX.out]
  go_quiet (fail)
  go_wp2
  go_quiet (fail)
  go_wp2
  go_quiet (fail)
  go_wp2_with (go_at_call 144;refine (hF _ (below_drewN (Below.refl _ _) _)).mono ?_;clear hF;intro r w5 hS;obtain ⟨v,rfl,HS⟩:=hS.parts (W:=W) (Below.onto HB.out (below_drewN (Below.refl _ _) _));clear hS)
  go_ret2
  exact HS.out
 have hF:=fun Y (hY:Below X.heap.size X Y)=>Dw (hk.kept hY) (hgX.kept (hY.mono (Nat.le_trans hbase hBX.size))) j op f cn hop hf hfp hft
 rw [show s.onR o k ck cn cm cx ca j op f=_ from by unfold Sy.onR;rw [if_neg e2,if_neg e13,if_neg e5,if_neg e14,if_neg e15,if_neg e3,if_neg e4]]
 have q2:(ck == 2)=false:=by simpa using e2
 have q13:(ck == 13)=false:=by simpa using e13
 have q5:(ck == 5)=false:=by simpa using e5
 have q14:(ck == 14)=false:=by simpa using e14
 have q15:(ck == 15)=false:=by simpa using e15
 have q3:(ck == 3)=false:=by simpa using e3
 have q4:(ck == 4)=false:=by simpa using e4
 clear h hg hk hgX hop hf hfd hbk hX hBX hc hjl e2 e13 e5 e14 e15 e3 e4
 go_enter Tryz.func91,Tryz.ntmps91
 go_wp2
 rw [HX.out]
 go_quiet (fail)
 go_wp2
 go_quiet (fail)
 go_wp2
 go_quiet (fail)
 go_wp2_with (go_at_call 145;refine (hF _ (below_drewN (Below.refl _ _) _)).mono ?_;clear hF;intro r w5 hS;obtain ⟨v,rfl,HS⟩:=hS.parts (W:=W) (Below.onto HB.out (below_drewN (Below.refl _ _) _));clear hS)
 go_ret2
 exact HS.out
end Go.Proofs.YthfeoiffoeagkaaGreatDoor
