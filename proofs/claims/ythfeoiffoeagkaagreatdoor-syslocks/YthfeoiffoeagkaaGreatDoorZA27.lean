/-
  (*sys.system).rename.
-/
import Derived.Test.YthfeoiffoeagkaaGreatDoorZA26
import Derived.Test.YthfeoiffoeagkaaGreatDoorShelfS
namespace Go.Proofs.YthfeoiffoeagkaaGreatDoor
open Go.RowKit PM Go.Sort
set_option linter.unusedVariables false
theorem Di (ms:List Ent) (hd:ms.Pairwise fun a b=>a.p≠b.p):(lu [] ms).Perm ms∧Sorted (lu [] ms):=by
 obtain ⟨h1,h2⟩:=qA ms [] List.Pairwise.nil hd
 refine ⟨?_,h1⟩
 have hn1:(lu [] ms).Nodup:=(oF h1).imp fun h e=>h (by rw [e])
 have hn2:ms.Nodup:=hd.imp fun h e=>h (by rw [e])
 exact (List.perm_ext_iff_of_nodup hn1 hn2).2 fun x=>by rw [h2 x];simp
theorem ER {t:List Ent} {frm dst:ByteArray} (h:MvOK t frm dst):∃ l:List Ent,l.Perm (bE t frm dst)∧l.Pairwise fun a b=>¬ cmp b.p a.p<0:=by
 obtain ⟨h1,h2⟩:=Di _ h.distinct
 refine ⟨_,h1,h2.imp fun {a b} hab hc=>?_⟩
 exact oo hab hc
namespace PM
def Sy.iE (s:Sy) (fr dst:ByteArray):List Ent:=if fr.data.toList=dst.data.toList then s.up else fV s.up (au s.lows).2 s.seen fr dst
noncomputable def Sy.jP (s:Sy) (a b:ByteArray):Int :=
 if ¬ (aP s.seen false a.data.toList).1=0 then (aP s.seen false a.data.toList).1
 else if ¬ (aP s.seen false b.data.toList).1=0 then (aP s.seen false b.data.toList).1
 else if s.rmQ a=[]∨s.rmQ b=[] then 8
 else aF (ay s.all).1 (bg s.seen (baL (s.rmQ a)) (baL (s.rmQ b))) (s.iE (baL (s.rmQ a)) (baL (s.rmQ b))).length
noncomputable def Sy.lC (s:Sy) (a b:ByteArray):Sy:=(s.renamed (baL (s.rmQ a)) (baL (s.rmQ b))).aJ (s.iE (baL (s.rmQ a)) (baL (s.rmQ b))) s.lows
end PM
theorem xC {s:Sy} {fr dst:ByteArray} (h:aF (ay s.all).1 (bg s.seen fr dst) (s.iE fr dst).length=0):(ay (s.iE fr dst::s.lows)).1=0∧(fr.data.toList=dst.data.toList→aB (s.iE fr dst::s.lows)=s.seen)∧(fr.data.toList≠dst.data.toList→(aB (s.iE fr dst::s.lows)).Perm (bE s.seen fr dst)∧(aB (s.iE fr dst::s.lows)).Pairwise fun a b=>¬ cmp b.p a.p<0):=by
 obtain ⟨h0,h1,h2⟩:=jA.1 h
 obtain ⟨hl5,hz,_⟩:=eG.1 h0
 by_cases hq:fr.data.toList=dst.data.toList
 ·rw [Sy.iE,if_pos hq]
  exact ⟨h0,fun _=>rfl,fun h=>absurd hq h⟩
 ·have hs:s.seen=(au s.all).2:=by rw [Sy.seen,aB,if_pos h0]
  have hmg:au (s.up::s.lows)=(0,s.seen):=by rw [hs];exact Prod.ext hz rfl
  rw [Sy.iE,if_neg hq] at h2 ⊢
  obtain ⟨l,hp,hw⟩:=ER (sO h1 hq)
  obtain ⟨e1,e2⟩:=union_right (by rw [Sy.all,List.length_cons] at hl5;rw [List.length_cons];exact hl5) ((vL hmg h1 hq).2 h2 l hp hw)
  exact ⟨by rw [e1],fun e=>absurd e hq,fun _=>by rw [e2];exact ⟨hp,hw⟩⟩
theorem BD {base:Nat} {W:World} {S:Nat} {s:Sy} {L:Lay6} (h:aj base W S s L) (hg:Gl base W) {Wf:World} (hB:Below W.heap.size W Wf) {B0 Bf B1 B2:Nat} (l0:W.heap.size≤B0) (lf:W.heap.size≤Bf) (l1:W.heap.size≤B1) (l2:W.heap.size≤B2) (hb0:Wf.cell? ⟨B0,0,none⟩=some (.pointer (some ⟨S,0,none⟩))) {fr q:ByteArray} (hfr:fr.size≤80) (hq80:q.size≤80) (hbf:Wf.cell? ⟨Bf,0,none⟩=some (.string fr)) (hbq:Wf.cell? ⟨B1,0,none⟩=some (.string q)) {y:Lay} {lo:List Lay} {pl:Option Addr} {cl:Nat} (hb1:fD Wf B2 y lo pl cl) (hU:St (Sp S s L) Wf (fun X=>UnOK X y lo pl cl)) {up:List Ent} {lows:List (List Ent)} (hy:y.es=up) (hl:lo.map (·.es)=lows) (h0:(ay (up::lows)).1=0) (hsz:∀ i∈s.reach,∀ f,s.files[i]?=some f→f.path.size≤80) :
  yE base S s L 0 ((s.renamed fr q).aJ up lows) (ans 0 ⟨#[]⟩) W (.returned (.tuple #[.func (.func 132) #[] #[.pointer (some ⟨Bf,0,none⟩),.pointer (some ⟨B1,0,none⟩),.pointer (some ⟨B0,0,none⟩),.pointer (some ⟨B2,0,none⟩)],.int .i64 0])) Wf:=by
 subst hy hl
 exact ⟨_,rfl,hB,fun _=>⟨_,_,rfl,enters_of Tryz.func132 (by kernel_rfl) rfl,GY (h.kept hB) (hg.kept (hB.mono (Nat.le_trans h.base.1 (Nat.le_of_lt h.lt)))) B0 B1 B2 Bf hb0 fr q hfr hq80 hbf (h.exNe lf) hbq (h.exNe l0) (h.exNe l1) (h.exNe l2) y lo pl cl hb1 hU h0 hsz⟩⟩
set_option maxRecDepth 100000 in
set_option maxHeartbeats 4000000 in
theorem xU {base:Nat} {W:World} {S:Nat} {s:Sy} {L:Lay6} (h:aj base W S s L) (hg:Gl base W) (fp tp:ByteArray) (hw:fp.size≤maxLen) (hw2:tp.size≤maxLen) (hsz:∀ i∈s.reach,∀ f,s.files[i]?=some f→f.path.size≤80) :
  Calls Tryz.prog 88 #[.pointer (some ⟨S,0,none⟩),.string fp,.string tp] W (yE base S s L (s.jP fp tp) (s.lC fp tp) (ans 0 ⟨#[]⟩) W):=by
 obtain ⟨W1,hW1⟩:∃ W1,W.alloc (.cells #[.pointer (some ⟨S,0,none⟩)] 76)=W1:=⟨_,rfl⟩
 have hB1:Below W.heap.size W W1:=by rw [← hW1];exact ((Grown.refl W).alloc _).below
 have hs1:W1.heap.size=W.heap.size+1:=by rw [← hW1];simp
 have hbase:base≤W.heap.size:=Nat.le_trans h.base.1 (Nat.le_of_lt h.lt)
 have hl2:∀ Y,Below W.heap.size W Y→Calls Tryz.prog 121 #[.pointer (some ⟨S,0,none⟩),.string tp,.bool false] Y (lI (aP s.seen false tp.data.toList).1 (aP s.seen false tp.data.toList).2 Y):=fun Y hY=>by
  obtain ⟨m,hm⟩:=(hg.kept (hY.mono hbase)).2
  exact kG s.seen tp false Y S L.ps L.sc m (h.kept hY).cells.2.2 (h.kept hY).data.now.seen (aK s.all) hw2 hm
 have hld:Calls Tryz.prog 121 #[.pointer (some ⟨S,0,none⟩),.string fp,.bool false] W1 (lI (aP s.seen false fp.data.toList).1 (aP s.seen false fp.data.toList).2 W1):=by
  obtain ⟨m,hm⟩:=(hg.kept (hB1.mono hbase)).2
  exact kG s.seen fp false W1 S L.ps L.sc m (h.kept hB1).cells.2.2 (h.kept hB1).data.now.seen (aK s.all) hw hm
 have HA:Aside (aj base W S s L∧Gl base W∧Below W.heap.size W W1∧(∀ i∈s.reach,∀ f,s.files[i]?=some f→f.path.size≤80)):=⟨h,hg,hB1,hsz⟩
 obtain ⟨e,he⟩:∃ e,e=(aP s.seen false fp.data.toList).1:=⟨_,rfl⟩
 obtain ⟨q,hq⟩:∃ q,q=s.rmQ fp:=⟨_,rfl⟩
 obtain ⟨e',he'⟩:∃ e',e'=(aP s.seen false tp.data.toList).1:=⟨_,rfl⟩
 obtain ⟨q',hq'⟩:∃ q',q'=s.rmQ tp:=⟨_,rfl⟩
 have HE:Aside (e=(aP s.seen false fp.data.toList).1∧q=s.rmQ fp∧e'=(aP s.seen false tp.data.toList).1∧q'=s.rmQ tp):=⟨he,hq,he',hq'⟩
 have hq80:q.length≤80:=by rw [hq];exact kH _ _ _
 have hq80':q'.length≤80:=by rw [hq'];exact kH _ _ _
 rw [← he,show (aP s.seen false fp.data.toList).2=q from hq.symm] at hld
 rw [← he',show (aP s.seen false tp.data.toList).2=q' from hq'.symm] at hl2
 rw [← hW1] at hld
 have HW1:Aside (W.alloc (.cells #[.pointer (some ⟨S,0,none⟩)] 76)=W1):=hW1
 have HAE:Aside (s.jP fp tp=if ¬ e=0 then e else if ¬ e'=0 then e' else if q=[]∨q'=[] then 8 else aF (ay s.all).1 (bg s.seen (baL q) (baL q')) (s.iE (baL q) (baL q')).length):=by
  show s.jP fp tp=_
  rw [Sy.jP,he,he',hq,hq']
 clear he hq he' hq' h hg hB1 hW1 hsz
 generalize s.jP fp tp=ae at HAE ⊢
 by_cases h0:e=0
 ·subst h0
  by_cases h0':e'=0
  ·subst h0'
   have HAE2:Aside (ae=if q=[]∨q'=[] then 8 else aF (ay s.all).1 (bg s.seen (baL q) (baL q')) (s.iE (baL q) (baL q')).length):=by show ae=_;rw [HAE.out];simp
   by_cases hqn:q=[]
   ·have HQN:Aside (q=[]):=hqn
    clear hqn
    go_enter Tryz.func88,Tryz.ntmps88
    go_wp2_with (first | (go_at_call 121;refine hld.mono ?_;clear hld;rintro r w3 ⟨d,rfl,hd,hB3⟩;rw [HW1.out] at hB3;have hX1:Below W.heap.size W (w3.alloc (.cells #[.string d] 9)):=((Below.onto HA.out.2.2.1 hB3).alloc (Below.onto HA.out.2.2.1 hB3).size _);have hld:=hl2 _ hX1;clear hl2;have b0:w3.cell? ⟨W.heap.size,0,none⟩=some (.pointer (some ⟨S,0,none⟩)):=(hB3.cell (p:=⟨W.heap.size,0,none⟩) (by show W.heap.size<_;omega)).trans (by rw [← HW1.out];simp);have b0':=Lib.cell?_alloc_some (.cells #[.string d] 9) b0;have DD:Aside ((w3.alloc (.cells #[.string d] 9)).cell? ⟨w3.heap.size,0,none⟩=some (.string d)):=(by show _=_;simp);have hld2:=hld;clear hld;have hde:d=⟨#[]⟩:=dz (hd.trans HQN.out);clear hd;subst hde) | (go_at_call 121;refine hld2.mono ?_;clear hld2;rintro r w5 ⟨g,rfl,hgd,hB5⟩;have d0:=(hB5.cell (p:=⟨w3.heap.size,0,none⟩) (by simp)).trans DD.out;have d0':=Lib.cell?_alloc_some (.cells #[.string g] 9) d0))
    go_ret2
    rw [HAE2.out,if_pos (.inl HQN.out)]
    have hB:=Below.onto hX1 hB5
    exact yE.no _ (by decide) (hB.alloc hB.size _)
   by_cases hqn':q'=[]
   ·have HQN:Aside (q'=[]):=hqn'
    clear hqn'
    go_enter Tryz.func88,Tryz.ntmps88
    go_wp2_with (first | (go_at_call 121;refine hld.mono ?_;clear hld;rintro r w3 ⟨d,rfl,hd,hB3⟩;rw [HW1.out] at hB3;have hX1:Below W.heap.size W (w3.alloc (.cells #[.string d] 9)):=((Below.onto HA.out.2.2.1 hB3).alloc (Below.onto HA.out.2.2.1 hB3).size _);have hld:=hl2 _ hX1;clear hl2;have b0:w3.cell? ⟨W.heap.size,0,none⟩=some (.pointer (some ⟨S,0,none⟩)):=(hB3.cell (p:=⟨W.heap.size,0,none⟩) (by show W.heap.size<_;omega)).trans (by rw [← HW1.out];simp);have b0':=Lib.cell?_alloc_some (.cells #[.string d] 9) b0;have DD:Aside ((w3.alloc (.cells #[.string d] 9)).cell? ⟨w3.heap.size,0,none⟩=some (.string d)):=(by show _=_;simp);have hld2:=hld;clear hld;have hde:d.toList.isEmpty=false:=(by rw [Lib.toList_data,hd];simpa using hqn)) | (go_at_call 121;refine hld2.mono ?_;clear hld2;rintro r w5 ⟨g,rfl,hgd,hB5⟩;have d0:=(hB5.cell (p:=⟨w3.heap.size,0,none⟩) (by simp)).trans DD.out;have d0':=Lib.cell?_alloc_some (.cells #[.string g] 9) d0;have hge:g=⟨#[]⟩:=dz (hgd.trans HQN.out);clear hgd;subst hge))
    go_ret2
    rw [HAE2.out,if_pos (.inr HQN.out)]
    have hB:=Below.onto hX1 hB5
    exact yE.no _ (by decide) (hB.alloc hB.size _)
   have hae0:ae=aF (ay s.all).1 (bg s.seen (baL q) (baL q')) (s.iE (baL q) (baL q')).length:=by rw [HAE2.out,if_neg (by simp [hqn,hqn'])]
   have HAE3:Aside (ae=aF (ay s.all).1 (bg s.seen (baL q) (baL q')) (s.iE (baL q) (baL q')).length):=hae0
   clear hae0 HAE2
   go_enter Tryz.func88,Tryz.ntmps88
   go_wp2_with (first | (go_at_call 121;refine hld.mono ?_;clear hld;rintro r w3 ⟨d,rfl,hd,hB3⟩;rw [HW1.out] at hB3;have hX1:Below W.heap.size W (w3.alloc (.cells #[.string d] 9)):=((Below.onto HA.out.2.2.1 hB3).alloc (Below.onto HA.out.2.2.1 hB3).size _);have hld:=hl2 _ hX1;clear hl2;have b0:w3.cell? ⟨W.heap.size,0,none⟩=some (.pointer (some ⟨S,0,none⟩)):=(hB3.cell (p:=⟨W.heap.size,0,none⟩) (by show W.heap.size<_;omega)).trans (by rw [← HW1.out];simp);have b0':=Lib.cell?_alloc_some (.cells #[.string d] 9) b0;have DD:Aside ((w3.alloc (.cells #[.string d] 9)).cell? ⟨w3.heap.size,0,none⟩=some (.string d)):=(by show _=_;simp);have hld2:=hld;clear hld;have hde:d.toList.isEmpty=false:=(by rw [Lib.toList_data,hd];simpa using hqn)) | (go_at_call 121;refine hld2.mono ?_;clear hld2;rintro r w5 ⟨g,rfl,hgd,hB5⟩;have hge:g.toList.isEmpty=false:=(by rw [Lib.toList_data,hgd];simpa using hqn');have d0:=(hB5.cell (p:=⟨w3.heap.size,0,none⟩) (by simp)).trans DD.out;have d0':=Lib.cell?_alloc_some (.cells #[.string g] 9) d0))
   have hl3:W.heap.size+1≤w3.heap.size:=by have:=hB3.size;omega
   have hl5:w3.heap.size+1≤w5.heap.size:=by have:=hB5.size;simpa using this
   have nb:Below w5.heap.size w5 (w5.alloc (.cells #[.string g] 9)):=((Grown.refl w5).alloc _).below
   have hXX:=Below.onto hX1 (Below.onto hB5 nb)
   have bx0:(w5.alloc (.cells #[.string g] 9)).cell? ⟨W.heap.size,0,none⟩=some (.pointer (some ⟨S,0,none⟩)):=(nb.cell (p:=⟨W.heap.size,0,none⟩) (by show W.heap.size<_;omega)).trans ((hB5.cell (p:=⟨W.heap.size,0,none⟩) (by show W.heap.size<_;simp;omega)).trans (Lib.cell?_alloc_some _ b0))
   have bx1:(w5.alloc (.cells #[.string g] 9)).cell? ⟨w3.heap.size,0,none⟩=some (.string d):=(nb.cell (p:=⟨w3.heap.size,0,none⟩) (by show w3.heap.size<_;omega)).trans d0
   have bx2:(w5.alloc (.cells #[.string g] 9)).cell? ⟨w5.heap.size,0,none⟩=some (.string g):=by simp
   obtain ⟨Bp,hBp⟩:∃ Bp,Bp=w3.heap.size:=⟨_,rfl⟩
   obtain ⟨Bq,hBq⟩:∃ Bq,Bq=w5.heap.size:=⟨_,rfl⟩
   rw [← hBp] at bx1 hl3 hl5 ⊢
   rw [← hBq] at bx2 hl5 ⊢
   have hDX:Bp<(w5.alloc (.cells #[.string g] 9)).heap.size:=block_lt_of_cell bx1
   have hQX:Bq<(w5.alloc (.cells #[.string g] 9)).heap.size:=block_lt_of_cell bx2
   have hPX:W.heap.size<(w5.alloc (.cells #[.string g] 9)).heap.size:=block_lt_of_cell bx0
   generalize w5.alloc (.cells #[.string g] 9)=X at hXX bx0 bx1 bx2 hDX hQX hPX ⊢
   have HX:Aside (Below W.heap.size W X):=hXX
   clear nb hB3 hB5 hBp hBq hXX hX1 b0 d0
   have b0:=bx0
   have p0:=bx1
   have p1:=bx2
   clear bx0 bx1 bx2
   have hkX:=HA.out.1.kept HX.out
   obtain ⟨s0,s1,s2⟩:=hkX.cells
   have hSX:S<X.heap.size:=hkX.lt
   clear hkX s2
   have hd80:d.size≤80:=by have:=szl d;rw [hd] at this;omega
   have hg80:g.size≤80:=by have:=szl g;rw [hgd] at this;omega
   obtain ⟨yn,hyn⟩:∃ yn,yn=L.y.es.length:=⟨_,rfl⟩
   obtain ⟨ln,hln⟩:∃ ln,ln=L.lo.length:=⟨_,rfl⟩
   have HN:Aside (yn=L.y.es.length∧ln=L.lo.length):=⟨hyn,hln⟩
   rw [← hyn] at s0
   rw [← hln] at s1
   have n1:=World.new_ne X ⟨S,0,none⟩ s0
   have n2:=World.new_ne X ⟨W.heap.size,0,none⟩ b0
   have n3:=World.new_ne X ⟨Bp,0,none⟩ p0
   have n4:=World.new_ne X ⟨Bq,0,none⟩ p1
   have hbd:baL q=d:=dz (by rw [hd];simp [baL])
   have hbg:baL q'=g:=dz (by rw [hgd];simp [baL])
   have hae:ae=aF (ay s.all).1 (bg s.seen d g) (s.iE d g).length:=by rw [HAE3.out,hbd,hbg]
   have hpt:∀ Y,Below X.heap.size X Y→Calls Tryz.prog 131 #[.agg #[.slice L.y.ad yn L.y.cap,.slice L.pl ln L.cl],.string d,.string g] Y (PutP Y ae (if ae=0 then s.iE d g else []) (if ae=0 then s.lows else [])):=fun Y hY=>by
    obtain ⟨m',hm'⟩:=(HA.out.2.1.kept ((Below.onto HX.out hY).mono hbase)).2
    rw [HN.out.1,HN.out.2]
    refine (xX L.y L.lo m' L.pl L.cl d g (by unfold maxLen;omega) (by unfold maxLen;omega) Y ((HA.out.1.kept HX.out).kept hY).data.now.un hm').mono fun r w' h=>?_
    have h:=h.putP
    have ha2:ae=aF (ay (s.up::s.lows)).1 (bg (aB (s.up::s.lows)) d g) (if d.data.toList=g.data.toList then s.up else fV s.up (au s.lows).2 (aB (s.up::s.lows)) d g).length:=hae
    rw [HA.out.1.up,HA.out.1.low,← ha2] at h
    exact h
   have HC:Aside (Below W.heap.size W X∧s.lC fp tp=(s.renamed d g).aJ (s.iE d g) s.lows∧(ae=0→(ay (s.iE d g::s.lows)).1=0)):=⟨HX.out,by rw [Sy.lC,← HE.out.2.1,← HE.out.2.2.2,hbd,hbg],fun h=>(xC (hae.symm.trans h)).1⟩
   clear hae hbd hbg hyn hln
   by_cases hz:ae=0
   ·subst hz
    simp only [if_true] at hpt
    go_region_held3 (fun w'=>w'.cell? ⟨W.heap.size,0,none⟩=some (.pointer (some ⟨S,0,none⟩))∧w'.cell? ⟨S,0,none⟩=some (.slice L.y.ad yn L.y.cap)∧w'.cell? ⟨S,1,none⟩=some (.slice L.pl ln L.cl)∧w'.cell? ⟨Bp,0,none⟩=some (.string d)∧w'.cell? ⟨Bq,0,none⟩=some (.string g)) (go_keep) (first
     | (go_at_call 131;refine (hpt _ (Below.refl _ _).drew).mono ?_;clear hpt;rintro r w7 ⟨y,lo,pl,cl,yn',ln',rfl,H7⟩;have hB7:Below X.heap.size X w7:=((Below.refl _ _).drew).trans H7.out.2.2.2.2.2.1;have z0:=(hB7.cell (p:=⟨W.heap.size,0,none⟩) hPX).trans b0;have z1:=(hB7.cell (p:=⟨S,0,none⟩) hSX).trans s0;have z2:=(hB7.cell (p:=⟨S,1,none⟩) hSX).trans s1;have z3:=(hB7.cell (p:=⟨Bp,0,none⟩) hDX).trans p0;have z4:=(hB7.cell (p:=⟨Bq,0,none⟩) hQX).trans p1)
     | (go_at_call 131;refine (hpt _ (((Below.refl _ _).alloc (Nat.le_refl _) _).drew)).mono ?_;clear hpt;rintro r w7 ⟨y,lo,pl,cl,yn',ln',rfl,H7⟩;have hB7:Below X.heap.size X w7:=(((Below.refl _ _).alloc (Nat.le_refl _) _).drew).trans (H7.out.2.2.2.2.2.1.mono (by rw [show ∀ o,(X.alloc o).drew.heap.size=X.heap.size+1 from fun o=>World.size_alloc X o];omega));have z0:=(hB7.cell (p:=⟨W.heap.size,0,none⟩) hPX).trans b0;have z1:=(hB7.cell (p:=⟨S,0,none⟩) hSX).trans s0;have z2:=(hB7.cell (p:=⟨S,1,none⟩) hSX).trans s1;have z3:=(hB7.cell (p:=⟨Bp,0,none⟩) hDX).trans p0;have z4:=(hB7.cell (p:=⟨Bq,0,none⟩) hQX).trans p1;obtain ⟨⟨x0,x1⟩,⟨f0,f1⟩⟩:=new2 (w:=X) (B:=X.heap.size+1) (Nat.lt_succ_self _) (((Below.refl _ _).drew).trans (H7.out.2.2.2.2.2.1.mono (Nat.le_of_eq (World.size_alloc X _).symm)))))
    ·have HF:Aside (yE base S s L 0 (s.lC fp tp) (ans 0 ⟨#[]⟩) W (.returned (.tuple #[.func (.func 132) #[] #[.pointer (some ⟨Bp,0,none⟩),.pointer (some ⟨Bq,0,none⟩),.pointer (some ⟨W.heap.size,0,none⟩),.pointer (some ⟨w7.heap.size,0,none⟩)],.int .i64 0])) (w7.alloc (.cells #[.slice y.ad yn' y.cap,.slice pl ln' cl] 26))):=by
      obtain ⟨r1,r2,r3,r4,r5,r6,r7⟩:=H7.out
      subst r1 r2
      have hB8:Below w7.heap.size w7 (w7.alloc (.cells #[.slice y.ad y.es.length y.cap,.slice pl lo.length cl] 26)):=((Grown.refl w7).alloc _).below
      have hBX:Below X.heap.size X (w7.alloc (.cells #[.slice y.ad y.es.length y.cap,.slice pl lo.length cl] 26)):=Below.onto hB7 hB8
      have hUB:fD (w7.alloc (.cells #[.slice y.ad y.es.length y.cap,.slice pl lo.length cl] 26)) w7.heap.size y lo pl cl:=⟨by simp,by simp⟩
      have hST:St (Sp S s L) (w7.alloc (.cells #[.slice y.ad y.es.length y.cap,.slice pl lo.length cl] 26)) (fun X=>UnOK X y lo pl cl):=St.on (UnOK.st r5 r7 (fun b hb=>Nat.lt_of_lt_of_le (HA.out.1.cK hb).2 HC.out.1.size)) (Keep.of_below _ hB8)
      have hlB:W.heap.size≤w7.heap.size:=Nat.le_trans HC.out.1.size hB7.size
      rw [HC.out.2.1]
      exact BD HA.out.1 HA.out.2.1 (Below.onto HC.out.1 hBX) (Nat.le_refl _) (by omega) (by omega) hlB ((hBX.cell (p:=⟨W.heap.size,0,none⟩) hPX).trans b0) hd80 hg80 ((hBX.cell (p:=⟨Bp,0,none⟩) hDX).trans p0) ((hBX.cell (p:=⟨Bq,0,none⟩) hQX).trans p1) hUB hST r3 r4 (HC.out.2.2 (by trivial)) HA.out.2.2.2
     clear H7 hB7
     go_wp2
     go_ret2
     exact HF.out
    ·have HF:Aside (yE base S s L 0 (s.lC fp tp) (ans 0 ⟨#[]⟩) W (.returned (.tuple #[.func (.func 132) #[] #[.pointer (some ⟨Bp,0,none⟩),.pointer (some ⟨Bq,0,none⟩),.pointer (some ⟨W.heap.size,0,none⟩),.pointer (some ⟨X.heap.size,0,none⟩)],.int .i64 0])) ((w7.setCell ⟨X.heap.size,0,none⟩ (.slice y.ad yn' y.cap)).setCell ⟨X.heap.size,1,none⟩ (.slice pl ln' cl))):=by
      obtain ⟨r1,r2,r3,r4,r5,r6,r7⟩:=H7.out
      subst r1 r2
      have hsz1:∀ o,(X.alloc o).drew.heap.size=X.heap.size+1:=fun o=>World.size_alloc X o
      have hbx:w7.heap[X.heap.size]?=some (.cells #[.slice none 0 0,.slice none 0 0] 26):=(r6.block _ (by rw [hsz1];omega)).trans (heap_alloc_last X _)
      have k2:=aH (aH hbx 0 (.slice y.ad y.es.length y.cap)) 1 (.slice pl lo.length cl)
      have hBX:Below X.heap.size X ((w7.setCell ⟨X.heap.size,0,none⟩ (.slice y.ad y.es.length y.cap)).setCell ⟨X.heap.size,1,none⟩ (.slice pl lo.length cl)):=(hB7.setCell (p:=⟨X.heap.size,0,none⟩) (Nat.le_refl _) _).setCell (p:=⟨X.heap.size,1,none⟩) (Nat.le_refl _) _
      have hst:St (fun b=>Sp S s L b∨b=X.heap.size) w7 (fun X=>UnOK X y lo pl cl):=UnOK.st r5 r7 (fun b hb=>by
       rw [hsz1]
       rcases hb with hb | rfl
       ·have h1:=(HA.out.1.cK hb).2;have h2:=HC.out.1.size;omega
       ·omega)
      have hUB:fD ((w7.setCell ⟨X.heap.size,0,none⟩ (.slice y.ad y.es.length y.cap)).setCell ⟨X.heap.size,1,none⟩ (.slice pl lo.length cl)) X.heap.size y lo pl cl:=⟨by simp [World.cell?,k2],by simp [World.cell?,k2]⟩
      have hST:St (Sp S s L) ((w7.setCell ⟨X.heap.size,0,none⟩ (.slice y.ad y.es.length y.cap)).setCell ⟨X.heap.size,1,none⟩ (.slice pl lo.length cl)) (fun X=>UnOK X y lo pl cl):=St.more (St.on hst ((Keep.set (.inr rfl) _ 0 _).trans (Keep.set (.inr rfl) _ 1 _))) (fun b _ hb=>.inl hb)
      have hlB:W.heap.size≤X.heap.size:=HC.out.1.size
      rw [HC.out.2.1]
      exact BD HA.out.1 HA.out.2.1 (Below.onto HC.out.1 hBX) (Nat.le_refl _) (by omega) (by omega) hlB ((hBX.cell (p:=⟨W.heap.size,0,none⟩) hPX).trans b0) hd80 hg80 ((hBX.cell (p:=⟨Bp,0,none⟩) hDX).trans p0) ((hBX.cell (p:=⟨Bq,0,none⟩) hQX).trans p1) hUB hST r3 r4 (HC.out.2.2 (by trivial)) HA.out.2.2.2
     clear H7 hB7
     go_wp2
     go_ret2
     exact HF.out
   ·have hne:(ae != 0)=true:=by simpa using hz
    rw [if_neg hz,if_neg hz] at hpt
    go_region_held3 (fun w'=>w'.cell? ⟨W.heap.size,0,none⟩=some (.pointer (some ⟨S,0,none⟩))∧w'.cell? ⟨S,0,none⟩=some (.slice L.y.ad yn L.y.cap)∧w'.cell? ⟨S,1,none⟩=some (.slice L.pl ln L.cl)∧w'.cell? ⟨Bp,0,none⟩=some (.string d)∧w'.cell? ⟨Bq,0,none⟩=some (.string g)) (go_keep) (first
     | (go_at_call 131;refine (hpt _ (Below.refl _ _).drew).mono ?_;clear hpt;rintro r w7 ⟨y,lo,pl,cl,yn',ln',rfl,H7⟩;have hB7:Below X.heap.size X w7:=((Below.refl _ _).drew).trans H7.out.2.2.2.2.2.1;have z0:=(hB7.cell (p:=⟨W.heap.size,0,none⟩) hPX).trans b0;have z1:=(hB7.cell (p:=⟨S,0,none⟩) hSX).trans s0;have z2:=(hB7.cell (p:=⟨S,1,none⟩) hSX).trans s1;have z3:=(hB7.cell (p:=⟨Bp,0,none⟩) hDX).trans p0;have z4:=(hB7.cell (p:=⟨Bq,0,none⟩) hQX).trans p1)
     | (go_at_call 131;refine (hpt _ (((Below.refl _ _).alloc (Nat.le_refl _) _).drew)).mono ?_;clear hpt;rintro r w7 ⟨y,lo,pl,cl,yn',ln',rfl,H7⟩;have hB7:Below X.heap.size X w7:=(((Below.refl _ _).alloc (Nat.le_refl _) _).drew).trans (H7.out.2.2.2.2.2.1.mono (by rw [show ∀ o,(X.alloc o).drew.heap.size=X.heap.size+1 from fun o=>World.size_alloc X o];omega));have z0:=(hB7.cell (p:=⟨W.heap.size,0,none⟩) hPX).trans b0;have z1:=(hB7.cell (p:=⟨S,0,none⟩) hSX).trans s0;have z2:=(hB7.cell (p:=⟨S,1,none⟩) hSX).trans s1;have z3:=(hB7.cell (p:=⟨Bp,0,none⟩) hDX).trans p0;have z4:=(hB7.cell (p:=⟨Bq,0,none⟩) hQX).trans p1;obtain ⟨⟨x0,x1⟩,⟨f0,f1⟩⟩:=new2 (w:=X) (B:=X.heap.size+1) (Nat.lt_succ_self _) (((Below.refl _ _).drew).trans (H7.out.2.2.2.2.2.1.mono (Nat.le_of_eq (World.size_alloc X _).symm)))))
    ·have HF:Aside (Below W.heap.size W (w7.alloc (.cells #[.slice y.ad yn' y.cap,.slice pl ln' cl] 26))):=by
      have h1:=Below.onto HC.out.1 hB7
      exact h1.alloc h1.size _
     clear H7 hB7
     go_wp2
     go_ret2
     exact yE.no _ hz HF.out
    ·have HF:Aside (Below W.heap.size W ((w7.setCell ⟨X.heap.size,0,none⟩ (.slice y.ad yn' y.cap)).setCell ⟨X.heap.size,1,none⟩ (.slice pl ln' cl))):=Below.onto HC.out.1 ((hB7.setCell (p:=⟨X.heap.size,0,none⟩) (Nat.le_refl _) _).setCell (p:=⟨X.heap.size,1,none⟩) (Nat.le_refl _) _)
     clear H7 hB7
     go_wp2
     go_ret2
     exact yE.no _ hz HF.out
  ·have hne:(e' != 0)=true:=by simpa using h0'
   go_enter Tryz.func88,Tryz.ntmps88
   go_wp2_with (first | (go_at_call 121;refine hld.mono ?_;clear hld;rintro r w3 ⟨d,rfl,hd,hB3⟩;rw [HW1.out] at hB3;have hX1:Below W.heap.size W (w3.alloc (.cells #[.string d] 9)):=((Below.onto HA.out.2.2.1 hB3).alloc (Below.onto HA.out.2.2.1 hB3).size _);have hld:=hl2 _ hX1;clear hl2;have b0:w3.cell? ⟨W.heap.size,0,none⟩=some (.pointer (some ⟨S,0,none⟩)):=(hB3.cell (p:=⟨W.heap.size,0,none⟩) (by show W.heap.size<_;omega)).trans (by rw [← HW1.out];simp);have b0':=Lib.cell?_alloc_some (.cells #[.string d] 9) b0;have DD:Aside ((w3.alloc (.cells #[.string d] 9)).cell? ⟨w3.heap.size,0,none⟩=some (.string d)):=(by show _=_;simp);have hld2:=hld;clear hld) | (go_at_call 121;refine hld2.mono ?_;clear hld2;rintro r w5 ⟨g,rfl,hgd,hB5⟩;have d0:=(hB5.cell (p:=⟨w3.heap.size,0,none⟩) (by simp)).trans DD.out;have d0':=Lib.cell?_alloc_some (.cells #[.string g] 9) d0))
   go_ret2
   have hz:ae=e':=by rw [HAE.out];simp [h0']
   rw [hz]
   have hB:=Below.onto hX1 hB5
   exact yE.no _ h0' (hB.alloc hB.size _)
 ·have hne:(e != 0)=true:=by simpa using h0
  clear hl2
  go_enter Tryz.func88,Tryz.ntmps88
  go_wp2_with (go_at_call 121;refine hld.mono ?_;clear hld;rintro r w3 ⟨d,rfl,hd,hB3⟩;rw [HW1.out] at hB3)
  go_ret2
  have hz:ae=e:=by rw [HAE.out,if_pos h0]
  rw [hz]
  have hB:=Below.onto HA.out.2.2.1 hB3
  exact yE.no _ h0 (hB.alloc hB.size _)
theorem J4 {w:World} {base:Nat} {v:Value} {l:List LK.Lk} (h:LK.Rows w base v l):∃ p c,v=.slice p l.length c∧LK.Lies w p l∧l.length≤c∧(p=none→c=0)∧∀ b off s,p=some ⟨b,off,s⟩→base≤b:=by
 by_cases hv:v=.slice none 0 0
 ·have hl:l=[]:=by
   obtain ⟨h1,⟨_,h2⟩ | ⟨g,cap,cur,hv',_⟩⟩:=h
   ·exact List.eq_nil_of_length_eq_zero h2
   ·rw [hv'] at hv;cases hv
  subst hl
  exact ⟨none,0,hv,LK.Lies.nil _ _,Nat.le_refl _,fun _=>rfl,nofun⟩
 ·obtain ⟨g,c,e,hg,ho⟩:=LK.Own.iC h hv rfl
  exact ⟨_,c,e,ho.lies,ho.len,nofun,fun b off s e=>(by cases e;exact hg)⟩
namespace PM
open Classical in
noncomputable def bG (free:Bool) (l:List LK.Lk) (x:LK.Lk):Int × List LK.Lk:=if h:∃ r:Int × List LK.Lk,LK.KM.fT free l x r.1 r.2 then Classical.choose h else (0,[])
theorem jU {free:Bool} {l:List LK.Lk} {x:LK.Lk} {e:Int} {m:List LK.Lk} (h:LK.KM.fT free l x e m):e=(bG free l x).1∧m=(bG free l x).2:=by
 have hx:∃ r:Int × List LK.Lk,LK.KM.fT free l x r.1 r.2:=⟨(e,m),h⟩
 rw [bG,dif_pos hx]
 exact LK.KM.AA h (Classical.choose_spec hx)
end PM
set_option maxRecDepth 100000 in
set_option maxHeartbeats 4000000 in
theorem uy {base:Nat} {W:World} {S:Nat} {s:Sy} {L:Lay6} (h:aj base W S s L) (g:FuncId) (eg:∀ args w,(callFunc g args).run Tryz.prog w=.ok (.enter g args) w) (free:Bool) (hch:∀ (Y:World) (l:List LK.Lk) (x:LK.Lk) (p:Option Addr) (cap:Nat),LK.Lies Y p l→l.length<4611686018427387904→l.length≤cap→Calls Tryz.prog g #[.slice p l.length cap,.agg #[.int .i64 x.o, .int .i64 x.f, .int .i64 x.t, .bool x.a]] Y (LK.mW free l x Y)) (j:Nat) (o:Opn) (f:Fl) (ho:s.opens[j]?=some o) (hf:s.files[o.file]?=some f) (hlk:f.locks.length≤1000) (ck co cf cn cm:Int) (cp ct cx:ByteArray) (ca:Bool) :
  Calls Tryz.prog 140 #[.pointer (some ⟨L.ob j,0,none⟩),.agg #[.int .i64 ck,.int .i64 co,.int .i64 cf,.int .i64 cn,.int .i64 cm,.string cp,.string ct,.string cx,.bool ca],.func (.func g) #[] #[]] W (yE base S s L (bG free f.locks ⟨co,cn,cm,ca⟩).1 (s.setF o.file { f with locks:=(bG free f.locks ⟨co,cn,cm,ca⟩).2 }) (ans 0 ⟨#[]⟩) W):=by
 obtain ⟨X,hX⟩:∃ X,(W.alloc (.cells #[.pointer (some ⟨L.ob j,0,none⟩)] 78)).alloc (.cells #[.int .i64 ck,.int .i64 co,.int .i64 cf,.int .i64 cn,.int .i64 cm,.string cp,.string ct,.string cx,.bool ca] 50)=X:=⟨_,rfl⟩
 have hBX:Below W.heap.size W X:=by rw [← hX];exact ((Below.refl _ _).alloc (Nat.le_refl _) _).alloc (by simp) _
 have hsX:X.heap.size=W.heap.size+2:=by rw [← hX];simp
 have hk:=h.kept hBX
 obtain ⟨⟨c0,_,_⟩,_⟩:=hk.iB ho
 obtain ⟨⟨_,_,g2⟩,_,_,fz⟩:=hk.kT hf
 have hi:=(List.getElem?_eq_some_iff.1 hf).1
 have hj:=(List.getElem?_eq_some_iff.1 ho).1
 have hFX:=hk.flt hi
 have hOX:=hk.olt hj
 have hFW:=h.flt hi
 have hOW:=h.olt hj
 have hPX:W.heap.size<X.heap.size:=by omega
 have hCX:W.heap.size+1<X.heap.size:=by omega
 have b0:X.cell? ⟨W.heap.size,0,none⟩=some (.pointer (some ⟨L.ob j,0,none⟩)):=by simp [World.cell?,iI hX]
 have k1:X.cell? ⟨W.heap.size+1,1,none⟩=some (.int .i64 co):=by simp [World.cell?,dY hX]
 have k3:X.cell? ⟨W.heap.size+1,3,none⟩=some (.int .i64 cn):=by simp [World.cell?,dY hX]
 have k4:X.cell? ⟨W.heap.size+1,4,none⟩=some (.int .i64 cm):=by simp [World.cell?,dY hX]
 have k8:X.cell? ⟨W.heap.size+1,8,none⟩=some (.bool ca):=by simp [World.cell?,dY hX]
 have hd:=hk.data.now.locks o.file f hf
 obtain ⟨fb,hfb⟩:∃ fb,fb=L.fb o.file:=⟨_,rfl⟩
 obtain ⟨lp,hlp⟩:∃ lp,lp=(L.lp o.file).1:=⟨_,rfl⟩
 obtain ⟨lc,hlc⟩:∃ lc,lc=(L.lp o.file).2:=⟨_,rfl⟩
 obtain ⟨n0,hn0⟩:∃ n0,n0=f.locks.length:=⟨_,rfl⟩
 obtain ⟨er,her⟩:∃ er,er=(bG free f.locks ⟨co,cn,cm,ca⟩).1:=⟨_,rfl⟩
 obtain ⟨ml,hml⟩:∃ ml,ml=(bG free f.locks ⟨co,cn,cm,ca⟩).2:=⟨_,rfl⟩
 obtain ⟨n,hn⟩:∃ n,n=ml.length:=⟨_,rfl⟩
 rw [← hfb,← hlp,← hlc,← hn0] at g2
 rw [← hfb] at c0 hFX hFW
 rw [← hlp,← hlc] at hd
 have hpt:∀ Y,Below X.heap.size X Y→Calls Tryz.prog g #[.slice lp n0 lc,.agg #[.int .i64 co,.int .i64 cn,.int .i64 cm,.bool ca]] Y (fun r w'=>∃ p c,r=.returned (.tuple #[.slice p n c,.int .i64 er])∧Aside (LK.Lies w' p ml∧ml.length≤c∧(p=none→c=0)∧(∀ b off s,p=some ⟨b,off,s⟩→Y.heap.size≤b)∧Below Y.heap.size Y w')):=fun Y hY=>by
  have:=hch Y f.locks ⟨co,cn,cm,ca⟩ lp lc (hd.1.kept hY) (by omega) hd.2.1
  rw [← hn0] at this
  refine this.mono fun r w' ⟨v,err,m,e,hr,hs,hB⟩=>?_
  obtain ⟨e1,e2⟩:=jU hs
  obtain ⟨p,c,ev,q1,q2,q3,q4⟩:=J4 hr
  subst ev
  rw [e1,← her] at e
  rw [e2,← hml] at e q1 q2
  exact ⟨p,c,by rw [e,hn],q1,q2,q3,q4,hB⟩
 have HA:Aside (aj base W S s L∧s.opens[j]?=some o∧s.files[o.file]?=some f∧fb=L.fb o.file∧n=ml.length∧Below W.heap.size W X):=⟨h,ho,hf,hfb,hn,hBX⟩
 rw [← her,← hml]
 have HX:Aside ((W.alloc (.cells #[.pointer (some ⟨L.ob j,0,none⟩)] 78)).alloc (.cells #[.int .i64 ck,.int .i64 co,.int .i64 cf,.int .i64 cn,.int .i64 cm,.string cp,.string ct,.string cx,.bool ca] 50)=X):=hX
 have n1:=World.new_ne X ⟨W.heap.size,0,none⟩ b0
 have n2:=World.new_ne X ⟨W.heap.size+1,1,none⟩ k1
 have n3:=World.new_ne X ⟨L.ob j,0,none⟩ c0
 have n4:=World.new_ne X ⟨fb,2,none⟩ g2
 clear h ho hf hfb hn hBX hk hd hlp hlc hn0 her hml hX hi hj hch fz
 have hnl:¬ fb=W.heap.size:=by omega
 clear hsX
 go_enter Tryz.func140,Tryz.ntmps140
 go_wp2
 rw [HX.out]
 by_cases hz:er=0
 ·subst hz
  go_region_held3 (fun w'=>w'.cell? ⟨W.heap.size,0,none⟩=some (.pointer (some ⟨L.ob j,0,none⟩))∧w'.cell? ⟨L.ob j,0,none⟩=some (.pointer (some ⟨fb,0,none⟩))∧w'.cell? ⟨fb,2,none⟩=some (.slice lp n0 lc)∧w'.cell? ⟨(W.heap.size+1),1,none⟩=some (.int .i64 co)∧w'.cell? ⟨(W.heap.size+1),3,none⟩=some (.int .i64 cn)∧w'.cell? ⟨(W.heap.size+1),4,none⟩=some (.int .i64 cm)∧w'.cell? ⟨(W.heap.size+1),8,none⟩=some (.bool ca)) (go_keep) (first
   | (go_at_fn g;refine (Calls.mono (hpt _ (Below.refl _ _).drew) ?_);clear hpt;rintro r w7 ⟨p,c,rfl,H7⟩;have hB7:Below X.heap.size X w7:=((Below.refl _ _).drew).trans H7.out.2.2.2.2;have z0:=(hB7.cell (p:=⟨W.heap.size,0,none⟩) hPX).trans b0;have z1:=(hB7.cell (p:=⟨L.ob j,0,none⟩) hOX).trans c0;have z2:=(hB7.cell (p:=⟨fb,2,none⟩) hFX).trans g2;have z3:=(hB7.cell (p:=⟨(W.heap.size+1),1,none⟩) hCX).trans k1;have z4:=(hB7.cell (p:=⟨(W.heap.size+1),3,none⟩) hCX).trans k3;have z5:=(hB7.cell (p:=⟨(W.heap.size+1),4,none⟩) hCX).trans k4;have z6:=(hB7.cell (p:=⟨(W.heap.size+1),8,none⟩) hCX).trans k8)
   | (go_at_fn g;refine (Calls.mono (hpt _ (((Below.refl _ _).alloc (Nat.le_refl _) _).drew)) ?_);clear hpt;rintro r w7 ⟨p,c,rfl,H7⟩;have hB7:Below X.heap.size X w7:=(((Below.refl _ _).alloc (Nat.le_refl _) _).drew).trans (H7.out.2.2.2.2.mono (by rw [show ∀ o,(X.alloc o).drew.heap.size=X.heap.size+1 from fun o=>World.size_alloc X o];omega));have z0:=(hB7.cell (p:=⟨W.heap.size,0,none⟩) hPX).trans b0;have z1:=(hB7.cell (p:=⟨L.ob j,0,none⟩) hOX).trans c0;have z2:=(hB7.cell (p:=⟨fb,2,none⟩) hFX).trans g2;have z3:=(hB7.cell (p:=⟨(W.heap.size+1),1,none⟩) hCX).trans k1;have z4:=(hB7.cell (p:=⟨(W.heap.size+1),3,none⟩) hCX).trans k3;have z5:=(hB7.cell (p:=⟨(W.heap.size+1),4,none⟩) hCX).trans k4;have z6:=(hB7.cell (p:=⟨(W.heap.size+1),8,none⟩) hCX).trans k8;have x0:w7.cell? ⟨X.heap.size,0,none⟩=some (.slice none 0 0):=(H7.out.2.2.2.2.cell (p:=⟨X.heap.size,0,none⟩) (by show X.heap.size<_;rw [show ∀ o,(X.alloc o).drew.heap.size=X.heap.size+1 from fun o=>World.size_alloc X o];omega)).trans (by simp);have f0:w7.frozen? ⟨X.heap.size,0,none⟩=false:=(H7.out.2.2.2.2.frozen (p:=⟨X.heap.size,0,none⟩) (by show X.heap.size<_;rw [show ∀ o,(X.alloc o).drew.heap.size=X.heap.size+1 from fun o=>World.size_alloc X o];omega)).trans (by simp)))
  ·have HF:Aside (yE base S s L 0 (s.setF o.file { f with locks:=ml }) (ans 0 ⟨#[]⟩) W (.returned (.tuple #[.func (.func 191) #[] #[.pointer (some ⟨w7.heap.size,0,none⟩),.pointer (some ⟨W.heap.size,0,none⟩)],.int .i64 0])) (w7.alloc (.cells #[.slice p n c] 60))):=by
    obtain ⟨r1,r2,r3,r4,r5⟩:=H7.out
    obtain ⟨h,ho,hf,hfb,hn,hBX⟩:=HA.out
    have hB8:Below w7.heap.size w7 (w7.alloc (.cells #[.slice p n c] 60)):=((Grown.refl w7).alloc _).below
    have hBf:Below W.heap.size W (w7.alloc (.cells #[.slice p n c] 60)):=Below.onto (Below.onto hBX hB7) hB8
    have h7:=hB7.size
    refine ⟨_,rfl,hBf,fun _=>⟨_,_,rfl,enters_of Tryz.func191 (by kernel_rfl) rfl,EF (h.kept hBf) w7.heap.size W.heap.size j o f ho hf ml p n c hn (by simp) ((hB8.cell (p:=⟨W.heap.size,0,none⟩) (by show W.heap.size<_;omega)).trans z0) (St.on (LLies.st r1 (fun b off s' e hsp=>?_)) (Keep.of_below _ hB8)) r2 r3 (by rw [← hfb];omega) (by rw [← hfb];exact hnl)⟩⟩
    have h1:=r4 b off s' e
    have h2:=(h.cK hsp).2
    have h3:X.drew.heap.size=X.heap.size:=rfl
    omega
   clear H7 hB7
   go_wp2
   go_ret2
   exact HF.out
  ·have HF:Aside (yE base S s L 0 (s.setF o.file { f with locks:=ml }) (ans 0 ⟨#[]⟩) W (.returned (.tuple #[.func (.func 191) #[] #[.pointer (some ⟨X.heap.size,0,none⟩),.pointer (some ⟨W.heap.size,0,none⟩)],.int .i64 0])) (w7.setCell ⟨X.heap.size,0,none⟩ (.slice p n c))):=by
    obtain ⟨r1,r2,r3,r4,r5⟩:=H7.out
    obtain ⟨h,ho,hf,hfb,hn,hBX⟩:=HA.out
    have hB8:Below X.heap.size X (w7.setCell ⟨X.heap.size,0,none⟩ (.slice p n c)):=hB7.setCell (p:=⟨X.heap.size,0,none⟩) (Nat.le_refl _) _
    have hBf:Below W.heap.size W (w7.setCell ⟨X.heap.size,0,none⟩ (.slice p n c)):=Below.onto hBX hB8
    have h7:=hB7.size
    have hsz1:∀ o,(X.alloc o).drew.heap.size=X.heap.size+1:=fun o=>World.size_alloc X o
    have hbx:w7.heap[X.heap.size]?=some (.cells #[.slice none 0 0] 60):=(r5.block _ (by rw [hsz1];omega)).trans (heap_alloc_last X _)
    have k2:=aH hbx 0 (.slice p n c)
    have hst:St (fun b=>Sp S s L b∨b=X.heap.size) w7 (fun X=>LK.Lies X p ml):=LLies.st r1 (fun b off s' e hsp=>by
     have h1:=r4 b off s' e
     rw [hsz1] at h1
     rcases hsp with hsp | rfl
     ·have h2:=(h.cK hsp).2;omega
     ·omega)
    exact ⟨_,rfl,hBf,fun _=>⟨_,_,rfl,enters_of Tryz.func191 (by kernel_rfl) rfl,EF (h.kept hBf) X.heap.size W.heap.size j o f ho hf ml p n c hn (by simp [World.cell?,k2]) ((hB8.cell (p:=⟨W.heap.size,0,none⟩) (by show W.heap.size<_;omega)).trans b0) (St.more (St.on hst (Keep.set (.inr rfl) _ 0 _)) (fun b _ hb=>.inl hb)) r2 r3 (by rw [← hfb];omega) (by rw [← hfb];exact hnl)⟩⟩
   clear H7 hB7
   go_wp2
   go_ret2
   exact HF.out
 ·have hne:(er != 0)=true:=by simpa using hz
  go_region_held3 (fun w'=>w'.cell? ⟨W.heap.size,0,none⟩=some (.pointer (some ⟨L.ob j,0,none⟩))∧w'.cell? ⟨L.ob j,0,none⟩=some (.pointer (some ⟨fb,0,none⟩))∧w'.cell? ⟨fb,2,none⟩=some (.slice lp n0 lc)∧w'.cell? ⟨(W.heap.size+1),1,none⟩=some (.int .i64 co)∧w'.cell? ⟨(W.heap.size+1),3,none⟩=some (.int .i64 cn)∧w'.cell? ⟨(W.heap.size+1),4,none⟩=some (.int .i64 cm)∧w'.cell? ⟨(W.heap.size+1),8,none⟩=some (.bool ca)) (go_keep) (first
   | (go_at_fn g;refine (Calls.mono (hpt _ (Below.refl _ _).drew) ?_);clear hpt;rintro r w7 ⟨p,c,rfl,H7⟩;have hB7:Below X.heap.size X w7:=((Below.refl _ _).drew).trans H7.out.2.2.2.2;have z0:=(hB7.cell (p:=⟨W.heap.size,0,none⟩) hPX).trans b0;have z1:=(hB7.cell (p:=⟨L.ob j,0,none⟩) hOX).trans c0;have z2:=(hB7.cell (p:=⟨fb,2,none⟩) hFX).trans g2;have z3:=(hB7.cell (p:=⟨(W.heap.size+1),1,none⟩) hCX).trans k1;have z4:=(hB7.cell (p:=⟨(W.heap.size+1),3,none⟩) hCX).trans k3;have z5:=(hB7.cell (p:=⟨(W.heap.size+1),4,none⟩) hCX).trans k4;have z6:=(hB7.cell (p:=⟨(W.heap.size+1),8,none⟩) hCX).trans k8)
   | (go_at_fn g;refine (Calls.mono (hpt _ (((Below.refl _ _).alloc (Nat.le_refl _) _).drew)) ?_);clear hpt;rintro r w7 ⟨p,c,rfl,H7⟩;have hB7:Below X.heap.size X w7:=(((Below.refl _ _).alloc (Nat.le_refl _) _).drew).trans (H7.out.2.2.2.2.mono (by rw [show ∀ o,(X.alloc o).drew.heap.size=X.heap.size+1 from fun o=>World.size_alloc X o];omega));have z0:=(hB7.cell (p:=⟨W.heap.size,0,none⟩) hPX).trans b0;have z1:=(hB7.cell (p:=⟨L.ob j,0,none⟩) hOX).trans c0;have z2:=(hB7.cell (p:=⟨fb,2,none⟩) hFX).trans g2;have z3:=(hB7.cell (p:=⟨(W.heap.size+1),1,none⟩) hCX).trans k1;have z4:=(hB7.cell (p:=⟨(W.heap.size+1),3,none⟩) hCX).trans k3;have z5:=(hB7.cell (p:=⟨(W.heap.size+1),4,none⟩) hCX).trans k4;have z6:=(hB7.cell (p:=⟨(W.heap.size+1),8,none⟩) hCX).trans k8;have x0:w7.cell? ⟨X.heap.size,0,none⟩=some (.slice none 0 0):=(H7.out.2.2.2.2.cell (p:=⟨X.heap.size,0,none⟩) (by show X.heap.size<_;rw [show ∀ o,(X.alloc o).drew.heap.size=X.heap.size+1 from fun o=>World.size_alloc X o];omega)).trans (by simp);have f0:w7.frozen? ⟨X.heap.size,0,none⟩=false:=(H7.out.2.2.2.2.frozen (p:=⟨X.heap.size,0,none⟩) (by show X.heap.size<_;rw [show ∀ o,(X.alloc o).drew.heap.size=X.heap.size+1 from fun o=>World.size_alloc X o];omega)).trans (by simp)))
  ·have HF:Aside (Below W.heap.size W (w7.alloc (.cells #[.slice p n c] 60))):=by
    have h1:=Below.onto HA.out.2.2.2.2.2 hB7
    exact h1.alloc h1.size _
   clear H7 hB7
   go_wp2
   go_ret2
   exact yE.no _ hz HF.out
  ·have HF:Aside (Below W.heap.size W (w7.setCell ⟨X.heap.size,0,none⟩ (.slice p n c))):=Below.onto HA.out.2.2.2.2.2 (hB7.setCell (p:=⟨X.heap.size,0,none⟩) (Nat.le_refl _) _)
   clear H7 hB7
   go_wp2
   go_ret2
   exact yE.no _ hz HF.out
namespace PM
def dA (t:ByteArray) (n:Int):ByteArray:=t.extract 0 (min n t.size).toNat++⟨(Lib.repeatL [0] (max 0 (n-t.size)).toNat).toArray⟩
theorem uf (c:Nat):(Lib.repeatL ([0]:List UInt8) c).length=c:=by
 induction c with
 | zero=>rfl
 | succ c ih=>simp [Lib.repeatL] at ih ⊢;try omega
theorem iO (t:ByteArray) (n:Int) (h0:0≤n):((dA t n).size:Int)=n:=by
 have h1:(ByteArray.mk (Lib.repeatL ([0]:List UInt8) (max 0 (n-t.size)).toNat).toArray).size=(max 0 (n-t.size)).toNat:=by
  show (Lib.repeatL ([0]:List UInt8) (max 0 (n-t.size)).toNat).toArray.size=_
  rw [List.size_toArray,uf]
 unfold dA
 rw [ByteArray.size_append,h1,ByteArray.size_extract]
 omega
end PM
theorem xG (t:ByteArray) (n:Int) (h0:0≤n) (h1:n≤1000) (ht:t.size≤1000) (w:World):Calls Tryz.prog 198 #[.string t,.int .i64 n] w fun r w'=>r=.returned (.string (dA t n))∧Below w.heap.size w w':=by
 have hc:(((max 0 (n-t.size)).toNat:Nat):Int)=max 0 (n-t.size):=Int.toNat_of_nonneg (by omega)
 have hr:=fun Y=>Tryz.strings_Repeat ⟨#[0]⟩ (max 0 (n-t.size)).toNat Y (by omega) (by show 1*_≤_;omega)
 simp only [hc] at hr
 obtain ⟨R,hR⟩:∃ R:ByteArray,R=⟨(Lib.repeatL (ByteArray.mk #[0]).data.toList (max 0 (n-t.size)).toNat).toArray⟩:=⟨_,rfl⟩
 have HZ:Aside (dA t n=t.extract 0 (min n t.size).toNat++R):=by rw [hR];exact rfl
 have hRs:R.size≤1000:=by
  rw [hR]
  show (Lib.repeatL ([0]:List UInt8) (max 0 (n-t.size)).toNat).toArray.size≤_
  rw [List.size_toArray,uf];omega
 simp only [← hR] at hr
 clear hc hR
 have m0:(0:Int)≤min n t.size:=by omega
 have m1:min n (t.size:Int)≤t.size:=by omega
 obtain ⟨E,hE⟩:∃ E,t.extract 0 (min n t.size).toNat=E:=⟨_,rfl⟩
 have hEs:E.size≤1000:=by rw [← hE,ByteArray.size_extract];omega
 have hc1:(9223372036854775807<E.size+R.size)=False:=eq_false (by omega)
 have hc2:(IntKind.i64.max<((E.size+R.size:Nat):Int))=False:=eq_false (by have:IntKind.i64.max=9223372036854775807:=rfl;omega)
 have m2:IntKind.i64.wrap (n-t.size)=n-t.size:=by rw [IntKind.wrap_i64];omega
 go_enter Tryz.func198,Tryz.ntmps198
 go_wp2
 go_region_held3 (fun w'=>w.heap.size≤w'.heap.size) (go_keep) (first | (go_at_call 232;refine (hr _).mono ?_;clear hr;rintro r w3 ⟨rfl,hB3⟩;have hB4:Below w.heap.size w w3:=((Below.refl _ _).drew).trans hB3;have hs3:=hB4.size))
 all_goals
  go_wp2
  go_ret
  exact ⟨by rw [HZ.out,hE];rfl,hB4⟩
end Go.Proofs.YthfeoiffoeagkaaGreatDoor
