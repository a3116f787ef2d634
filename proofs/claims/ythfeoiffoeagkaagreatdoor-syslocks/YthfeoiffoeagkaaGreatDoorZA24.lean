/-
  (*sys.system).add.
-/
import Derived.Test.YthfeoiffoeagkaaGreatDoorZA23
namespace Go.Proofs.YthfeoiffoeagkaaGreatDoor
open Go.RowKit PM Go.Sort
set_option linter.unusedVariables false
namespace PM
def Sy.gM (s:Sy) (way:ByteArray) (kind:Int) (text:ByteArray):Ent:=⟨baL (aP s.seen false way.data.toList).2,kind,text,false⟩
noncomputable def Sy.jq (s:Sy) (way:ByteArray) (kind:Int) (text:ByteArray):Int:=if ¬ (aP s.seen false way.data.toList).1=0 then (aP s.seen false way.data.toList).1 else if (getL s.seen (aP s.seen false way.data.toList).2).isSome then 7 else aF (ay s.all).1 (aQ s.seen (s.gM way kind text)) (aC s.up (s.gM way kind text)).length
end PM
theorem yE.no {base S:Nat} {s:Sy} {L:Lay6} {err:Int} {s':Sy} {an:An} {W W':World} (v:Value) (he:¬ err=0) (hB:Below W.heap.size W W'):yE base S s L err s' an W (.returned (.tuple #[v,.int .i64 err])) W':=⟨v,rfl,hB,fun h=>absurd h he⟩
theorem dY {W W2:World} {a b:Obj} (h:(W.alloc a).alloc b=W2):W2.heap[W.heap.size+1]?=some b:=by
 rw [← h]
 have:=heap_alloc_last (W.alloc a) b
 rwa [World.size_alloc] at this
theorem iI {W W2:World} {a b:Obj} (h:(W.alloc a).alloc b=W2):W2.heap[W.heap.size]?=some a:=by
 rw [← h]
 exact (((Grown.refl _).alloc b).below.block _ (by simp)).trans (heap_alloc_last W a)
theorem kH (seen:List Ent) (f:Bool) (way:List UInt8):(aP seen f way).2.length≤80:=by
 unfold aP
 repeat' split
 all_goals simp
 all_goals omega
theorem oz {up:List Ent} {lows:List (List Ent)} {e:Ent} (h:aF (ay (up::lows)).1 (aQ (aB (up::lows)) e) (aC up e).length=0):(ay (aC up e::lows)).1=0∧aB (aC up e::lows)=putL (aB (up::lows)) e:=by
 obtain ⟨h0,h1,h2⟩:=jA.1 h
 obtain ⟨hl5,hz,_⟩:=eG.1 h0
 have hs:aB (up::lows)=(au (up::lows)).2:=by rw [aB,if_pos h0]
 have hmg:au (up::lows)=(0,aB (up::lows)):=by rw [hs];exact Prod.ext hz rfl
 obtain ⟨e1,e2⟩:=union_right (by rw [List.length_cons] at hl5 ⊢;exact hl5) ((Fq hmg h1).2 h2)
 exact ⟨by rw [e1],e2⟩
def PutP (Y:World) (er:Int) (up:List Ent) (lows:List (List Ent)) (r:Ending) (w':World):Prop:=∃ (y:Lay) (lo:List Lay) (pl:Option Addr) (cl yn ln:Nat),r=.returned (.tuple #[.agg #[.slice y.ad yn y.cap,.slice pl ln cl],.int .i64 er])∧Aside (yn=y.es.length∧ln=lo.length∧y.es=up∧lo.map (·.es)=lows∧UnOK w' y lo pl cl∧Below Y.heap.size Y w'∧jF Y.heap.size y lo pl)
theorem eO.putP {Y:World} {er:Int} {up:List Ent} {lows:List (List Ent)} {r:Ending} {w':World} (h:eO er up lows Y r w'):PutP Y er up lows r w':=by
 obtain ⟨y,lo,pl,cl,e,h1,h2,h3,h4,h5⟩:=h
 exact ⟨y,lo,pl,cl,_,_,e,rfl,rfl,h1,h2,h3,h4,h5⟩
theorem AY {base:Nat} {W:World} {S:Nat} {s:Sy} {L:Lay6} (h:aj base W S s L) (hg:Gl base W) {Wf:World} (hB:Below W.heap.size W Wf) {B0 B1:Nat} (hb0:Wf.cell? ⟨B0,0,none⟩=some (.pointer (some ⟨S,0,none⟩))) {y:Lay} {lo:List Lay} {pl:Option Addr} {cl:Nat} (hb1:fD Wf B1 y lo pl cl) (hU:St (Sp S s L) Wf (fun X=>UnOK X y lo pl cl)) {up:List Ent} {lows:List (List Ent)} (hy:y.es=up) (hl:lo.map (·.es)=lows) (h0:(ay (up::lows)).1=0) :
  yE base S s L 0 (s.aJ up lows) (ans 0 ⟨#[]⟩) W (.returned (.tuple #[.func (.func 127) #[] #[.pointer (some ⟨B0,0,none⟩),.pointer (some ⟨B1,0,none⟩)],.int .i64 0])) Wf:=by
 subst hy hl
 exact ⟨_,rfl,hB,fun _=>⟨_,_,rfl,enters_of Tryz.func127 (by kernel_rfl) rfl,JF (h.kept hB) (hg.kept (hB.mono (Nat.le_trans h.base.1 (Nat.le_of_lt h.lt)))) B0 B1 hb0 y lo pl cl hb1 hU h0⟩⟩
set_option maxHeartbeats 2000000 in
theorem AX {base:Nat} {W:World} {S:Nat} {s:Sy} {L:Lay6} (h:aj base W S s L) (hg:Gl base W) (way:ByteArray) (kind:Int) (text:ByteArray) (hw:way.size≤maxLen) (ht:text.size≤maxLen) :
  Calls Tryz.prog 86 #[.pointer (some ⟨S,0,none⟩),.string way,.agg #[.string ⟨#[]⟩,.int .i64 kind,.string text,.bool false]] W (yE base S s L (s.jq way kind text) (s.aJ (aC s.up (s.gM way kind text)) s.lows) (ans 0 ⟨#[]⟩) W):=by
 obtain ⟨W2,hW2⟩:∃ W2,(W.alloc (.cells #[.pointer (some ⟨S,0,none⟩)] 76)).alloc (.cells #[.string ⟨#[]⟩,.int .i64 kind,.string text,.bool false] 53)=W2:=⟨_,rfl⟩
 have hB2:Below W.heap.size W W2:=by rw [← hW2];exact ((Below.refl _ _).alloc (Nat.le_refl _) _).alloc (by simp) _
 have hs2:W2.heap.size=W.heap.size+2:=by rw [← hW2];simp
 have h2:=h.kept hB2
 have hbase:base≤W.heap.size:=Nat.le_trans h.base.1 (Nat.le_of_lt h.lt)
 obtain ⟨m,hm⟩:=(hg.kept (hB2.mono hbase)).2
 have hld:=kG s.seen way false W2 S L.ps L.sc m h2.cells.2.2 h2.data.now.seen (aK s.all) hw hm
 have HA:Aside (aj base W S s L∧Gl base W∧Below W.heap.size W W2):=⟨h,hg,hB2⟩
 obtain ⟨e,he⟩:∃ e,e=(aP s.seen false way.data.toList).1:=⟨_,rfl⟩
 obtain ⟨q,hq⟩:∃ q,q=(aP s.seen false way.data.toList).2:=⟨_,rfl⟩
 have HE:Aside (e=(aP s.seen false way.data.toList).1∧q=(aP s.seen false way.data.toList).2):=⟨he,hq⟩
 rw [← he,← hq] at hld
 rw [← hW2] at hld
 have HW2:Aside ((W.alloc (.cells #[.pointer (some ⟨S,0,none⟩)] 76)).alloc (.cells #[.string ⟨#[]⟩,.int .i64 kind,.string text,.bool false] 53)=W2):=hW2
 clear h2 hm he hq h hg hB2 hW2
 generalize hae:s.jq way kind text=ae
 have HAE:Aside (s.jq way kind text=ae):=hae
 clear hae
 by_cases h0:e=0
 ·subst h0
  have hq80:q.length≤80:=by rw [HE.out.2];exact kH _ _ _
  have hgt:=fun (d:ByteArray) (hd:d.data.toList=q) Y (hY:Below W.heap.size W Y)=>pK HA.out.1 hY d (by have:=szl d;rw [hd] at this;unfold maxLen;omega) ((getL s.seen q).getD zeroE) (by rw [hd]) s.seen.length rfl
  obtain ⟨sn,hsn⟩:∃ sn,sn=s.seen.length:=⟨_,rfl⟩
  have HSN:Aside (sn=s.seen.length):=hsn
  rw [← hsn] at hgt
  generalize (getL s.seen q).getD zeroE=x at hgt
  obtain ⟨xp,xk,xt,xo⟩:=x
  simp only at hgt
  clear hsn
  cases hb:(getL s.seen q).isSome with
  | true =>
   go_enter Tryz.func86,Tryz.ntmps86
   go_wp2_with (first
    | (go_at_call 121;refine hld.mono ?_;clear hld;rintro r w3 ⟨d,rfl,hd,hB3⟩;rw [HW2.out] at hB3;have hgd:=hgt d hd w3 (Below.onto HA.out.2.2 hB3);rw [hd,hb] at hgd;clear hgt;have c2:=(HA.out.1.kept (Below.onto HA.out.2.2 hB3)).cells.2.2;rw [← HSN.out] at c2;have b0:w3.cell? ⟨W.heap.size,0,none⟩=some (.pointer (some ⟨S,0,none⟩)):=(hB3.cell (p:=⟨W.heap.size,0,none⟩) (by show W.heap.size<_;omega)).trans (by rw [← HW2.out];simp))
    | (go_at_call 27;refine hgd.mono ?_;clear hgd;rintro r w4 ⟨rfl,hB4⟩))
   go_ret2
   have hz:ae=7:=by rw [← HAE.out,Sy.jq,if_neg (by rw [← HE.out.1];simp),← HE.out.2,if_pos hb]
   rw [hz]
   have hB:=Below.onto (Below.onto HA.out.2.2 hB3) hB4
   exact yE.no _ (by decide) (hB.alloc hB.size _)
  | false =>
   go_enter Tryz.func86,Tryz.ntmps86
   go_wp2_with (first
    | (go_at_call 121;refine hld.mono ?_;clear hld;rintro r w3 ⟨d,rfl,hd,hB3⟩;rw [HW2.out] at hB3;have hgd:=hgt d hd w3 (Below.onto HA.out.2.2 hB3);rw [hd,hb] at hgd;clear hgt;have c2:=(HA.out.1.kept (Below.onto HA.out.2.2 hB3)).cells.2.2;rw [← HSN.out] at c2;have b0:w3.cell? ⟨W.heap.size,0,none⟩=some (.pointer (some ⟨S,0,none⟩)):=(hB3.cell (p:=⟨W.heap.size,0,none⟩) (by show W.heap.size<_;omega)).trans (by rw [← HW2.out];simp))
    | (go_at_call 27;refine hgd.mono ?_;clear hgd;rintro r w4 ⟨rfl,hB4⟩;have hbk:w4.heap[W.heap.size+1]?=some (.cells #[.string ⟨#[]⟩,.int .i64 kind,.string text,.bool false] 53):=(hB4.block _ (by have:=hB3.size;omega)).trans ((hB3.block _ (by omega)).trans (dY HW2.out));have hlt4:W.heap.size+1<w4.heap.size:=(Array.getElem?_eq_some_iff.1 hbk).1;have hbk5:(w4.alloc (.cells #[.string xp,.int .i64 xk,.string xt,.bool xo] 53)).heap[W.heap.size+1]?=some (.cells #[.string ⟨#[]⟩,.int .i64 kind,.string text,.bool false] 53):=(((Grown.refl w4).alloc _).below.block _ hlt4).trans hbk;obtain ⟨⟨e0,e1,e2,e3⟩,g0,g1,g2,g3⟩:=bK hbk5;have n4:¬ W.heap.size+1=w4.heap.size:=Nat.ne_of_lt hlt4;have n5:¬ w4.heap.size=W.heap.size+1:=fun e=>n4 e.symm;clear c2 b0))
   have hX0:Below W.heap.size W ((w4.setCell ⟨W.heap.size+1,0,none⟩ (.string d)).alloc (.cells #[.string xp,.int .i64 xk,.string xt,.bool xo] 53)):=by
    have h1:=Below.onto (Below.onto HA.out.2.2 hB3) hB4
    have h2:=h1.setCell (p:=⟨W.heap.size+1,0,none⟩) (by show W.heap.size≤W.heap.size+1;omega) (.string d)
    exact h2.alloc h2.size _
   have hE0:((w4.setCell ⟨W.heap.size+1,0,none⟩ (.string d)).alloc (.cells #[.string xp,.int .i64 xk,.string xt,.bool xo] 53)).heap[W.heap.size+1]?=some (.cells #[.string d,.int .i64 kind,.string text,.bool false] 53):=by
    have h1:=aH hbk 0 (.string d)
    exact (((Grown.refl _).alloc _).below.block _ (Array.getElem?_eq_some_iff.1 h1).1).trans h1
   have hP0:((w4.setCell ⟨W.heap.size+1,0,none⟩ (.string d)).alloc (.cells #[.string xp,.int .i64 xk,.string xt,.bool xo] 53)).heap[W.heap.size]?=some (.cells #[.pointer (some ⟨S,0,none⟩)] 76):=by
    have h1:W2.heap[W.heap.size]?=some (.cells #[.pointer (some ⟨S,0,none⟩)] 76):=iI HW2.out
    have h2:w4.heap[W.heap.size]?=_:=(hB4.block _ (by have:=hB3.size;omega)).trans ((hB3.block _ (by omega)).trans h1)
    have h3:=(Below.heap_setCell w4 ⟨W.heap.size+1,0,none⟩ (.string d) W.heap.size (by show W.heap.size≠W.heap.size+1;omega)).trans h2
    exact (((Grown.refl _).alloc _).below.block _ (Array.getElem?_eq_some_iff.1 h3).1).trans h3
   generalize (w4.setCell ⟨W.heap.size+1,0,none⟩ (.string d)).alloc (.cells #[.string xp,.int .i64 xk,.string xt,.bool xo] 53)=X at hX0 hE0 hP0 ⊢
   clear hbk hbk5 hlt4 e0 e1 e2 e3 g0 g1 g2 g3 n4 n5 hB4 hB3
   obtain ⟨⟨e0,e1,e2,e3⟩,_⟩:=bK hE0
   have b0:X.cell? ⟨W.heap.size,0,none⟩=some (.pointer (some ⟨S,0,none⟩)):=by simp [World.cell?,hP0]
   have hkX:=HA.out.1.kept hX0
   obtain ⟨s0,s1,_⟩:=hkX.cells
   have hent:s.gM way kind text=⟨d,kind,text,false⟩:=by
    rw [Sy.gM,← HE.out.2,show baL q=d from dz (by rw [hd];simp [baL])]
   have hae:aF (ay (s.up::s.lows)).1 (aQ (aB (s.up::s.lows)) ⟨d,kind,text,false⟩) (aC s.up ⟨d,kind,text,false⟩).length=ae:=by
    rw [← HAE.out,Sy.jq,if_neg (by rw [← HE.out.1];simp),← HE.out.2,if_neg (by rw [hb];simp),hent];rfl
   obtain ⟨yn,hyn⟩:∃ yn,yn=L.y.es.length:=⟨_,rfl⟩
   obtain ⟨ln,hln⟩:∃ ln,ln=L.lo.length:=⟨_,rfl⟩
   have hd80:d.size≤80:=by have:=szl d;rw [hd] at this;omega
   have hpt:∀ Y,Below X.heap.size X Y→Calls Tryz.prog 126 #[.agg #[.slice L.y.ad yn L.y.cap,.slice L.pl ln L.cl],.agg #[.string d,.int .i64 kind,.string text,.bool false]] Y (PutP Y ae (if ae=0 then aC s.up ⟨d,kind,text,false⟩ else []) (if ae=0 then s.lows else [])):=fun Y hY=>by
    obtain ⟨m',hm'⟩:=(HA.out.2.1.kept ((Below.onto hX0 hY).mono hbase)).2
    rw [hyn,hln]
    refine (nT L.y L.lo m' L.pl L.cl ⟨d,kind,text,false⟩ (by show d.size≤_;unfold maxLen;omega) (by show d.size<_;omega) ht Y (hkX.kept hY).data.now.un hm').mono fun r w' h=>?_
    have h:=h.putP
    rw [HA.out.1.up,HA.out.1.low,hae] at h
    exact h
   rw [← hyn] at s0
   rw [← hln] at s1
   have HC:Aside (Below W.heap.size W X∧s.gM way kind text=⟨d,kind,text,false⟩∧(ae=0→(ay (aC s.up ⟨d,kind,text,false⟩::s.lows)).1=0)):=⟨hX0,hent,fun h=>(oz (hae.trans h)).1⟩
   have hSX:S<X.heap.size:=hkX.lt
   have hPX:W.heap.size<X.heap.size:=(Array.getElem?_eq_some_iff.1 hP0).1
   have hEX:W.heap.size+1<X.heap.size:=(Array.getElem?_eq_some_iff.1 hE0).1
   have n1:=World.new_ne X ⟨S,0,none⟩ s0
   have n2:=World.new_ne X ⟨W.heap.size,0,none⟩ b0
   have n3:=World.new_ne X ⟨W.heap.size+1,0,none⟩ e0
   clear hkX hX0 hent hae hyn hln hE0 hP0 hd hb
   by_cases hz:ae=0
   ·subst hz
    simp only [if_true] at hpt
    go_region_held3 (fun w'=>w'.cell? ⟨W.heap.size,0,none⟩=some (.pointer (some ⟨S,0,none⟩))∧(w'.cell? ⟨S,0,none⟩=some (.slice L.y.ad yn L.y.cap)∧w'.cell? ⟨S,1,none⟩=some (.slice L.pl ln L.cl))∧(w'.cell? ⟨W.heap.size+1,0,none⟩=some (.string d)∧w'.cell? ⟨W.heap.size+1,1,none⟩=some (.int .i64 kind)∧w'.cell? ⟨W.heap.size+1,2,none⟩=some (.string text)∧w'.cell? ⟨W.heap.size+1,3,none⟩=some (.bool false))) (go_keep) (first
     | (go_at_call 126;refine (hpt _ (Below.refl _ _).drew).mono ?_;clear hpt;rintro r w7 ⟨y,lo,pl,cl,yn',ln',rfl,H7⟩;have hB7:Below X.heap.size X w7:=((Below.refl _ _).drew).trans H7.out.2.2.2.2.2.1;have z0:=(hB7.cell (p:=⟨W.heap.size,0,none⟩) hPX).trans b0;have z1:=(hB7.cell (p:=⟨S,0,none⟩) hSX).trans s0;have z2:=(hB7.cell (p:=⟨S,1,none⟩) hSX).trans s1;have z3:=(hB7.cell (p:=⟨W.heap.size+1,0,none⟩) hEX).trans e0;have z4:=(hB7.cell (p:=⟨W.heap.size+1,1,none⟩) hEX).trans e1;have z5:=(hB7.cell (p:=⟨W.heap.size+1,2,none⟩) hEX).trans e2;have z6:=(hB7.cell (p:=⟨W.heap.size+1,3,none⟩) hEX).trans e3)
     | (go_at_call 126;refine (hpt _ (((Below.refl _ _).alloc (Nat.le_refl _) _).drew)).mono ?_;clear hpt;rintro r w7 ⟨y,lo,pl,cl,yn',ln',rfl,H7⟩;have hB7:Below X.heap.size X w7:=(((Below.refl _ _).alloc (Nat.le_refl _) _).drew).trans (H7.out.2.2.2.2.2.1.mono (by rw [show ∀ o,(X.alloc o).drew.heap.size=X.heap.size+1 from fun o=>World.size_alloc X o];omega));have z0:=(hB7.cell (p:=⟨W.heap.size,0,none⟩) hPX).trans b0;have z1:=(hB7.cell (p:=⟨S,0,none⟩) hSX).trans s0;have z2:=(hB7.cell (p:=⟨S,1,none⟩) hSX).trans s1;have z3:=(hB7.cell (p:=⟨W.heap.size+1,0,none⟩) hEX).trans e0;have z4:=(hB7.cell (p:=⟨W.heap.size+1,1,none⟩) hEX).trans e1;have z5:=(hB7.cell (p:=⟨W.heap.size+1,2,none⟩) hEX).trans e2;have z6:=(hB7.cell (p:=⟨W.heap.size+1,3,none⟩) hEX).trans e3;obtain ⟨⟨x0,x1⟩,⟨f0,f1⟩⟩:=new2 (w:=X) (B:=X.heap.size+1) (Nat.lt_succ_self _) (((Below.refl _ _).drew).trans (H7.out.2.2.2.2.2.1.mono (Nat.le_of_eq (World.size_alloc X _).symm)))))
    ·have HF:Aside (yE base S s L 0 (s.aJ (aC s.up (s.gM way kind text)) s.lows) (ans 0 ⟨#[]⟩) W (.returned (.tuple #[.func (.func 127) #[] #[.pointer (some ⟨W.heap.size,0,none⟩),.pointer (some ⟨w7.heap.size,0,none⟩)],.int .i64 0])) (w7.alloc (.cells #[.slice y.ad yn' y.cap,.slice pl ln' cl] 26))):=by
      obtain ⟨r1,r2,r3,r4,r5,r6,r7⟩:=H7.out
      subst r1 r2
      rw [HC.out.2.1]
      have hB8:Below w7.heap.size w7 (w7.alloc (.cells #[.slice y.ad y.es.length y.cap,.slice pl lo.length cl] 26)):=((Grown.refl w7).alloc _).below
      refine AY HA.out.1 HA.out.2.1 (Below.onto (Below.onto HC.out.1 hB7) hB8) ((hB8.cell (p:=⟨W.heap.size,0,none⟩) (Nat.lt_of_lt_of_le hPX hB7.size)).trans z0) ⟨by simp,by simp⟩ (St.on (UnOK.st r5 r7 (fun b hb=>?_)) (Keep.of_below _ hB8)) r3 r4 (HC.out.2.2 (by trivial))
      exact Nat.lt_of_lt_of_le (HA.out.1.cK hb).2 HC.out.1.size
     clear H7 hB7
     go_wp2
     go_ret2
     exact HF.out
    ·have HF:Aside (yE base S s L 0 (s.aJ (aC s.up (s.gM way kind text)) s.lows) (ans 0 ⟨#[]⟩) W (.returned (.tuple #[.func (.func 127) #[] #[.pointer (some ⟨W.heap.size,0,none⟩),.pointer (some ⟨X.heap.size,0,none⟩)],.int .i64 0])) ((w7.setCell ⟨X.heap.size,0,none⟩ (.slice y.ad yn' y.cap)).setCell ⟨X.heap.size,1,none⟩ (.slice pl ln' cl))):=by
      obtain ⟨r1,r2,r3,r4,r5,r6,r7⟩:=H7.out
      subst r1 r2
      rw [HC.out.2.1]
      have hsz:∀ o,(X.alloc o).drew.heap.size=X.heap.size+1:=fun o=>World.size_alloc X o
      have hbx:w7.heap[X.heap.size]?=some (.cells #[.slice none 0 0,.slice none 0 0] 26):=(r6.block _ (by rw [hsz];omega)).trans (heap_alloc_last X _)
      have k2:=aH (aH hbx 0 (.slice y.ad y.es.length y.cap)) 1 (.slice pl lo.length cl)
      have hB8:Below X.heap.size X ((w7.setCell ⟨X.heap.size,0,none⟩ (.slice y.ad y.es.length y.cap)).setCell ⟨X.heap.size,1,none⟩ (.slice pl lo.length cl)):=(hB7.setCell (p:=⟨X.heap.size,0,none⟩) (Nat.le_refl _) _).setCell (p:=⟨X.heap.size,1,none⟩) (Nat.le_refl _) _
      have hst:St (fun b=>Sp S s L b∨b=X.heap.size) w7 (fun X=>UnOK X y lo pl cl):=UnOK.st r5 r7 (fun b hb=>by
       rw [hsz]
       rcases hb with hb | rfl
       ·have h1:=(HA.out.1.cK hb).2;have h2:=HC.out.1.size;omega
       ·omega)
      refine AY HA.out.1 HA.out.2.1 (Below.onto HC.out.1 hB8) ((hB8.cell (p:=⟨W.heap.size,0,none⟩) hPX).trans b0) ⟨by simp [World.cell?,k2],by simp [World.cell?,k2]⟩ (St.more (St.on hst ((Keep.set (.inr rfl) _ 0 _).trans (Keep.set (.inr rfl) _ 1 _))) (fun b _ hb=>.inl hb)) r3 r4 (HC.out.2.2 (by trivial))
     clear H7 hB7
     go_wp2
     go_ret2
     exact HF.out
   ·have hne:(ae != 0)=true:=by simpa using hz
    rw [if_neg hz,if_neg hz] at hpt
    go_region_held3 (fun w'=>w'.cell? ⟨W.heap.size,0,none⟩=some (.pointer (some ⟨S,0,none⟩))∧(w'.cell? ⟨S,0,none⟩=some (.slice L.y.ad yn L.y.cap)∧w'.cell? ⟨S,1,none⟩=some (.slice L.pl ln L.cl))∧(w'.cell? ⟨W.heap.size+1,0,none⟩=some (.string d)∧w'.cell? ⟨W.heap.size+1,1,none⟩=some (.int .i64 kind)∧w'.cell? ⟨W.heap.size+1,2,none⟩=some (.string text)∧w'.cell? ⟨W.heap.size+1,3,none⟩=some (.bool false))) (go_keep) (first
     | (go_at_call 126;refine (hpt _ (Below.refl _ _).drew).mono ?_;clear hpt;rintro r w7 ⟨y,lo,pl,cl,yn',ln',rfl,H7⟩;have hB7:Below X.heap.size X w7:=((Below.refl _ _).drew).trans H7.out.2.2.2.2.2.1;have z0:=(hB7.cell (p:=⟨W.heap.size,0,none⟩) hPX).trans b0;have z1:=(hB7.cell (p:=⟨S,0,none⟩) hSX).trans s0;have z2:=(hB7.cell (p:=⟨S,1,none⟩) hSX).trans s1;have z3:=(hB7.cell (p:=⟨W.heap.size+1,0,none⟩) hEX).trans e0;have z4:=(hB7.cell (p:=⟨W.heap.size+1,1,none⟩) hEX).trans e1;have z5:=(hB7.cell (p:=⟨W.heap.size+1,2,none⟩) hEX).trans e2;have z6:=(hB7.cell (p:=⟨W.heap.size+1,3,none⟩) hEX).trans e3)
     | (go_at_call 126;refine (hpt _ (((Below.refl _ _).alloc (Nat.le_refl _) _).drew)).mono ?_;clear hpt;rintro r w7 ⟨y,lo,pl,cl,yn',ln',rfl,H7⟩;have hB7:Below X.heap.size X w7:=(((Below.refl _ _).alloc (Nat.le_refl _) _).drew).trans (H7.out.2.2.2.2.2.1.mono (by rw [show ∀ o,(X.alloc o).drew.heap.size=X.heap.size+1 from fun o=>World.size_alloc X o];omega));have z0:=(hB7.cell (p:=⟨W.heap.size,0,none⟩) hPX).trans b0;have z1:=(hB7.cell (p:=⟨S,0,none⟩) hSX).trans s0;have z2:=(hB7.cell (p:=⟨S,1,none⟩) hSX).trans s1;have z3:=(hB7.cell (p:=⟨W.heap.size+1,0,none⟩) hEX).trans e0;have z4:=(hB7.cell (p:=⟨W.heap.size+1,1,none⟩) hEX).trans e1;have z5:=(hB7.cell (p:=⟨W.heap.size+1,2,none⟩) hEX).trans e2;have z6:=(hB7.cell (p:=⟨W.heap.size+1,3,none⟩) hEX).trans e3;obtain ⟨⟨x0,x1⟩,⟨f0,f1⟩⟩:=new2 (w:=X) (B:=X.heap.size+1) (Nat.lt_succ_self _) (((Below.refl _ _).drew).trans (H7.out.2.2.2.2.2.1.mono (Nat.le_of_eq (World.size_alloc X _).symm)))))
    ·have HF:Aside (Below W.heap.size W (w7.alloc (.cells #[.slice y.ad yn' y.cap,.slice pl ln' cl] 26))):=by
      have h1:=Below.onto HC.out.1 hB7
      exact h1.alloc h1.size _
     clear H7 hB7
     go_wp2
     go_ret2
     exact yE.no _ hz HF.out
    ·have HF:Aside (Below W.heap.size W ((w7.setCell ⟨X.heap.size,0,none⟩ (.slice y.ad yn' y.cap)).setCell ⟨X.heap.size,1,none⟩ (.slice pl ln' cl))):=Below.onto HC.out.1 ((hB7.setCell (p:=⟨X.heap.size,0,none⟩) (Nat.le_refl _) _).setCell (p:=⟨X.heap.size,1,none⟩) (Nat.le_refl _) _)
     clear H7 hB7
     go_wp2
     go_ret2
     exact yE.no _ hz HF.out
 ·have hne:(e != 0)=true:=by simpa using h0
  go_enter Tryz.func86,Tryz.ntmps86
  go_wp2_with (go_at_call 121;refine hld.mono ?_;clear hld;rintro r w3 ⟨d,rfl,hd,hB3⟩;rw [HW2.out] at hB3)
  go_ret2
  have hz:ae=e:=by rw [← HAE.out,Sy.jq,← HE.out.1,if_pos h0]
  rw [hz]
  exact yE.no _ h0 (Below.onto HA.out.2.2 hB3)
theorem JC {base:Nat} {X:World} {S:Nat} {s:Sy} {L:Lay6} (h:aj base X S s L) (B:Nat) (k:Int) (t:ByteArray) (c1:X.cell? ⟨B,1,none⟩=some (.int .i64 k)) (c2:X.cell? ⟨B,2,none⟩=some (.string t)) :
  Calls Tryz.prog 136 #[.pointer (some ⟨B,0,none⟩)] X (dN base S s L s (ans k t) X):=by
 have a1:=Lib.cell?_alloc_some (.cells #[.int .i64 0,.int .i64 0,.string ⟨#[]⟩,.slice none 0 0] 38) c1
 have a2:=Lib.cell?_alloc_some (.cells #[.int .i64 0,.int .i64 0,.string ⟨#[]⟩,.slice none 0 0] 38) c2
 have HS:Aside (aj base X S s L):=h
 clear h c1 c2
 go_enter Tryz.func136,Tryz.ntmps136
 go_wp2
 refine bodyPost_ret (v:=.agg #[.int .i64 0,.int .i64 k,.string t,.slice none 0 0]) (by simp [results,Tryz.results136,go_sem]) rfl ?_
 have hB:∀ o,Below X.heap.size X (X.alloc o):=fun o=>((Grown.refl X).alloc o).below
 exact ⟨_,L,rfl,HS.out.kept (hB _),iR _ _ _ _,(hB _).mono (Nat.le_trans HS.out.base.1 (Nat.le_of_lt HS.out.lt)),fun b hb=>hb,Keep.of_below _ (hB _),fun b hb=>.inl hb⟩
theorem Jr {base:Nat} {X:World} {S:Nat} {s:Sy} {L:Lay6} (h:aj base X S s L) (B:Nat) (p:Option Addr) (c:Nat) (bs:List ByteArray) (n:Nat) (hn:n=bs.length) (c1:X.cell? ⟨B,0,none⟩=some (.slice p n c)) (hc:bs.length≤c) (hp:p=none→c=0) (hL:St (Sp S s L) X (fun Y=>fI Y p bs)) (l:List (List UInt8)) (hl:bs.map (·.data.toList)=l) :
  Calls Tryz.prog 135 #[.pointer (some ⟨B,0,none⟩)] X (dN base S s L s ⟨0,0,⟨#[]⟩,l⟩ X):=by
 have a1:=Lib.cell?_alloc_some (.cells #[.int .i64 0,.int .i64 0,.string ⟨#[]⟩,.slice none 0 0] 38) c1
 have HS:Aside (aj base X S s L∧n=bs.length∧bs.length≤c∧(p=none→c=0)∧St (Sp S s L) X (fun Y=>fI Y p bs)∧bs.map (·.data.toList)=l):=⟨h,hn,hc,hp,hL,hl⟩
 clear h c1 hn hc hp hL hl
 go_enter Tryz.func135,Tryz.ntmps135
 go_wp2
 refine bodyPost_ret (v:=.agg #[.int .i64 0,.int .i64 0,.string ⟨#[]⟩,.slice p n c]) (by simp [results,Tryz.results135,go_sem]) rfl ?_
 have hB:∀ o,Below X.heap.size X (X.alloc o):=fun o=>((Grown.refl X).alloc o).below
 obtain ⟨h,hn,hc,hp,hL,hl⟩:=HS.out
 subst hn
 exact ⟨_,L,rfl,h.kept (hB _),⟨p,c,bs,rfl,hl,hc,hp,hL.on (Keep.of_below _ (hB _))⟩,(hB _).mono (Nat.le_trans h.base.1 (Nat.le_of_lt h.lt)),fun b hb=>hb,Keep.of_below _ (hB _),fun b hb=>.inl hb⟩
namespace PM
def Sy.sV (s:Sy) (way:ByteArray):Int:=if ¬ (aP s.seen true way.data.toList).1=0 then (aP s.seen true way.data.toList).1 else if (getL s.seen (aP s.seen true way.data.toList).2).isSome then 0 else 6
def Sy.sU (s:Sy) (way:ByteArray):An:=ans ((getL s.seen (aP s.seen true way.data.toList).2).getD zeroE).kind ((getL s.seen (aP s.seen true way.data.toList).2).getD zeroE).text
end PM
set_option maxHeartbeats 1000000 in
theorem Hf {base:Nat} {W:World} {S:Nat} {s:Sy} {L:Lay6} (h:aj base W S s L) (hg:Gl base W) (way:ByteArray) (hw:way.size≤maxLen) :
  Calls Tryz.prog 90 #[.pointer (some ⟨S,0,none⟩),.string way] W (yE base S s L (s.sV way) s (s.sU way) W):=by
 obtain ⟨m,hm⟩:=hg.2
 have hld:=kG s.seen way true W S L.ps L.sc m h.cells.2.2 h.data.now.seen (aK s.all) hw hm
 have HA:Aside (aj base W S s L):=h
 obtain ⟨e,he⟩:∃ e,e=(aP s.seen true way.data.toList).1:=⟨_,rfl⟩
 obtain ⟨q,hq⟩:∃ q,q=(aP s.seen true way.data.toList).2:=⟨_,rfl⟩
 have hq80:q.length≤80:=by rw [hq];exact kH _ _ _
 unfold Sy.sV Sy.sU
 rw [← he,← hq] at hld ⊢
 clear hm he hq h hg
 by_cases h0:e=0
 ·subst h0
  simp only [not_true_eq_false,if_false]
  have hgt:=fun (d:ByteArray) (hd:d.data.toList=q) Y (hY:Below W.heap.size W Y)=>pK HA.out hY d (by have:=szl d;rw [hd] at this;unfold maxLen;omega) ((getL s.seen q).getD zeroE) (by rw [hd]) s.seen.length rfl
  obtain ⟨sn,hsn⟩:∃ sn,sn=s.seen.length:=⟨_,rfl⟩
  have HSN:Aside (sn=s.seen.length):=hsn
  rw [← hsn] at hgt
  generalize (getL s.seen q).getD zeroE=x at hgt ⊢
  obtain ⟨xp,xk,xt,xo⟩:=x
  simp only at hgt ⊢
  clear hsn
  cases hb:(getL s.seen q).isSome with
  | false =>
   simp only [Bool.false_eq_true,if_false]
   go_enter Tryz.func90,Tryz.ntmps90
   go_wp2_with (first
    | (go_at_call 121;refine hld.mono ?_;clear hld;rintro r w3 ⟨d,rfl,hd,hB3⟩;have hgd:=hgt d hd w3 hB3;rw [hd,hb] at hgd;clear hgt;have c2:=(HA.out.kept hB3).cells.2.2;rw [← HSN.out] at c2)
    | (go_at_call 27;refine hgd.mono ?_;clear hgd;rintro r w4 ⟨rfl,hB4⟩))
   go_ret2
   have hB:=Below.onto hB3 hB4
   exact yE.no _ (by decide) (hB.alloc hB.size _)
  | true =>
   simp only [if_true]
   go_enter Tryz.func90,Tryz.ntmps90
   go_wp2_with (first
    | (go_at_call 121;refine hld.mono ?_;clear hld;rintro r w3 ⟨d,rfl,hd,hB3⟩;have hgd:=hgt d hd w3 hB3;rw [hd,hb] at hgd;clear hgt;have c2:=(HA.out.kept hB3).cells.2.2;rw [← HSN.out] at c2)
    | (go_at_call 27;refine hgd.mono ?_;clear hgd;rintro r w4 ⟨rfl,hB4⟩))
   go_ret2
   have hB:=Below.onto hB3 hB4
   have hB5:=hB.alloc hB.size (.cells #[.string xp,.int .i64 xk,.string xt,.bool xo] 53)
   exact ⟨_,rfl,hB5,fun _=>⟨_,_,rfl,enters_of Tryz.func136 (by kernel_rfl) rfl,JC (HA.out.kept hB5) w4.heap.size xk xt (by simp) (by simp)⟩⟩
 ·have hne:(e != 0)=true:=by simpa using h0
  rw [if_pos h0]
  go_enter Tryz.func90,Tryz.ntmps90
  go_wp2_with (go_at_call 121;refine hld.mono ?_;clear hld;rintro r w3 ⟨d,rfl,hd,hB3⟩)
  go_ret2
  exact yE.no _ h0 hB3
theorem fI.st {sp:Nat→Prop} {w:World} {p:Option Addr} {bs:List ByteArray} (h:fI w p bs) (hn:∀ b off s,p=some ⟨b,off,s⟩→¬ sp b):St sp w (fun Y=>fI Y p bs):=fun X hX=>by
 rcases h with h | ⟨b,off,hp,hb,hc⟩
 ·exact .inl h
 ·exact .inr ⟨b,off,hp,Nat.lt_of_lt_of_le hb hX.size,fun j x hx=>(bR (hX.block b hb (hn b off none hp)) _).trans (hc j x hx)⟩
namespace PM
def Sy.sN (s:Sy) (way:ByteArray):Int:=if ¬ (aP s.seen true way.data.toList).1=0 then (aP s.seen true way.data.toList).1 else (kW s.seen (aP s.seen true way.data.toList).2).2
def Sy.sM (s:Sy) (way:ByteArray):An:=⟨0,0,⟨#[]⟩,(kW s.seen (aP s.seen true way.data.toList).2).1⟩
end PM
set_option maxHeartbeats 1000000 in
theorem AJ {base:Nat} {W:World} {S:Nat} {s:Sy} {L:Lay6} (h:aj base W S s L) (hg:Gl base W) (way:ByteArray) (hw:way.size≤maxLen) :
  Calls Tryz.prog 89 #[.pointer (some ⟨S,0,none⟩),.string way] W (yE base S s L (s.sN way) s (s.sM way) W):=by
 obtain ⟨m,hm⟩:=hg.2
 have hld:=kG s.seen way true W S L.ps L.sc m h.cells.2.2 h.data.now.seen (aK s.all) hw hm
 have HA:Aside (aj base W S s L):=h
 obtain ⟨e,he⟩:∃ e,e=(aP s.seen true way.data.toList).1:=⟨_,rfl⟩
 obtain ⟨q,hq⟩:∃ q,q=(aP s.seen true way.data.toList).2:=⟨_,rfl⟩
 have hq80:q.length≤80:=by rw [hq];exact kH _ _ _
 unfold Sy.sN Sy.sM
 rw [← he,← hq] at hld ⊢
 clear hm he hq h hg
 by_cases h0:e=0
 ·subst h0
  simp only [not_true_eq_false,if_false]
  have hgt:=fun (d:ByteArray) (hd:d.data.toList=q) Y (hY:Below W.heap.size W Y)=>za s.seen d L.ps L.sc Y (HA.out.kept hY).data.now.seen (xE s) (aK s.all) (by have:=szl d;rw [hd] at this;unfold maxLen;omega)
  obtain ⟨sn,hsn⟩:∃ sn,sn=s.seen.length:=⟨_,rfl⟩
  have HSN:Aside (sn=s.seen.length):=hsn
  rw [← hsn] at hgt
  clear hsn
  go_enter Tryz.func89,Tryz.ntmps89
  go_wp2_with (first
   | (go_at_call 121;refine hld.mono ?_;clear hld;rintro r w3 ⟨d,rfl,hd,hB3⟩;have hgd:=hgt d hd w3 hB3;rw [hd] at hgd;clear hgt;have c2:=(HA.out.kept hB3).cells.2.2;rw [← HSN.out] at c2)
   | (go_at_call 134;refine hgd.mono ?_;clear hgd;intro r w4 hE;obtain ⟨p1,k1,cc1,bs1,rfl,HS1,HB4⟩:=bH hE;clear hE))
  go_ret2
  have hB:=Below.onto hB3 HB4.out
  have hB4:=((Grown.refl w4).alloc (.cells #[.slice p1 k1 cc1] 36)).below
  have hB5:=Below.onto hB hB4
  obtain ⟨hk1,hS1,hl1⟩:=HS1.out
  subst hk1
  obtain ⟨p2,c2',hv,hLS,hcap,hnil,hfar⟩:=hS1.vC
  injection hv with e1 e2 e3
  subst e1 e3
  refine ⟨_,rfl,hB5,fun _=>⟨_,_,rfl,enters_of Tryz.func135 (by kernel_rfl) rfl,Jr (HA.out.kept hB5) w4.heap.size _ _ bs1 _ rfl (by simp) hcap hnil (St.on (fI.st hLS (fun b off s' e hsp=>?_)) (Keep.of_below _ hB4)) _ hl1⟩⟩
  have h1:=hfar b off s' e
  have h2:=(HA.out.cK hsp).2
  have h3:=hB3.size
  omega
 ·have hne:(e != 0)=true:=by simpa using h0
  rw [if_pos h0]
  go_enter Tryz.func89,Tryz.ntmps89
  go_wp2_with (go_at_call 121;refine hld.mono ?_;clear hld;rintro r w3 ⟨d,rfl,hd,hB3⟩)
  go_ret2
  exact yE.no _ h0 hB3
theorem St.aside {W:World} {S:Nat} {s:Sy} {L:Lay6} {F:World→Prop} (h:St (Sp S s L) W F) (o:Obj):St (Sp S s { L with ex:=fun b=>b=W.heap.size∨L.ex b }) (W.alloc o) F:=fun Y hY=>by
 have hB:Below W.heap.size W (W.alloc o):=((Grown.refl W).alloc _).below
 exact h Y ⟨Nat.le_trans hB.size hY.size,fun b hb hn=>(hY.block b (Nat.lt_of_lt_of_le hb hB.size) (fun hs=>hn (by
   rcases hs with (rfl | (rfl | hx)) | hs
   ·exact .inl (.inl rfl)
   ·omega
   ·exact .inl (.inr hx)
   ·exact .inr hs))).trans (hB.block b hb)⟩
theorem Sp.upd {S:Nat} {s:Sy} {L:Lay6} {g:Fl→Fl} {l:List Nat} {b:Nat}:Sp S (s.dF g l) L b↔Sp S s L b:=by simp [Sp,Sy.dF]
theorem St.sp {sp sp':Nat→Prop} {W:World} {F:World→Prop} (h:St sp W F) (hs:∀ b,sp' b→sp b):St sp' W F:=h.more fun b _ hb=>hs b hb
theorem aj.exNe {base:Nat} {W:World} {S:Nat} {s:Sy} {L:Lay6} (h:aj base W S s L) {B:Nat} (hB:W.heap.size≤B):¬ Sp S s L B:=fun hb=>absurd (h.cK hb).2 (by omega)
theorem dD.upd (s:Sy) (g:Fl→Fl) (l:List Nat) (a:List Ent) (b:List (List Ent)):dD s ((s.dF g l).aJ a b):=⟨rfl,by simp [Sy.dF,Sy.aJ]⟩
set_option maxHeartbeats 1000000 in
theorem GX {base:Nat} {X:World} {S:Nat} {s:Sy} {L:Lay6} (h:aj base X S s L) (hg:Gl base X) (B0 B1 B2:Nat) (hb0:X.cell? ⟨B0,0,none⟩=some (.pointer (some ⟨S,0,none⟩))) (q:ByteArray) (hbq:X.cell? ⟨B1,0,none⟩=some (.string q)) (hN0:¬ Sp S s L B0) (hN1:¬ Sp S s L B1) (hN2:¬ Sp S s L B2) (y:Lay) (lo:List Lay) (pl:Option Addr) (cl:Nat) (hb1:fD X B2 y lo pl cl) (hU:St (Sp S s L) X (fun X=>UnOK X y lo pl cl)) (h0:(ay (y.es::lo.map (·.es))).1=0) (hsz:∀ i∈s.reach,∀ f,s.files[i]?=some f→f.path.size≤80) :
  Calls Tryz.prog 129 #[.pointer (some ⟨B0,0,none⟩),.pointer (some ⟨B1,0,none⟩),.pointer (some ⟨B2,0,none⟩)] X (dN base S s L ((s.release q).aJ y.es (lo.map (·.es))) (ans 0 ⟨#[]⟩) X):=by
 obtain ⟨c0,c1⟩:=hb1
 have hbase:base≤X.heap.size:=Nat.le_trans h.base.1 (Nat.le_of_lt h.lt)
 obtain ⟨L1,hL1⟩:∃ L1:Lay6,L1={ L with ex:=fun b=>b=X.heap.size∨L.ex b }:=⟨_,rfl⟩
 obtain ⟨X1,hX1⟩:∃ X1,X.alloc (.cells #[.int .i64 0,.int .i64 0,.string ⟨#[]⟩,.slice none 0 0] 38)=X1:=⟨_,rfl⟩
 have hB1:Below X.heap.size X X1:=by rw [← hX1];exact ((Grown.refl X).alloc _).below
 have h1:=h.aside (.cells #[.int .i64 0,.int .i64 0,.string ⟨#[]⟩,.slice none 0 0] 38)
 have hU1:=St.aside hU (.cells #[.int .i64 0,.int .i64 0,.string ⟨#[]⟩,.slice none 0 0] 38)
 rw [hX1,← hL1] at h1 hU1
 have hx1:L1.ex X.heap.size:=by rw [hL1];exact .inl rfl
 have hbk1:X1.heap[X.heap.size]?=some (.cells #[.int .i64 0,.int .i64 0,.string ⟨#[]⟩,.slice none 0 0] 38):=by rw [← hX1];exact heap_alloc_last X _
 have hsp1:∀ b,b<X.heap.size→Sp S s L1 b→Sp S s L b:=by
  rintro b hb hs
  rw [hL1] at hs
  rcases hs with (rfl | (rfl | hx)) | hs
  ·exact .inl (.inl rfl)
  ·omega
  ·exact .inl (.inr hx)
  ·exact .inr hs
 have hrel:=tZ h1 q hsz
 have HA:Aside (aj base X1 S s L1∧Gl base X1∧St (Sp S s L1) X1 (fun X=>UnOK X y lo pl cl)∧(ay (y.es::lo.map (·.es))).1=0∧Below base X X1∧L1.ex X.heap.size∧X1.heap[X.heap.size]?=some (.cells #[.int .i64 0,.int .i64 0,.string ⟨#[]⟩,.slice none 0 0] 38)∧S<X.heap.size∧¬ Fb s L1 X.heap.size):=⟨h1,hg.kept (hB1.mono hbase),hU1,h0,hB1.mono hbase,hx1,hbk1,h.lt,fun ⟨i,hi,e⟩=>by rw [hL1] at e;have e:X.heap.size=L.fb i:=e;have:=h.flt hi;omega⟩
 have l0:=block_lt_of_cell hb0
 have l1:=block_lt_of_cell hbq
 have l2:=block_lt_of_cell c0
 simp only at l0 l1 l2
 have HK:Aside (∀ X2,Keep (Sp S s L1) X1 X2→X2.cell? ⟨B0,0,none⟩=some (.pointer (some ⟨S,0,none⟩))∧X2.cell? ⟨B2,0,none⟩=some (.slice y.ad y.es.length y.cap)∧X2.cell? ⟨B2,1,none⟩=some (.slice pl lo.length cl)):=by
  show ∀ X2,_
  intro X2 hk
  have f0:X2.heap[B0]?=X.heap[B0]?:=(hk.block B0 (Nat.lt_of_lt_of_le l0 hB1.size) (fun hs=>hN0 (hsp1 _ l0 hs))).trans (hB1.block _ l0)
  have f2:X2.heap[B2]?=X.heap[B2]?:=(hk.block B2 (Nat.lt_of_lt_of_le l2 hB1.size) (fun hs=>hN2 (hsp1 _ l2 hs))).trans (hB1.block _ l2)
  exact ⟨(bR f0 0).trans hb0,(bR f2 0).trans c0,(bR f2 1).trans c1⟩
 have a0:=Lib.cell?_alloc_some (.cells #[.int .i64 0,.int .i64 0,.string ⟨#[]⟩,.slice none 0 0] 38) hb0
 have a1:=Lib.cell?_alloc_some (.cells #[.int .i64 0,.int .i64 0,.string ⟨#[]⟩,.slice none 0 0] 38) hbq
 have HE:Aside (X.alloc (.cells #[.int .i64 0,.int .i64 0,.string ⟨#[]⟩,.slice none 0 0] 38)=X1):=hX1
 have HKX:Aside (Below X.heap.size X X1∧L1.ex=(fun b=>b=X.heap.size∨L.ex b)∧L1.fb=L.fb∧L1.ob=L.ob):=⟨hB1,by rw [hL1],by rw [hL1],by rw [hL1]⟩
 rw [← hX1] at hrel
 clear h hg hU h0 hB1 h1 hU1 hX1 hb0 hbq c0 c1 hsz hx1 hbk1 hsp1 hL1 hN0 hN1 hN2 l0 l1 l2
 obtain ⟨yn,hyn⟩:∃ yn,yn=y.es.length:=⟨_,rfl⟩
 obtain ⟨ln,hln⟩:∃ ln,ln=lo.length:=⟨_,rfl⟩
 have HN:Aside (yn=y.es.length∧ln=lo.length):=⟨hyn,hln⟩
 rw [← hyn,← hln] at HK
 clear hyn hln
 go_enter Tryz.func129,Tryz.ntmps129
 go_wp2_with (first
  | (go_at_call 130;refine hrel.mono ?_;clear hrel;rintro r X2 ⟨rfl,hA2,hB2,hk2⟩;rw [HE.out] at hB2 hk2;obtain ⟨t0,t1,t2⟩:=HK.out X2 (hk2.weak fun b hb=>.inr (.inr hb));have hst:=jV hA2 (HA.out.2.1.kept hB2) y lo pl cl ((HA.out.2.2.1.on (hk2.weak fun b hb=>.inr (.inr hb))).sp fun b hb=>Sp.upd.1 hb) HA.out.2.2.2.1;rw [← HN.out.1,← HN.out.2] at hst;have H2:Aside (Below base X X2∧X2.heap[X.heap.size]?=some (.cells #[.int .i64 0,.int .i64 0,.string ⟨#[]⟩,.slice none 0 0] 38)∧Keep (Fb s L1) X1 X2):=⟨HA.out.2.2.2.2.1.trans hB2,(hk2.block _ (Array.getElem?_eq_some_iff.1 HA.out.2.2.2.2.2.2.1).1 HA.out.2.2.2.2.2.2.2.2).trans HA.out.2.2.2.2.2.2.1,hk2⟩;clear hA2 hB2 hk2)
  | (go_at_call 124;refine hst.mono ?_;clear hst;rintro r X3 ⟨rfl,hS3⟩;obtain ⟨L3,hA3,ho3,hf3,hx3,hb3,hk3⟩:=hS3;have hbk:X3.heap[X.heap.size]?=some (.cells #[.int .i64 0,.int .i64 0,.string ⟨#[]⟩,.slice none 0 0] 38):=(hk3.block _ (Array.getElem?_eq_some_iff.1 H2.out.2.1).1 (fun e=>by have:=HA.out.2.2.2.2.2.2.2.1;omega)).trans H2.out.2.1;have H3:Aside (Mid base S s L ((s.release q).aJ y.es (lo.map (·.es))) L3 X X3):=⟨hA3,⟨ho3.trans HKX.out.2.2.2,hf3.trans HKX.out.2.2.1,fun b=>(by rw [hx3,HKX.out.2.1])⟩,H2.out.1.trans hb3,(Keep.mine HKX.out.1 H2.out.2.2 (fun b ⟨i,hi,e⟩=>.inr (.inr ⟨i,hi,by rw [← HKX.out.2.2.1];exact e⟩))).trans (hk3.weak fun b hb=>.inl hb),hbk⟩;obtain ⟨⟨d0,d1,d2,d3⟩,z0,z1,z2,z3⟩:=bK hbk;clear hA3 hx3 hb3 hk3 hbk))
 refine bodyPost_ret (v:=.agg #[.int .i64 0,.int .i64 0,.string ⟨#[]⟩,.slice none 0 0]) (by simp [results,Tryz.results129,go_sem,d0,d1,d2,d3]) rfl ?_
 exact H3.out.fin (dD.upd _ _ _ _ _) _ _ _ _ (fun W=>iR _ _ _ _)
namespace PM
theorem qB {s s':Sy} (h1:s'.fds=s.fds) (h2:s'.opens=s.opens):∀ k,s'.aZ k=s.aZ k
 | 0=>rfl
 | k+1=>by
  have h3:∀ j,s'.fileOf j=s.fileOf j:=fun j=>by rw [Sy.fileOf,Sy.fileOf,h2]
  rw [Sy.aZ,Sy.aZ,h1,qB h1 h2 k]
  cases s.fds k with
  | none=>rfl
  | some j=>simp only [h3]
def Sy.renamed (s:Sy) (fr q:ByteArray):Sy:=if fr.data.toList=q.data.toList then s.carry fr q else (s.release q).carry fr q
theorem GR {s:Sy} {q:ByteArray} (h:∀ i∈s.reach,∀ f,s.files[i]?=some f→f.path.size≤80):∀ i∈(s.release q).reach,∀ f,(s.release q).files[i]?=some f→f.path.size≤80:=by
 intro i hi f hf
 rw [show (s.release q).reach=s.reach from qB rfl rfl 32] at hi
 have hf:(s.files.mapIdx fun i f=>if i∈s.reach then s.relF q f else f)[i]?=some f:=hf
 rw [List.getElem?_mapIdx] at hf
 cases hg:s.files[i]? with
 | none=>rw [hg] at hf;cases hf
 | some g =>
  rw [hg] at hf
  have h1:=h i hi g hg
  simp only [Option.map_some,if_pos hi,Option.some.injEq] at hf
  rw [← hf,Sy.relF]
  split
  ·show (ByteArray.mk #[]).size≤80;decide
  ·exact h1
end PM
theorem dD.ren (s:Sy) (fr q:ByteArray) (a:List Ent) (b:List (List Ent)):dD s ((s.renamed fr q).aJ a b):=by
 unfold Sy.renamed
 split
 ·exact dD.upd _ _ _ _ _
 ·exact ⟨rfl,by simp [Sy.carry,Sy.release,Sy.dF,Sy.aJ]⟩
theorem Jf {s:Sy} {g:Fl→Fl} {l:List Nat} {L:Lay6} {b:Nat} (h:Fb (s.dF g l) L b):Fb s L b:=by simpa [Fb,Sy.dF] using h
set_option maxHeartbeats 1000000 in
theorem GY {base:Nat} {X:World} {S:Nat} {s:Sy} {L:Lay6} (h:aj base X S s L) (hg:Gl base X) (B0 B1 B2 Bf:Nat) (hb0:X.cell? ⟨B0,0,none⟩=some (.pointer (some ⟨S,0,none⟩))) (fr q:ByteArray) (hfr:fr.size≤80) (hq80:q.size≤80) (hbf:X.cell? ⟨Bf,0,none⟩=some (.string fr)) (hNf:¬ Sp S s L Bf) (hbq:X.cell? ⟨B1,0,none⟩=some (.string q)) (hN0:¬ Sp S s L B0) (hN1:¬ Sp S s L B1) (hN2:¬ Sp S s L B2) (y:Lay) (lo:List Lay) (pl:Option Addr) (cl:Nat) (hb1:fD X B2 y lo pl cl) (hU:St (Sp S s L) X (fun X=>UnOK X y lo pl cl)) (h0:(ay (y.es::lo.map (·.es))).1=0) (hsz:∀ i∈s.reach,∀ f,s.files[i]?=some f→f.path.size≤80) :
  Calls Tryz.prog 132 #[.pointer (some ⟨Bf,0,none⟩),.pointer (some ⟨B1,0,none⟩),.pointer (some ⟨B0,0,none⟩),.pointer (some ⟨B2,0,none⟩)] X (dN base S s L ((s.renamed fr q).aJ y.es (lo.map (·.es))) (ans 0 ⟨#[]⟩) X):=by
 obtain ⟨c0,c1⟩:=hb1
 have hbase:base≤X.heap.size:=Nat.le_trans h.base.1 (Nat.le_of_lt h.lt)
 obtain ⟨L1,hL1⟩:∃ L1:Lay6,L1={ L with ex:=fun b=>b=X.heap.size∨L.ex b }:=⟨_,rfl⟩
 obtain ⟨X1,hX1⟩:∃ X1,X.alloc (.cells #[.int .i64 0,.int .i64 0,.string ⟨#[]⟩,.slice none 0 0] 38)=X1:=⟨_,rfl⟩
 have hB1:Below X.heap.size X X1:=by rw [← hX1];exact ((Grown.refl X).alloc _).below
 have h1:=h.aside (.cells #[.int .i64 0,.int .i64 0,.string ⟨#[]⟩,.slice none 0 0] 38)
 have hU1:=St.aside hU (.cells #[.int .i64 0,.int .i64 0,.string ⟨#[]⟩,.slice none 0 0] 38)
 rw [hX1,← hL1] at h1 hU1
 have hx1:L1.ex X.heap.size:=by rw [hL1];exact .inl rfl
 have hbk1:X1.heap[X.heap.size]?=some (.cells #[.int .i64 0,.int .i64 0,.string ⟨#[]⟩,.slice none 0 0] 38):=by rw [← hX1];exact heap_alloc_last X _
 have hsp1:∀ b,b<X.heap.size→Sp S s L1 b→Sp S s L b:=by
  rintro b hb hs
  rw [hL1] at hs
  rcases hs with (rfl | (rfl | hx)) | hs
  ·exact .inl (.inl rfl)
  ·omega
  ·exact .inl (.inr hx)
  ·exact .inr hs
 have hrel:=tZ h1 q hsz
 have hcar1:=wQ h1 fr q hfr hq80 hsz
 have HZ:Aside (∀ i∈s.reach,∀ f,s.files[i]?=some f→f.path.size≤80):=hsz
 have HA:Aside (aj base X1 S s L1∧Gl base X1∧St (Sp S s L1) X1 (fun X=>UnOK X y lo pl cl)∧(ay (y.es::lo.map (·.es))).1=0∧Below base X X1∧L1.ex X.heap.size∧X1.heap[X.heap.size]?=some (.cells #[.int .i64 0,.int .i64 0,.string ⟨#[]⟩,.slice none 0 0] 38)∧S<X.heap.size∧¬ Fb s L1 X.heap.size):=⟨h1,hg.kept (hB1.mono hbase),hU1,h0,hB1.mono hbase,hx1,hbk1,h.lt,fun ⟨i,hi,e⟩=>by rw [hL1] at e;have e:X.heap.size=L.fb i:=e;have:=h.flt hi;omega⟩
 have l0:=block_lt_of_cell hb0
 have l1:=block_lt_of_cell hbq
 have lf:=block_lt_of_cell hbf
 have l2:=block_lt_of_cell c0
 simp only at l0 l1 l2 lf
 have HK:Aside (∀ X2,Keep (Sp S s L1) X1 X2→X2.cell? ⟨B0,0,none⟩=some (.pointer (some ⟨S,0,none⟩))∧X2.cell? ⟨B2,0,none⟩=some (.slice y.ad y.es.length y.cap)∧X2.cell? ⟨B2,1,none⟩=some (.slice pl lo.length cl)∧X2.cell? ⟨B1,0,none⟩=some (.string q)∧X2.cell? ⟨Bf,0,none⟩=some (.string fr)):=by
  show ∀ X2,_
  intro X2 hk
  have f0:X2.heap[B0]?=X.heap[B0]?:=(hk.block B0 (Nat.lt_of_lt_of_le l0 hB1.size) (fun hs=>hN0 (hsp1 _ l0 hs))).trans (hB1.block _ l0)
  have f2:X2.heap[B2]?=X.heap[B2]?:=(hk.block B2 (Nat.lt_of_lt_of_le l2 hB1.size) (fun hs=>hN2 (hsp1 _ l2 hs))).trans (hB1.block _ l2)
  have f1:X2.heap[B1]?=X.heap[B1]?:=(hk.block B1 (Nat.lt_of_lt_of_le l1 hB1.size) (fun hs=>hN1 (hsp1 _ l1 hs))).trans (hB1.block _ l1)
  have ff:X2.heap[Bf]?=X.heap[Bf]?:=(hk.block Bf (Nat.lt_of_lt_of_le lf hB1.size) (fun hs=>hNf (hsp1 _ lf hs))).trans (hB1.block _ lf)
  exact ⟨(bR f0 0).trans hb0,(bR f2 0).trans c0,(bR f2 1).trans c1,(bR f1 0).trans hbq,(bR ff 0).trans hbf⟩
 have a0:=Lib.cell?_alloc_some (.cells #[.int .i64 0,.int .i64 0,.string ⟨#[]⟩,.slice none 0 0] 38) hb0
 have a1:=Lib.cell?_alloc_some (.cells #[.int .i64 0,.int .i64 0,.string ⟨#[]⟩,.slice none 0 0] 38) hbq
 have af:=Lib.cell?_alloc_some (.cells #[.int .i64 0,.int .i64 0,.string ⟨#[]⟩,.slice none 0 0] 38) hbf
 have HE:Aside (X.alloc (.cells #[.int .i64 0,.int .i64 0,.string ⟨#[]⟩,.slice none 0 0] 38)=X1):=hX1
 have HKX:Aside (Below X.heap.size X X1∧L1.ex=(fun b=>b=X.heap.size∨L.ex b)∧L1.fb=L.fb∧L1.ob=L.ob):=⟨hB1,by rw [hL1],by rw [hL1],by rw [hL1]⟩
 rw [← hX1] at hrel hcar1
 clear h hg hU h0 hB1 h1 hU1 hX1 hb0 hbq hbf c0 c1 hsz hx1 hbk1 hsp1 hL1 hN0 hN1 hN2 hNf l0 l1 l2 lf
 obtain ⟨yn,hyn⟩:∃ yn,yn=y.es.length:=⟨_,rfl⟩
 obtain ⟨ln,hln⟩:∃ ln,ln=lo.length:=⟨_,rfl⟩
 have HN:Aside (yn=y.es.length∧ln=lo.length):=⟨hyn,hln⟩
 rw [← hyn,← hln] at HK
 clear hyn hln
 by_cases heq:fr.data.toList=q.data.toList
 ·have hq1:(fr.toList == q.toList)=true:=by rw [Lib.toList_data,Lib.toList_data,heq];simp
  have RN:∀ {X3 L3},aj base X3 S ((s.carry fr q).aJ y.es (lo.map (·.es))) L3→aj base X3 S ((s.renamed fr q).aJ y.es (lo.map (·.es))) L3:=by
   intro X3 L3 h;rw [Sy.renamed,if_pos heq];exact h
  have hcar:=hcar1
  clear hcar1 hrel
  go_enter Tryz.func132,Tryz.ntmps132
  go_wp2_with (first
   | (go_at_call 133;refine hcar.mono ?_;clear hcar;rintro r X2 ⟨rfl,hA2,hB2,hk2⟩;rw [HE.out] at hB2 hk2;obtain ⟨t0,t1,t2,t3,t4⟩:=HK.out X2 (hk2.weak fun b hb=>.inr (.inr hb));have hst:=jV hA2 (HA.out.2.1.kept hB2) y lo pl cl ((HA.out.2.2.1.on (hk2.weak fun b hb=>.inr (.inr hb))).sp fun b hb=>Sp.upd.1 hb) HA.out.2.2.2.1;rw [← HN.out.1,← HN.out.2] at hst;have H2:Aside (Below base X X2∧X2.heap[X.heap.size]?=some (.cells #[.int .i64 0,.int .i64 0,.string ⟨#[]⟩,.slice none 0 0] 38)∧Keep (Fb s L1) X1 X2):=⟨HA.out.2.2.2.2.1.trans hB2,(hk2.block _ (Array.getElem?_eq_some_iff.1 HA.out.2.2.2.2.2.2.1).1 HA.out.2.2.2.2.2.2.2.2).trans HA.out.2.2.2.2.2.2.1,hk2⟩;clear hA2 hB2 hk2)
   | (go_at_call 124;refine hst.mono ?_;clear hst;rintro r X3 ⟨rfl,hS3⟩;obtain ⟨L3,hA3,ho3,hf3,hx3,hb3,hk3⟩:=hS3;have hbk:X3.heap[X.heap.size]?=some (.cells #[.int .i64 0,.int .i64 0,.string ⟨#[]⟩,.slice none 0 0] 38):=(hk3.block _ (Array.getElem?_eq_some_iff.1 H2.out.2.1).1 (fun e=>by have:=HA.out.2.2.2.2.2.2.2.1;omega)).trans H2.out.2.1;have H3:Aside (Mid base S s L ((s.renamed fr q).aJ y.es (lo.map (·.es))) L3 X X3):=⟨RN hA3,⟨ho3.trans HKX.out.2.2.2,hf3.trans HKX.out.2.2.1,fun b=>(by rw [hx3,HKX.out.2.1])⟩,H2.out.1.trans hb3,(Keep.mine HKX.out.1 H2.out.2.2 (fun b ⟨i,hi,e⟩=>.inr (.inr ⟨i,hi,by rw [← HKX.out.2.2.1];exact e⟩))).trans (hk3.weak fun b hb=>.inl hb),hbk⟩;obtain ⟨⟨d0,d1,d2,d3⟩,z0,z1,z2,z3⟩:=bK hbk;clear hA3 hx3 hb3 hk3 hbk))
  refine bodyPost_ret (v:=.agg #[.int .i64 0,.int .i64 0,.string ⟨#[]⟩,.slice none 0 0]) (by simp [results,Tryz.results132,go_sem,d0,d1,d2,d3]) rfl ?_
  exact H3.out.fin (dD.ren _ _ _ _ _) _ _ _ _ (fun W=>iR _ _ _ _)
 ·have hq1:(fr.toList == q.toList)=false:=by rw [Lib.toList_data,Lib.toList_data];simpa using heq
  have RN:∀ {X3 L3},aj base X3 S (((s.release q).carry fr q).aJ y.es (lo.map (·.es))) L3→aj base X3 S ((s.renamed fr q).aJ y.es (lo.map (·.es))) L3:=by
   intro X3 L3 h;rw [Sy.renamed,if_neg heq];exact h
  clear hcar1
  go_enter Tryz.func132,Tryz.ntmps132
  go_wp2_with (first
   | (go_at_call 130;refine hrel.mono ?_;clear hrel;rintro r Xr ⟨rfl,hAr,hBr,hkr⟩;rw [HE.out] at hBr hkr;obtain ⟨t0',t1',t2',t3',t4'⟩:=HK.out Xr (hkr.weak fun b hb=>.inr (.inr hb));have hcar:=wQ hAr fr q hfr hq80 (GR HZ.out))
   | (go_at_call 133;refine hcar.mono ?_;clear hcar;rintro r X2 ⟨rfl,hA2,hB2,hk2⟩;have hBB:=hBr.trans hB2;have hkk:=hkr.trans (hk2.weak fun b hb=>Jf hb);obtain ⟨t0,t1,t2,t3,t4⟩:=HK.out X2 (hkk.weak fun b hb=>.inr (.inr hb));have hst:=jV hA2 (HA.out.2.1.kept hBB) y lo pl cl ((HA.out.2.2.1.on (hkk.weak fun b hb=>.inr (.inr hb))).sp fun b hb=>Sp.upd.1 (Sp.upd.1 hb)) HA.out.2.2.2.1;rw [← HN.out.1,← HN.out.2] at hst;have H2:Aside (Below base X X2∧X2.heap[X.heap.size]?=some (.cells #[.int .i64 0,.int .i64 0,.string ⟨#[]⟩,.slice none 0 0] 38)∧Keep (Fb s L1) X1 X2):=⟨HA.out.2.2.2.2.1.trans hBB,(hkk.block _ (Array.getElem?_eq_some_iff.1 HA.out.2.2.2.2.2.2.1).1 HA.out.2.2.2.2.2.2.2.2).trans HA.out.2.2.2.2.2.2.1,hkk⟩;clear hA2 hB2 hk2)
   | (go_at_call 124;refine hst.mono ?_;clear hst;rintro r X3 ⟨rfl,hS3⟩;obtain ⟨L3,hA3,ho3,hf3,hx3,hb3,hk3⟩:=hS3;have hbk:X3.heap[X.heap.size]?=some (.cells #[.int .i64 0,.int .i64 0,.string ⟨#[]⟩,.slice none 0 0] 38):=(hk3.block _ (Array.getElem?_eq_some_iff.1 H2.out.2.1).1 (fun e=>by have:=HA.out.2.2.2.2.2.2.2.1;omega)).trans H2.out.2.1;have H3:Aside (Mid base S s L ((s.renamed fr q).aJ y.es (lo.map (·.es))) L3 X X3):=⟨RN hA3,⟨ho3.trans HKX.out.2.2.2,hf3.trans HKX.out.2.2.1,fun b=>(by rw [hx3,HKX.out.2.1])⟩,H2.out.1.trans hb3,(Keep.mine HKX.out.1 H2.out.2.2 (fun b ⟨i,hi,e⟩=>.inr (.inr ⟨i,hi,by rw [← HKX.out.2.2.1];exact e⟩))).trans (hk3.weak fun b hb=>.inl hb),hbk⟩;obtain ⟨⟨d0,d1,d2,d3⟩,z0,z1,z2,z3⟩:=bK hbk;clear hA3 hx3 hb3 hk3 hbk))
  refine bodyPost_ret (v:=.agg #[.int .i64 0,.int .i64 0,.string ⟨#[]⟩,.slice none 0 0]) (by simp [results,Tryz.results132,go_sem,d0,d1,d2,d3]) rfl ?_
  exact H3.out.fin (dD.ren _ _ _ _ _) _ _ _ _ (fun W=>iR _ _ _ _)
theorem Jz {base:Nat} {X:World} {S:Nat} {s:Sy} {L:Lay6} (h:aj base X S s L) (Bn Bo:Nat) (n:Int) (j:Nat) (o:Opn) (ho:s.opens[j]?=some o) (hbn:X.cell? ⟨Bn,0,none⟩=some (.int .i64 n)) (hbo:X.cell? ⟨Bo,0,none⟩=some (.pointer (some ⟨L.ob j,0,none⟩))) :
  Calls Tryz.prog 190 #[.pointer (some ⟨Bn,0,none⟩),.pointer (some ⟨Bo,0,none⟩)] X (dN base S s L (s.setO j { o with pos:=n }) (ans 0 ⟨#[]⟩) X):=by
 have a0:=Lib.cell?_alloc_some (.cells #[.int .i64 0,.int .i64 0,.string ⟨#[]⟩,.slice none 0 0] 38) hbn
 have a1:=Lib.cell?_alloc_some (.cells #[.int .i64 0,.int .i64 0,.string ⟨#[]⟩,.slice none 0 0] 38) hbo
 obtain ⟨⟨_,_,c2⟩,f2⟩:=h.iB ho
 have hlt:=h.olt (List.getElem?_eq_some_iff.1 ho).1
 have n1:¬ L.ob j=X.heap.size:=by omega
 have n2:¬ X.heap.size=L.ob j:=by omega
 have HS:Aside (aj base X S s L∧s.opens[j]?=some o):=⟨h,ho⟩
 clear h hbn hbo ho
 go_enter Tryz.func190,Tryz.ntmps190
 go_wp2
 refine bodyPost_ret (v:=.agg #[.int .i64 0,.int .i64 0,.string ⟨#[]⟩,.slice none 0 0]) (by simp [results,Tryz.results190,go_sem]) rfl ?_
 obtain ⟨h,ho⟩:=HS.out
 have hb:=(iw (h.opn j o ho) (.int .i64 n)).2.2
 have h2:=h.opening (o':={ o with pos:=n }) ho rfl (Keep.set (sp:=(·=L.ob j)) rfl _ 2 (.int .i64 n)) hb
 have hB:∀ (Z:World) o,Below Z.heap.size Z (Z.alloc o):=fun Z o=>((Grown.refl Z).alloc o).below
 have hb1:Below base X (X.setCell ⟨L.ob j,2,none⟩ (.int .i64 n)):=(Below.refl _ _).setCell (p:=⟨L.ob j,2,none⟩) (h.base.2.1 j (List.getElem?_eq_some_iff.1 ho).1) _
 exact ⟨_,L,rfl,h2.kept (hB _ _),iR _ _ _ _,hb1.trans ((hB _ _).mono (Nat.le_trans h2.base.1 (Nat.le_of_lt h2.lt))),fun b hb=>hb,(Keep.set (.inr (.inl ⟨j,(List.getElem?_eq_some_iff.1 ho).1,rfl⟩)) _ 2 _).trans (Keep.of_below _ (hB _ _)),fun b hb=>.inl (by simpa [Sp,Sy.setO] using hb)⟩
namespace PM
def pJ (n:Int):Int:=if n<0∨1000<n then 3 else 0
end PM
theorem G5 {base:Nat} {W:World} {S:Nat} {s:Sy} {L:Lay6} (h:aj base W S s L) (n:Int) (j:Nat) (o:Opn) (ho:s.opens[j]?=some o) :
  Calls Tryz.prog 139 #[.pointer (some ⟨L.ob j,0,none⟩),.int .i64 n] W (yE base S s L (pJ n) (s.setO j { o with pos:=n }) (ans 0 ⟨#[]⟩) W):=by
 have HS:Aside (aj base W S s L∧s.opens[j]?=some o):=⟨h,ho⟩
 have HB:Aside (Below W.heap.size W ((W.alloc (.cells #[.pointer (some ⟨L.ob j,0,none⟩)] 78)).alloc (.cells #[.int .i64 n] 3))):=((Below.refl _ _).alloc (Nat.le_refl _) _).alloc (by simp) _
 clear h ho
 unfold pJ
 by_cases h1:n<0
 ·rw [if_pos (.inl h1)]
  go_enter Tryz.func139,Tryz.ntmps139
  go_wp2
  go_ret2
  exact yE.no _ (by decide) HB.out
 by_cases h2:1000<n
 ·rw [if_pos (.inr h2)]
  go_enter Tryz.func139,Tryz.ntmps139
  go_wp2
  go_ret2
  exact yE.no _ (by decide) HB.out
 rw [if_neg (by omega)]
 go_enter Tryz.func139,Tryz.ntmps139
 go_wp2
 go_ret2
 exact ⟨_,rfl,HB.out,fun _=>⟨_,_,rfl,enters_of Tryz.func190 (by kernel_rfl) rfl,Jz (HS.out.1.kept HB.out) (W.heap.size+1) W.heap.size n j o HS.out.2 (by simp) (by simp)⟩⟩
end Go.Proofs.YthfeoiffoeagkaaGreatDoor
