/-
  (*sys.system).remove.
-/
import Derived.Test.YthfeoiffoeagkaaGreatDoorZA25
namespace Go.Proofs.YthfeoiffoeagkaaGreatDoor
open Go.RowKit PM Go.Sort
set_option linter.unusedVariables false
namespace PM
def Sy.rmQ (s:Sy) (way:ByteArray):List UInt8:=(aP s.seen false way.data.toList).2
noncomputable def Sy.jm (s:Sy) (kind:Int) (way:ByteArray):Int :=
 if ¬ (aP s.seen false way.data.toList).1=0 then (aP s.seen false way.data.toList).1
 else if ¬ (getL s.seen (s.rmQ way)).isSome=true then 6
 else if kind=7∧¬ ((getL s.seen (s.rmQ way)).getD zeroE).kind=2 then 10
 else if kind=8∧((getL s.seen (s.rmQ way)).getD zeroE).kind=2 then 9
 else if s.rmQ way=[] then 8
 else aF (ay s.all).1 (bB s.seen (s.rmQ way)) (aL s.up (au s.lows).2 (baL (s.rmQ way))).length
noncomputable def Sy.rmDo (s:Sy) (way:ByteArray):Sy:=(s.release (baL (s.rmQ way))).aJ (aL s.up (au s.lows).2 (baL (s.rmQ way))) s.lows
end PM
theorem mR {up:List Ent} {lows:List (List Ent)} {q:ByteArray} (h:aF (ay (up::lows)).1 (bB (aB (up::lows)) q.data.toList) (aL up (au lows).2 q).length=0):(ay (aL up (au lows).2 q::lows)).1=0∧aB (aL up (au lows).2 q::lows)=remL (aB (up::lows)) q.data.toList:=by
 obtain ⟨h0,h1,h2⟩:=jA.1 h
 obtain ⟨hl5,hz,_⟩:=eG.1 h0
 have hs:aB (up::lows)=(au (up::lows)).2:=by rw [aB,if_pos h0]
 have hmg:au (up::lows)=(0,aB (up::lows)):=by rw [hs];exact Prod.ext hz rfl
 obtain ⟨e1,e2⟩:=union_right (by rw [List.length_cons] at hl5 ⊢;exact hl5) ((zw hmg h1).2 h2)
 exact ⟨by rw [e1],e2⟩
theorem kQ {base:Nat} {W:World} {S:Nat} {s:Sy} {L:Lay6} (h:aj base W S s L) (hg:Gl base W) {Wf:World} (hB:Below W.heap.size W Wf) {B0 B1 B2:Nat} (l0:W.heap.size≤B0) (l1:W.heap.size≤B1) (l2:W.heap.size≤B2) (hb0:Wf.cell? ⟨B0,0,none⟩=some (.pointer (some ⟨S,0,none⟩))) {q:ByteArray} (hbq:Wf.cell? ⟨B1,0,none⟩=some (.string q)) {y:Lay} {lo:List Lay} {pl:Option Addr} {cl:Nat} (hb1:fD Wf B2 y lo pl cl) (hU:St (Sp S s L) Wf (fun X=>UnOK X y lo pl cl)) {up:List Ent} {lows:List (List Ent)} (hy:y.es=up) (hl:lo.map (·.es)=lows) (h0:(ay (up::lows)).1=0) (hsz:∀ i∈s.reach,∀ f,s.files[i]?=some f→f.path.size≤80) :
  yE base S s L 0 ((s.release q).aJ up lows) (ans 0 ⟨#[]⟩) W (.returned (.tuple #[.func (.func 129) #[] #[.pointer (some ⟨B0,0,none⟩),.pointer (some ⟨B1,0,none⟩),.pointer (some ⟨B2,0,none⟩)],.int .i64 0])) Wf:=by
 subst hy hl
 exact ⟨_,rfl,hB,fun _=>⟨_,_,rfl,enters_of Tryz.func129 (by kernel_rfl) rfl,GX (h.kept hB) (hg.kept (hB.mono (Nat.le_trans h.base.1 (Nat.le_of_lt h.lt)))) B0 B1 B2 hb0 q hbq (h.exNe l0) (h.exNe l1) (h.exNe l2) y lo pl cl hb1 hU h0 hsz⟩⟩
set_option maxRecDepth 100000 in
set_option maxHeartbeats 4000000 in
theorem qN {base:Nat} {W:World} {S:Nat} {s:Sy} {L:Lay6} (h:aj base W S s L) (hg:Gl base W) (ck co cf cn cm:Int) (cp ct cx:ByteArray) (ca:Bool) (hw:cp.size≤maxLen) (hsz:∀ i∈s.reach,∀ f,s.files[i]?=some f→f.path.size≤80) (hkk:ck=7∨ck=8) :
  Calls Tryz.prog 87 #[.pointer (some ⟨S,0,none⟩),.agg #[.int .i64 ck,.int .i64 co,.int .i64 cf,.int .i64 cn,.int .i64 cm,.string cp,.string ct,.string cx,.bool ca]] W (yE base S s L (s.jm ck cp) (s.rmDo cp) (ans 0 ⟨#[]⟩) W):=by
 obtain ⟨W2,hW2⟩:∃ W2,(W.alloc (.cells #[.pointer (some ⟨S,0,none⟩)] 76)).alloc (.cells #[.int .i64 ck,.int .i64 co,.int .i64 cf,.int .i64 cn,.int .i64 cm,.string cp,.string ct,.string cx,.bool ca] 50)=W2:=⟨_,rfl⟩
 have hB2:Below W.heap.size W W2:=by rw [← hW2];exact ((Below.refl _ _).alloc (Nat.le_refl _) _).alloc (by simp) _
 have hs2:W2.heap.size=W.heap.size+2:=by rw [← hW2];simp
 have h2:=h.kept hB2
 have hbase:base≤W.heap.size:=Nat.le_trans h.base.1 (Nat.le_of_lt h.lt)
 obtain ⟨m,hm⟩:=(hg.kept (hB2.mono hbase)).2
 have hld:=kG s.seen cp false W2 S L.ps L.sc m h2.cells.2.2 h2.data.now.seen (aK s.all) hw hm
 have HA:Aside (aj base W S s L∧Gl base W∧Below W.heap.size W W2∧(∀ i∈s.reach,∀ f,s.files[i]?=some f→f.path.size≤80)):=⟨h,hg,hB2,hsz⟩
 obtain ⟨e,he⟩:∃ e,e=(aP s.seen false cp.data.toList).1:=⟨_,rfl⟩
 obtain ⟨q,hq⟩:∃ q,q=(aP s.seen false cp.data.toList).2:=⟨_,rfl⟩
 have HE:Aside (e=(aP s.seen false cp.data.toList).1∧q=(aP s.seen false cp.data.toList).2):=⟨he,hq⟩
 rw [← he,← hq] at hld
 rw [← hW2] at hld
 have HW2:Aside ((W.alloc (.cells #[.pointer (some ⟨S,0,none⟩)] 76)).alloc (.cells #[.int .i64 ck,.int .i64 co,.int .i64 cf,.int .i64 cn,.int .i64 cm,.string cp,.string ct,.string cx,.bool ca] 50)=W2):=hW2
 clear h2 hm he hq h hg hB2 hW2 hsz
 generalize hae:s.jm ck cp=ae
 have HAE:Aside (s.jm ck cp=ae):=hae
 clear hae
 by_cases h0:e=0
 ·subst h0
  have hq80:q.length≤80:=by rw [HE.out.2];exact kH _ _ _
  have HAE2:Aside (ae=if ¬ (getL s.seen q).isSome=true then 6 else if ck=7∧¬ ((getL s.seen q).getD zeroE).kind=2 then 10 else if ck=8∧((getL s.seen q).getD zeroE).kind=2 then 9 else if q=[] then 8 else aF (ay s.all).1 (bB s.seen q) (aL s.up (au s.lows).2 (baL q)).length):=by
   have e1:s.rmQ cp=q:=HE.out.2.symm
   show ae=_
   rw [← HAE.out,Sy.jm,if_neg (by rw [← HE.out.1];simp),e1]
  go_enter Tryz.func87,Tryz.ntmps87
  go_wp2_with (go_at_call 121;refine hld.mono ?_;clear hld;rintro r w3 ⟨d,rfl,hd,hB3⟩;rw [HW2.out] at hB3)
  have hX0:Below W.heap.size W (w3.alloc (.cells #[.string d] 9)):=by
   have h1:=Below.onto HA.out.2.2.1 hB3
   exact h1.alloc h1.size _
  have h3s:=hB3.size
  have nb:Below w3.heap.size w3 (w3.alloc (.cells #[.string d] 9)):=((Grown.refl w3).alloc _).below
  have bx0:(w3.alloc (.cells #[.string d] 9)).heap[W.heap.size]?=some (.cells #[.pointer (some ⟨S,0,none⟩)] 76):=(nb.block _ (by omega)).trans ((hB3.block _ (by omega)).trans (iI HW2.out))
  have bx1:(w3.alloc (.cells #[.string d] 9)).heap[W.heap.size+1]?=some (.cells #[.int .i64 ck,.int .i64 co,.int .i64 cf,.int .i64 cn,.int .i64 cm,.string cp,.string ct,.string cx,.bool ca] 50):=(nb.block _ (by omega)).trans ((hB3.block _ (by omega)).trans (dY HW2.out))
  have bx2:(w3.alloc (.cells #[.string d] 9)).heap[w3.heap.size]?=some (.cells #[.string d] 9):=heap_alloc_last w3 _
  have hl3:W.heap.size+2≤w3.heap.size:=by omega
  obtain ⟨Bp,hBp⟩:∃ Bp,Bp=w3.heap.size:=⟨_,rfl⟩
  rw [← hBp] at bx2 hl3 ⊢
  generalize w3.alloc (.cells #[.string d] 9)=X0 at hX0 bx0 bx1 bx2 ⊢
  clear nb hB3 h3s hBp
  have b0:X0.cell? ⟨W.heap.size,0,none⟩=some (.pointer (some ⟨S,0,none⟩)):=by simp [World.cell?,bx0]
  have k0:X0.cell? ⟨W.heap.size+1,0,none⟩=some (.int .i64 ck):=by simp [World.cell?,bx1]
  have p0:X0.cell? ⟨Bp,0,none⟩=some (.string d):=by simp [World.cell?,bx2]
  have hkX:=HA.out.1.kept hX0
  obtain ⟨s0,s1,s2⟩:=hkX.cells
  have hd80:d.size≤80:=by have:=szl d;rw [hd] at this;omega
  have hgt:=fun Y (hY:Below X0.heap.size X0 Y)=>pK hkX hY d (by unfold maxLen;omega) ((getL s.seen q).getD zeroE) (by rw [hd]) s.seen.length rfl
  rw [hd] at hgt
  obtain ⟨sn,hsn⟩:∃ sn,sn=s.seen.length:=⟨_,rfl⟩
  obtain ⟨yn,hyn⟩:∃ yn,yn=L.y.es.length:=⟨_,rfl⟩
  obtain ⟨ln,hln⟩:∃ ln,ln=L.lo.length:=⟨_,rfl⟩
  obtain ⟨th,hth⟩:∃ th,th=(getL s.seen q).isSome:=⟨_,rfl⟩
  have HN:Aside (sn=s.seen.length∧yn=L.y.es.length∧ln=L.lo.length∧th=(getL s.seen q).isSome):=⟨hsn,hyn,hln,hth⟩
  rw [← hsn] at s2 hgt
  rw [← hyn] at s0
  rw [← hln] at s1
  rw [← hth] at hgt
  have HAE3:Aside (ae=if ¬ th=true then 6 else if ck=7∧¬ ((getL s.seen q).getD zeroE).kind=2 then 10 else if ck=8∧((getL s.seen q).getD zeroE).kind=2 then 9 else if q=[] then 8 else aF (ay s.all).1 (bB s.seen q) (aL s.up (au s.lows).2 (baL q)).length):=by show ae=_;rw [HAE2.out,hth]
  generalize (getL s.seen q).getD zeroE=x at hgt HAE3
  obtain ⟨xp,xk,xt,xo⟩:=x
  simp only at hgt HAE3
  clear hsn hyn hln hth HAE2
  have lS:S<X0.heap.size:=hkX.lt
  have l0:W.heap.size<X0.heap.size:=(Array.getElem?_eq_some_iff.1 bx0).1
  have l1:W.heap.size+1<X0.heap.size:=(Array.getElem?_eq_some_iff.1 bx1).1
  have l2:Bp<X0.heap.size:=(Array.getElem?_eq_some_iff.1 bx2).1
  have n0:=World.new_ne X0 ⟨S,2,none⟩ s2
  have n1:=World.new_ne X0 ⟨W.heap.size,0,none⟩ b0
  have n2:=World.new_ne X0 ⟨Bp,0,none⟩ p0
  have n3:=World.new_ne X0 ⟨W.heap.size+1,0,none⟩ k0
  clear hkX bx0 bx1 bx2
  go_region_held3 (fun w'=>w'.cell? ⟨W.heap.size,0,none⟩=some (.pointer (some ⟨S,0,none⟩))∧w'.cell? ⟨S,2,none⟩=some (.slice L.ps sn L.sc)∧w'.cell? ⟨Bp,0,none⟩=some (.string d)) (go_keep) (first
   | (go_at_call 27;refine (hgt _ (Below.refl _ _).drew).mono ?_;clear hgt;rintro r w4 ⟨rfl,hB4⟩;have hB5:Below X0.heap.size X0 w4:=((Below.refl _ _).drew).trans hB4;have z0:=(hB5.cell (p:=⟨W.heap.size,0,none⟩) l0).trans b0;have z1:=(hB5.cell (p:=⟨S,2,none⟩) lS).trans s2;have z2:=(hB5.cell (p:=⟨Bp,0,none⟩) l2).trans p0)
   | (go_at_call 27;refine (hgt _ (((Below.refl _ _).alloc (Nat.le_refl _) _).drew)).mono ?_;clear hgt;rintro r w4 ⟨rfl,hB4⟩;have hB5:Below X0.heap.size X0 w4:=(((Below.refl _ _).alloc (Nat.le_refl _) _).drew).trans (hB4.mono (by rw [show ∀ o,(X0.alloc o).drew.heap.size=X0.heap.size+1 from fun o=>World.size_alloc X0 o];omega));have z0:=(hB5.cell (p:=⟨W.heap.size,0,none⟩) l0).trans b0;have z1:=(hB5.cell (p:=⟨S,2,none⟩) lS).trans s2;have z2:=(hB5.cell (p:=⟨Bp,0,none⟩) l2).trans p0;obtain ⟨⟨x0,x1,x2,x3⟩,⟨f0,f1,f2,f3⟩⟩:=new4 (w:=X0) (B:=X0.heap.size+1) (Nat.lt_succ_self _) (((Below.refl _ _).drew).trans (hB4.mono (Nat.le_of_eq (World.size_alloc X0 _).symm)))))
  ·have hZ:Below X0.heap.size X0 (w4.alloc (.cells #[.string xp,.int .i64 xk,.string xt,.bool xo] 53)):=hB5.alloc hB5.size _
   have ye:(w4.alloc (.cells #[.string xp,.int .i64 xk,.string xt,.bool xo] 53)).cell? ⟨w4.heap.size,1,none⟩=some (.int .i64 xk):=by simp
   generalize w4.alloc (.cells #[.string xp,.int .i64 xk,.string xt,.bool xo] 53)=X at hZ ye ⊢
   generalize w4.heap.size=Be at ye ⊢
   have HX:Aside (Below W.heap.size W X):=Below.onto hX0 hZ
   have b0:=(hZ.cell (p:=⟨W.heap.size,0,none⟩) l0).trans b0
   have k0:=(hZ.cell (p:=⟨W.heap.size+1,0,none⟩) l1).trans k0
   have p0:=(hZ.cell (p:=⟨Bp,0,none⟩) l2).trans p0
   have s0:=(hZ.cell (p:=⟨S,0,none⟩) lS).trans s0
   have s1:=(hZ.cell (p:=⟨S,1,none⟩) lS).trans s1
   have hSX:S<X.heap.size:=Nat.lt_of_lt_of_le lS hZ.size
   have hPX:W.heap.size<X.heap.size:=Nat.lt_of_lt_of_le l0 hZ.size
   have hDX:Bp<X.heap.size:=Nat.lt_of_lt_of_le l2 hZ.size
   have n1:=World.new_ne X ⟨S,0,none⟩ s0
   have n2:=World.new_ne X ⟨W.heap.size,0,none⟩ b0
   have n3:=World.new_ne X ⟨Bp,0,none⟩ p0
   clear z0 z1 z2 n0 hZ hB4 hB5 hX0 lS l0 l1 l2
   cases th with
   | false =>
    go_wp2
    go_ret2
    rw [HAE3.out,if_pos (by simp)]
    exact yE.no _ (by decide) HX.out
   | true =>
    rcases hkk with rfl | rfl
    ·by_cases e2:xk=2
     ·subst e2
      have hA1:¬ ((7:Int)=7∧¬ (2:Int)=2):=by simp
      have hA2:¬ ((7:Int)=8∧(2:Int)=2):=by simp
      by_cases hq0:q=[]
      ·have hdl:d.data.toList=[]:=hd.trans hq0
       have hde:d=⟨#[]⟩:=dz hdl
       have HZ:Aside (ae=8):=by show ae=8;rw [HAE3.out,if_neg (by simp),if_neg hA1,if_neg hA2,if_pos hq0]
       clear hdl hd hq0 hA1 hA2 HAE3 HAE HE
       subst hde
       go_wp2
       go_ret2
       rw [HZ.out]
       exact yE.no _ (by decide) HX.out
      ·have hde:d.toList.isEmpty=false:=by rw [Lib.toList_data,hd];simpa using hq0
       go_wp2
       have hq:¬ q=[]:=hq0
       have hae:ae=aF (ay s.all).1 (bB s.seen q) (aL s.up (au s.lows).2 (baL q)).length:=by rw [HAE3.out,if_neg (by simp),if_neg hA1,if_neg hA2,if_neg hq0]
       have hbd:baL q=d:=dz (by rw [hd];simp [baL])
       rw [hbd,← hd] at hae
       have hpt:∀ Y,Below X.heap.size X Y→Calls Tryz.prog 128 #[.agg #[.slice L.y.ad yn L.y.cap,.slice L.pl ln L.cl],.string d] Y (PutP Y ae (if ae=0 then aL s.up (au s.lows).2 d else []) (if ae=0 then s.lows else [])):=fun Y hY=>by
        obtain ⟨m',hm'⟩:=(HA.out.2.1.kept ((Below.onto HX.out hY).mono hbase)).2
        rw [HN.out.2.1,HN.out.2.2.1]
        refine (jI L.y L.lo m' L.pl L.cl d (by unfold maxLen;omega) Y ((HA.out.1.kept HX.out).kept hY).data.now.un hm').mono fun r w' h=>?_
        have h:=h.putP
        rw [HA.out.1.up,HA.out.1.low,show aF (ay (s.up::s.lows)).1 (bB (aB (s.up::s.lows)) d.data.toList) (aL s.up (au s.lows).2 d).length=ae from hae.symm] at h
        exact h
       have HC:Aside (Below W.heap.size W X∧s.rmDo cp=(s.release d).aJ (aL s.up (au s.lows).2 d) s.lows∧(ae=0→(ay (aL s.up (au s.lows).2 d::s.lows)).1=0)):=⟨HX.out,by rw [Sy.rmDo,show s.rmQ cp=q from HE.out.2.symm,hbd],fun h=>(mR (show aF (ay (s.up::s.lows)).1 _ _=0 from hae.symm.trans h)).1⟩
       clear hae hbd hA1 hA2
       by_cases hz:ae=0
       ·subst hz
        simp only [if_true] at hpt
        go_region_held3 (fun w'=>w'.cell? ⟨W.heap.size,0,none⟩=some (.pointer (some ⟨S,0,none⟩))∧w'.cell? ⟨S,0,none⟩=some (.slice L.y.ad yn L.y.cap)∧w'.cell? ⟨S,1,none⟩=some (.slice L.pl ln L.cl)∧w'.cell? ⟨Bp,0,none⟩=some (.string d)) (go_keep) (first
         | (go_at_call 128;refine (hpt _ (Below.refl _ _).drew).mono ?_;clear hpt;rintro r w7 ⟨y,lo,pl,cl,yn',ln',rfl,H7⟩;have hB7:Below X.heap.size X w7:=((Below.refl _ _).drew).trans H7.out.2.2.2.2.2.1;have z0:=(hB7.cell (p:=⟨W.heap.size,0,none⟩) hPX).trans b0;have z1:=(hB7.cell (p:=⟨S,0,none⟩) hSX).trans s0;have z2:=(hB7.cell (p:=⟨S,1,none⟩) hSX).trans s1;have z3:=(hB7.cell (p:=⟨Bp,0,none⟩) hDX).trans p0)
         | (go_at_call 128;refine (hpt _ (((Below.refl _ _).alloc (Nat.le_refl _) _).drew)).mono ?_;clear hpt;rintro r w7 ⟨y,lo,pl,cl,yn',ln',rfl,H7⟩;have hB7:Below X.heap.size X w7:=(((Below.refl _ _).alloc (Nat.le_refl _) _).drew).trans (H7.out.2.2.2.2.2.1.mono (by rw [show ∀ o,(X.alloc o).drew.heap.size=X.heap.size+1 from fun o=>World.size_alloc X o];omega));have z0:=(hB7.cell (p:=⟨W.heap.size,0,none⟩) hPX).trans b0;have z1:=(hB7.cell (p:=⟨S,0,none⟩) hSX).trans s0;have z2:=(hB7.cell (p:=⟨S,1,none⟩) hSX).trans s1;have z3:=(hB7.cell (p:=⟨Bp,0,none⟩) hDX).trans p0;obtain ⟨⟨x0,x1⟩,⟨f0,f1⟩⟩:=new2 (w:=X) (B:=X.heap.size+1) (Nat.lt_succ_self _) (((Below.refl _ _).drew).trans (H7.out.2.2.2.2.2.1.mono (Nat.le_of_eq (World.size_alloc X _).symm)))))
        ·have HF:Aside (yE base S s L 0 (s.rmDo cp) (ans 0 ⟨#[]⟩) W (.returned (.tuple #[.func (.func 129) #[] #[.pointer (some ⟨W.heap.size,0,none⟩),.pointer (some ⟨Bp,0,none⟩),.pointer (some ⟨w7.heap.size,0,none⟩)],.int .i64 0])) (w7.alloc (.cells #[.slice y.ad yn' y.cap,.slice pl ln' cl] 26))):=by
          obtain ⟨r1,r2,r3,r4,r5,r6,r7⟩:=H7.out
          subst r1 r2
          have hB8:Below w7.heap.size w7 (w7.alloc (.cells #[.slice y.ad y.es.length y.cap,.slice pl lo.length cl] 26)):=((Grown.refl w7).alloc _).below
          have hBX:Below X.heap.size X (w7.alloc (.cells #[.slice y.ad y.es.length y.cap,.slice pl lo.length cl] 26)):=Below.onto hB7 hB8
          have hUB:fD (w7.alloc (.cells #[.slice y.ad y.es.length y.cap,.slice pl lo.length cl] 26)) w7.heap.size y lo pl cl:=⟨by simp,by simp⟩
          have hST:St (Sp S s L) (w7.alloc (.cells #[.slice y.ad y.es.length y.cap,.slice pl lo.length cl] 26)) (fun X=>UnOK X y lo pl cl):=St.on (UnOK.st r5 r7 (fun b hb=>Nat.lt_of_lt_of_le (HA.out.1.cK hb).2 HC.out.1.size)) (Keep.of_below _ hB8)
          have hlB:W.heap.size≤w7.heap.size:=Nat.le_trans HC.out.1.size hB7.size
          rw [HC.out.2.1]
          exact kQ HA.out.1 HA.out.2.1 (Below.onto HC.out.1 hBX) (Nat.le_refl _) (by omega) hlB ((hBX.cell (p:=⟨W.heap.size,0,none⟩) hPX).trans b0) ((hBX.cell (p:=⟨Bp,0,none⟩) hDX).trans p0) hUB hST r3 r4 (HC.out.2.2 (by trivial)) HA.out.2.2.2
         clear H7 hB7
         go_wp2
         go_ret2
         exact HF.out
        ·have HF:Aside (yE base S s L 0 (s.rmDo cp) (ans 0 ⟨#[]⟩) W (.returned (.tuple #[.func (.func 129) #[] #[.pointer (some ⟨W.heap.size,0,none⟩),.pointer (some ⟨Bp,0,none⟩),.pointer (some ⟨X.heap.size,0,none⟩)],.int .i64 0])) ((w7.setCell ⟨X.heap.size,0,none⟩ (.slice y.ad yn' y.cap)).setCell ⟨X.heap.size,1,none⟩ (.slice pl ln' cl))):=by
          obtain ⟨r1,r2,r3,r4,r5,r6,r7⟩:=H7.out
          subst r1 r2
          have hsz1:∀ o,(X.alloc o).drew.heap.size=X.heap.size+1:=fun o=>World.size_alloc X o
          have hbx:w7.heap[X.heap.size]?=some (.cells #[.slice none 0 0,.slice none 0 0] 26):=(r6.block _ (by rw [hsz1];omega)).trans (heap_alloc_last X _)
          have k2:=aH (aH hbx 0 (.slice y.ad y.es.length y.cap)) 1 (.slice pl lo.length cl)
          have hBX:Below X.heap.size X ((w7.setCell ⟨X.heap.size,0,none⟩ (.slice y.ad y.es.length y.cap)).setCell ⟨X.heap.size,1,none⟩ (.slice pl lo.length cl)):=(hB7.setCell (p:=⟨X.heap.size,0,none⟩) (Nat.le_refl _) _).setCell (p:=⟨X.heap.size,1,none⟩) (Nat.le_refl _) _
          have hst:St (fun b=>Sp S s L b∨b=X.heap.size) w7 (fun X=>UnOK X y lo pl cl):=UnOK.st r5 r7 (fun b hb=>by
           rw [hsz1]
           rcases hb with hb | rfl
           ·have h1:=(HA.out.1.cK hb).2;have h2:=HC.out.1.size;omega
           ·omega)
          have hUB:fD ((w7.setCell ⟨X.heap.size,0,none⟩ (.slice y.ad y.es.length y.cap)).setCell ⟨X.heap.size,1,none⟩ (.slice pl lo.length cl)) X.heap.size y lo pl cl:=⟨by simp [World.cell?,k2],by simp [World.cell?,k2]⟩
          have hST:St (Sp S s L) ((w7.setCell ⟨X.heap.size,0,none⟩ (.slice y.ad y.es.length y.cap)).setCell ⟨X.heap.size,1,none⟩ (.slice pl lo.length cl)) (fun X=>UnOK X y lo pl cl):=St.more (St.on hst ((Keep.set (.inr rfl) _ 0 _).trans (Keep.set (.inr rfl) _ 1 _))) (fun b _ hb=>.inl hb)
          have hlB:W.heap.size≤X.heap.size:=HC.out.1.size
          rw [HC.out.2.1]
          exact kQ HA.out.1 HA.out.2.1 (Below.onto HC.out.1 hBX) (Nat.le_refl _) (by omega) hlB ((hBX.cell (p:=⟨W.heap.size,0,none⟩) hPX).trans b0) ((hBX.cell (p:=⟨Bp,0,none⟩) hDX).trans p0) hUB hST r3 r4 (HC.out.2.2 (by trivial)) HA.out.2.2.2
         clear H7 hB7
         go_wp2
         go_ret2
         exact HF.out
       ·have hne:(ae != 0)=true:=by simpa using hz
        rw [if_neg hz,if_neg hz] at hpt
        go_region_held3 (fun w'=>w'.cell? ⟨W.heap.size,0,none⟩=some (.pointer (some ⟨S,0,none⟩))∧w'.cell? ⟨S,0,none⟩=some (.slice L.y.ad yn L.y.cap)∧w'.cell? ⟨S,1,none⟩=some (.slice L.pl ln L.cl)∧w'.cell? ⟨Bp,0,none⟩=some (.string d)) (go_keep) (first
         | (go_at_call 128;refine (hpt _ (Below.refl _ _).drew).mono ?_;clear hpt;rintro r w7 ⟨y,lo,pl,cl,yn',ln',rfl,H7⟩;have hB7:Below X.heap.size X w7:=((Below.refl _ _).drew).trans H7.out.2.2.2.2.2.1;have z0:=(hB7.cell (p:=⟨W.heap.size,0,none⟩) hPX).trans b0;have z1:=(hB7.cell (p:=⟨S,0,none⟩) hSX).trans s0;have z2:=(hB7.cell (p:=⟨S,1,none⟩) hSX).trans s1;have z3:=(hB7.cell (p:=⟨Bp,0,none⟩) hDX).trans p0)
         | (go_at_call 128;refine (hpt _ (((Below.refl _ _).alloc (Nat.le_refl _) _).drew)).mono ?_;clear hpt;rintro r w7 ⟨y,lo,pl,cl,yn',ln',rfl,H7⟩;have hB7:Below X.heap.size X w7:=(((Below.refl _ _).alloc (Nat.le_refl _) _).drew).trans (H7.out.2.2.2.2.2.1.mono (by rw [show ∀ o,(X.alloc o).drew.heap.size=X.heap.size+1 from fun o=>World.size_alloc X o];omega));have z0:=(hB7.cell (p:=⟨W.heap.size,0,none⟩) hPX).trans b0;have z1:=(hB7.cell (p:=⟨S,0,none⟩) hSX).trans s0;have z2:=(hB7.cell (p:=⟨S,1,none⟩) hSX).trans s1;have z3:=(hB7.cell (p:=⟨Bp,0,none⟩) hDX).trans p0;obtain ⟨⟨x0,x1⟩,⟨f0,f1⟩⟩:=new2 (w:=X) (B:=X.heap.size+1) (Nat.lt_succ_self _) (((Below.refl _ _).drew).trans (H7.out.2.2.2.2.2.1.mono (Nat.le_of_eq (World.size_alloc X _).symm)))))
        ·have HF:Aside (Below W.heap.size W (w7.alloc (.cells #[.slice y.ad yn' y.cap,.slice pl ln' cl] 26))):=by
          have h1:=Below.onto HC.out.1 hB7
          exact h1.alloc h1.size _
         clear H7 hB7
         go_wp2
         go_ret2
         exact yE.no _ hz HF.out
        ·have HF:Aside (Below W.heap.size W ((w7.setCell ⟨X.heap.size,0,none⟩ (.slice y.ad yn' y.cap)).setCell ⟨X.heap.size,1,none⟩ (.slice pl ln' cl))):=Below.onto HC.out.1 ((hB7.setCell (p:=⟨X.heap.size,0,none⟩) (Nat.le_refl _) _).setCell (p:=⟨X.heap.size,1,none⟩) (Nat.le_refl _) _)
         clear H7 hB7
         go_wp2
         go_ret2
         exact yE.no _ hz HF.out
     ·have e3:(xk != 2)=true:=by simpa using e2
      go_wp2
      go_ret2
      rw [HAE3.out,if_neg (by simp),if_pos (by simpa using e2)]
      exact yE.no _ (by decide) HX.out
    ·by_cases e2:xk=2
     ·subst e2
      go_wp2
      go_ret2
      rw [HAE3.out,if_neg (by simp),if_neg (by simp),if_pos (by simp)]
      exact yE.no _ (by decide) HX.out
     ·have e3:(xk == 2)=false:=by simpa using e2
      have hA1:¬ ((8:Int)=7∧¬ xk=2):=by simp
      have hA2:¬ ((8:Int)=8∧xk=2):=fun h=>e2 h.2
      by_cases hq0:q=[]
      ·have hdl:d.data.toList=[]:=hd.trans hq0
       have hde:d=⟨#[]⟩:=dz hdl
       have HZ:Aside (ae=8):=by show ae=8;rw [HAE3.out,if_neg (by simp),if_neg hA1,if_neg hA2,if_pos hq0]
       clear hdl hd hq0 hA1 hA2 HAE3 HAE HE
       subst hde
       go_wp2
       go_ret2
       rw [HZ.out]
       exact yE.no _ (by decide) HX.out
      ·have hde:d.toList.isEmpty=false:=by rw [Lib.toList_data,hd];simpa using hq0
       go_wp2
       have hq:¬ q=[]:=hq0
       have hae:ae=aF (ay s.all).1 (bB s.seen q) (aL s.up (au s.lows).2 (baL q)).length:=by rw [HAE3.out,if_neg (by simp),if_neg hA1,if_neg hA2,if_neg hq0]
       have hbd:baL q=d:=dz (by rw [hd];simp [baL])
       rw [hbd,← hd] at hae
       have hpt:∀ Y,Below X.heap.size X Y→Calls Tryz.prog 128 #[.agg #[.slice L.y.ad yn L.y.cap,.slice L.pl ln L.cl],.string d] Y (PutP Y ae (if ae=0 then aL s.up (au s.lows).2 d else []) (if ae=0 then s.lows else [])):=fun Y hY=>by
        obtain ⟨m',hm'⟩:=(HA.out.2.1.kept ((Below.onto HX.out hY).mono hbase)).2
        rw [HN.out.2.1,HN.out.2.2.1]
        refine (jI L.y L.lo m' L.pl L.cl d (by unfold maxLen;omega) Y ((HA.out.1.kept HX.out).kept hY).data.now.un hm').mono fun r w' h=>?_
        have h:=h.putP
        rw [HA.out.1.up,HA.out.1.low,show aF (ay (s.up::s.lows)).1 (bB (aB (s.up::s.lows)) d.data.toList) (aL s.up (au s.lows).2 d).length=ae from hae.symm] at h
        exact h
       have HC:Aside (Below W.heap.size W X∧s.rmDo cp=(s.release d).aJ (aL s.up (au s.lows).2 d) s.lows∧(ae=0→(ay (aL s.up (au s.lows).2 d::s.lows)).1=0)):=⟨HX.out,by rw [Sy.rmDo,show s.rmQ cp=q from HE.out.2.symm,hbd],fun h=>(mR (show aF (ay (s.up::s.lows)).1 _ _=0 from hae.symm.trans h)).1⟩
       clear hae hbd hA1 hA2
       by_cases hz:ae=0
       ·subst hz
        simp only [if_true] at hpt
        go_region_held3 (fun w'=>w'.cell? ⟨W.heap.size,0,none⟩=some (.pointer (some ⟨S,0,none⟩))∧w'.cell? ⟨S,0,none⟩=some (.slice L.y.ad yn L.y.cap)∧w'.cell? ⟨S,1,none⟩=some (.slice L.pl ln L.cl)∧w'.cell? ⟨Bp,0,none⟩=some (.string d)) (go_keep) (first
         | (go_at_call 128;refine (hpt _ (Below.refl _ _).drew).mono ?_;clear hpt;rintro r w7 ⟨y,lo,pl,cl,yn',ln',rfl,H7⟩;have hB7:Below X.heap.size X w7:=((Below.refl _ _).drew).trans H7.out.2.2.2.2.2.1;have z0:=(hB7.cell (p:=⟨W.heap.size,0,none⟩) hPX).trans b0;have z1:=(hB7.cell (p:=⟨S,0,none⟩) hSX).trans s0;have z2:=(hB7.cell (p:=⟨S,1,none⟩) hSX).trans s1;have z3:=(hB7.cell (p:=⟨Bp,0,none⟩) hDX).trans p0)
         | (go_at_call 128;refine (hpt _ (((Below.refl _ _).alloc (Nat.le_refl _) _).drew)).mono ?_;clear hpt;rintro r w7 ⟨y,lo,pl,cl,yn',ln',rfl,H7⟩;have hB7:Below X.heap.size X w7:=(((Below.refl _ _).alloc (Nat.le_refl _) _).drew).trans (H7.out.2.2.2.2.2.1.mono (by rw [show ∀ o,(X.alloc o).drew.heap.size=X.heap.size+1 from fun o=>World.size_alloc X o];omega));have z0:=(hB7.cell (p:=⟨W.heap.size,0,none⟩) hPX).trans b0;have z1:=(hB7.cell (p:=⟨S,0,none⟩) hSX).trans s0;have z2:=(hB7.cell (p:=⟨S,1,none⟩) hSX).trans s1;have z3:=(hB7.cell (p:=⟨Bp,0,none⟩) hDX).trans p0;obtain ⟨⟨x0,x1⟩,⟨f0,f1⟩⟩:=new2 (w:=X) (B:=X.heap.size+1) (Nat.lt_succ_self _) (((Below.refl _ _).drew).trans (H7.out.2.2.2.2.2.1.mono (Nat.le_of_eq (World.size_alloc X _).symm)))))
        ·have HF:Aside (yE base S s L 0 (s.rmDo cp) (ans 0 ⟨#[]⟩) W (.returned (.tuple #[.func (.func 129) #[] #[.pointer (some ⟨W.heap.size,0,none⟩),.pointer (some ⟨Bp,0,none⟩),.pointer (some ⟨w7.heap.size,0,none⟩)],.int .i64 0])) (w7.alloc (.cells #[.slice y.ad yn' y.cap,.slice pl ln' cl] 26))):=by
          obtain ⟨r1,r2,r3,r4,r5,r6,r7⟩:=H7.out
          subst r1 r2
          have hB8:Below w7.heap.size w7 (w7.alloc (.cells #[.slice y.ad y.es.length y.cap,.slice pl lo.length cl] 26)):=((Grown.refl w7).alloc _).below
          have hBX:Below X.heap.size X (w7.alloc (.cells #[.slice y.ad y.es.length y.cap,.slice pl lo.length cl] 26)):=Below.onto hB7 hB8
          have hUB:fD (w7.alloc (.cells #[.slice y.ad y.es.length y.cap,.slice pl lo.length cl] 26)) w7.heap.size y lo pl cl:=⟨by simp,by simp⟩
          have hST:St (Sp S s L) (w7.alloc (.cells #[.slice y.ad y.es.length y.cap,.slice pl lo.length cl] 26)) (fun X=>UnOK X y lo pl cl):=St.on (UnOK.st r5 r7 (fun b hb=>Nat.lt_of_lt_of_le (HA.out.1.cK hb).2 HC.out.1.size)) (Keep.of_below _ hB8)
          have hlB:W.heap.size≤w7.heap.size:=Nat.le_trans HC.out.1.size hB7.size
          rw [HC.out.2.1]
          exact kQ HA.out.1 HA.out.2.1 (Below.onto HC.out.1 hBX) (Nat.le_refl _) (by omega) hlB ((hBX.cell (p:=⟨W.heap.size,0,none⟩) hPX).trans b0) ((hBX.cell (p:=⟨Bp,0,none⟩) hDX).trans p0) hUB hST r3 r4 (HC.out.2.2 (by trivial)) HA.out.2.2.2
         clear H7 hB7
         go_wp2
         go_ret2
         exact HF.out
        ·have HF:Aside (yE base S s L 0 (s.rmDo cp) (ans 0 ⟨#[]⟩) W (.returned (.tuple #[.func (.func 129) #[] #[.pointer (some ⟨W.heap.size,0,none⟩),.pointer (some ⟨Bp,0,none⟩),.pointer (some ⟨X.heap.size,0,none⟩)],.int .i64 0])) ((w7.setCell ⟨X.heap.size,0,none⟩ (.slice y.ad yn' y.cap)).setCell ⟨X.heap.size,1,none⟩ (.slice pl ln' cl))):=by
          obtain ⟨r1,r2,r3,r4,r5,r6,r7⟩:=H7.out
          subst r1 r2
          have hsz1:∀ o,(X.alloc o).drew.heap.size=X.heap.size+1:=fun o=>World.size_alloc X o
          have hbx:w7.heap[X.heap.size]?=some (.cells #[.slice none 0 0,.slice none 0 0] 26):=(r6.block _ (by rw [hsz1];omega)).trans (heap_alloc_last X _)
          have k2:=aH (aH hbx 0 (.slice y.ad y.es.length y.cap)) 1 (.slice pl lo.length cl)
          have hBX:Below X.heap.size X ((w7.setCell ⟨X.heap.size,0,none⟩ (.slice y.ad y.es.length y.cap)).setCell ⟨X.heap.size,1,none⟩ (.slice pl lo.length cl)):=(hB7.setCell (p:=⟨X.heap.size,0,none⟩) (Nat.le_refl _) _).setCell (p:=⟨X.heap.size,1,none⟩) (Nat.le_refl _) _
          have hst:St (fun b=>Sp S s L b∨b=X.heap.size) w7 (fun X=>UnOK X y lo pl cl):=UnOK.st r5 r7 (fun b hb=>by
           rw [hsz1]
           rcases hb with hb | rfl
           ·have h1:=(HA.out.1.cK hb).2;have h2:=HC.out.1.size;omega
           ·omega)
          have hUB:fD ((w7.setCell ⟨X.heap.size,0,none⟩ (.slice y.ad y.es.length y.cap)).setCell ⟨X.heap.size,1,none⟩ (.slice pl lo.length cl)) X.heap.size y lo pl cl:=⟨by simp [World.cell?,k2],by simp [World.cell?,k2]⟩
          have hST:St (Sp S s L) ((w7.setCell ⟨X.heap.size,0,none⟩ (.slice y.ad y.es.length y.cap)).setCell ⟨X.heap.size,1,none⟩ (.slice pl lo.length cl)) (fun X=>UnOK X y lo pl cl):=St.more (St.on hst ((Keep.set (.inr rfl) _ 0 _).trans (Keep.set (.inr rfl) _ 1 _))) (fun b _ hb=>.inl hb)
          have hlB:W.heap.size≤X.heap.size:=HC.out.1.size
          rw [HC.out.2.1]
          exact kQ HA.out.1 HA.out.2.1 (Below.onto HC.out.1 hBX) (Nat.le_refl _) (by omega) hlB ((hBX.cell (p:=⟨W.heap.size,0,none⟩) hPX).trans b0) ((hBX.cell (p:=⟨Bp,0,none⟩) hDX).trans p0) hUB hST r3 r4 (HC.out.2.2 (by trivial)) HA.out.2.2.2
         clear H7 hB7
         go_wp2
         go_ret2
         exact HF.out
       ·have hne:(ae != 0)=true:=by simpa using hz
        rw [if_neg hz,if_neg hz] at hpt
        go_region_held3 (fun w'=>w'.cell? ⟨W.heap.size,0,none⟩=some (.pointer (some ⟨S,0,none⟩))∧w'.cell? ⟨S,0,none⟩=some (.slice L.y.ad yn L.y.cap)∧w'.cell? ⟨S,1,none⟩=some (.slice L.pl ln L.cl)∧w'.cell? ⟨Bp,0,none⟩=some (.string d)) (go_keep) (first
         | (go_at_call 128;refine (hpt _ (Below.refl _ _).drew).mono ?_;clear hpt;rintro r w7 ⟨y,lo,pl,cl,yn',ln',rfl,H7⟩;have hB7:Below X.heap.size X w7:=((Below.refl _ _).drew).trans H7.out.2.2.2.2.2.1;have z0:=(hB7.cell (p:=⟨W.heap.size,0,none⟩) hPX).trans b0;have z1:=(hB7.cell (p:=⟨S,0,none⟩) hSX).trans s0;have z2:=(hB7.cell (p:=⟨S,1,none⟩) hSX).trans s1;have z3:=(hB7.cell (p:=⟨Bp,0,none⟩) hDX).trans p0)
         | (go_at_call 128;refine (hpt _ (((Below.refl _ _).alloc (Nat.le_refl _) _).drew)).mono ?_;clear hpt;rintro r w7 ⟨y,lo,pl,cl,yn',ln',rfl,H7⟩;have hB7:Below X.heap.size X w7:=(((Below.refl _ _).alloc (Nat.le_refl _) _).drew).trans (H7.out.2.2.2.2.2.1.mono (by rw [show ∀ o,(X.alloc o).drew.heap.size=X.heap.size+1 from fun o=>World.size_alloc X o];omega));have z0:=(hB7.cell (p:=⟨W.heap.size,0,none⟩) hPX).trans b0;have z1:=(hB7.cell (p:=⟨S,0,none⟩) hSX).trans s0;have z2:=(hB7.cell (p:=⟨S,1,none⟩) hSX).trans s1;have z3:=(hB7.cell (p:=⟨Bp,0,none⟩) hDX).trans p0;obtain ⟨⟨x0,x1⟩,⟨f0,f1⟩⟩:=new2 (w:=X) (B:=X.heap.size+1) (Nat.lt_succ_self _) (((Below.refl _ _).drew).trans (H7.out.2.2.2.2.2.1.mono (Nat.le_of_eq (World.size_alloc X _).symm)))))
        ·have HF:Aside (Below W.heap.size W (w7.alloc (.cells #[.slice y.ad yn' y.cap,.slice pl ln' cl] 26))):=by
          have h1:=Below.onto HC.out.1 hB7
          exact h1.alloc h1.size _
         clear H7 hB7
         go_wp2
         go_ret2
         exact yE.no _ hz HF.out
        ·have HF:Aside (Below W.heap.size W ((w7.setCell ⟨X.heap.size,0,none⟩ (.slice y.ad yn' y.cap)).setCell ⟨X.heap.size,1,none⟩ (.slice pl ln' cl))):=Below.onto HC.out.1 ((hB7.setCell (p:=⟨X.heap.size,0,none⟩) (Nat.le_refl _) _).setCell (p:=⟨X.heap.size,1,none⟩) (Nat.le_refl _) _)
         clear H7 hB7
         go_wp2
         go_ret2
         exact yE.no _ hz HF.out
  ·have hZ:Below X0.heap.size X0 ((((w4.setCell ⟨X0.heap.size,0,none⟩ (.string xp)).setCell ⟨X0.heap.size,1,none⟩ (.int .i64 xk)).setCell ⟨X0.heap.size,2,none⟩ (.string xt)).setCell ⟨X0.heap.size,3,none⟩ (.bool xo)):=(((hB5.setCell (p:=⟨X0.heap.size,0,none⟩) (Nat.le_refl _) _).setCell (p:=⟨X0.heap.size,1,none⟩) (Nat.le_refl _) _).setCell (p:=⟨X0.heap.size,2,none⟩) (Nat.le_refl _) _).setCell (p:=⟨X0.heap.size,3,none⟩) (Nat.le_refl _) _
   have ye:((((w4.setCell ⟨X0.heap.size,0,none⟩ (.string xp)).setCell ⟨X0.heap.size,1,none⟩ (.int .i64 xk)).setCell ⟨X0.heap.size,2,none⟩ (.string xt)).setCell ⟨X0.heap.size,3,none⟩ (.bool xo)).cell? ⟨X0.heap.size,1,none⟩=some (.int .i64 xk):=by
    have hbx:w4.heap[X0.heap.size]?=some (.cells #[.string ⟨#[]⟩,.int .i64 0,.string ⟨#[]⟩,.bool false] 53):=(hB4.block _ (by rw [show ∀ o,(X0.alloc o).drew.heap.size=X0.heap.size+1 from fun o=>World.size_alloc X0 o];omega)).trans (heap_alloc_last X0 _)
    have k4:=aH (aH (aH (aH hbx 0 (.string xp)) 1 (.int .i64 xk)) 2 (.string xt)) 3 (.bool xo)
    simp [World.cell?,k4]
   generalize ((((w4.setCell ⟨X0.heap.size,0,none⟩ (.string xp)).setCell ⟨X0.heap.size,1,none⟩ (.int .i64 xk)).setCell ⟨X0.heap.size,2,none⟩ (.string xt)).setCell ⟨X0.heap.size,3,none⟩ (.bool xo))=X at hZ ye ⊢
   generalize X0.heap.size=Be at ye ⊢
   have HX:Aside (Below W.heap.size W X):=Below.onto hX0 hZ
   have b0:=(hZ.cell (p:=⟨W.heap.size,0,none⟩) l0).trans b0
   have k0:=(hZ.cell (p:=⟨W.heap.size+1,0,none⟩) l1).trans k0
   have p0:=(hZ.cell (p:=⟨Bp,0,none⟩) l2).trans p0
   have s0:=(hZ.cell (p:=⟨S,0,none⟩) lS).trans s0
   have s1:=(hZ.cell (p:=⟨S,1,none⟩) lS).trans s1
   have hSX:S<X.heap.size:=Nat.lt_of_lt_of_le lS hZ.size
   have hPX:W.heap.size<X.heap.size:=Nat.lt_of_lt_of_le l0 hZ.size
   have hDX:Bp<X.heap.size:=Nat.lt_of_lt_of_le l2 hZ.size
   have n1:=World.new_ne X ⟨S,0,none⟩ s0
   have n2:=World.new_ne X ⟨W.heap.size,0,none⟩ b0
   have n3:=World.new_ne X ⟨Bp,0,none⟩ p0
   clear z0 z1 z2 n0 x0 x1 x2 x3 f0 f1 f2 f3 hZ hB4 hB5 hX0 lS l0 l1 l2
   cases th with
   | false =>
    go_wp2
    go_ret2
    rw [HAE3.out,if_pos (by simp)]
    exact yE.no _ (by decide) HX.out
   | true =>
    rcases hkk with rfl | rfl
    ·by_cases e2:xk=2
     ·subst e2
      have hA1:¬ ((7:Int)=7∧¬ (2:Int)=2):=by simp
      have hA2:¬ ((7:Int)=8∧(2:Int)=2):=by simp
      by_cases hq0:q=[]
      ·have hdl:d.data.toList=[]:=hd.trans hq0
       have hde:d=⟨#[]⟩:=dz hdl
       have HZ:Aside (ae=8):=by show ae=8;rw [HAE3.out,if_neg (by simp),if_neg hA1,if_neg hA2,if_pos hq0]
       clear hdl hd hq0 hA1 hA2 HAE3 HAE HE
       subst hde
       go_wp2
       go_ret2
       rw [HZ.out]
       exact yE.no _ (by decide) HX.out
      ·have hde:d.toList.isEmpty=false:=by rw [Lib.toList_data,hd];simpa using hq0
       go_wp2
       have hq:¬ q=[]:=hq0
       have hae:ae=aF (ay s.all).1 (bB s.seen q) (aL s.up (au s.lows).2 (baL q)).length:=by rw [HAE3.out,if_neg (by simp),if_neg hA1,if_neg hA2,if_neg hq0]
       have hbd:baL q=d:=dz (by rw [hd];simp [baL])
       rw [hbd,← hd] at hae
       have hpt:∀ Y,Below X.heap.size X Y→Calls Tryz.prog 128 #[.agg #[.slice L.y.ad yn L.y.cap,.slice L.pl ln L.cl],.string d] Y (PutP Y ae (if ae=0 then aL s.up (au s.lows).2 d else []) (if ae=0 then s.lows else [])):=fun Y hY=>by
        obtain ⟨m',hm'⟩:=(HA.out.2.1.kept ((Below.onto HX.out hY).mono hbase)).2
        rw [HN.out.2.1,HN.out.2.2.1]
        refine (jI L.y L.lo m' L.pl L.cl d (by unfold maxLen;omega) Y ((HA.out.1.kept HX.out).kept hY).data.now.un hm').mono fun r w' h=>?_
        have h:=h.putP
        rw [HA.out.1.up,HA.out.1.low,show aF (ay (s.up::s.lows)).1 (bB (aB (s.up::s.lows)) d.data.toList) (aL s.up (au s.lows).2 d).length=ae from hae.symm] at h
        exact h
       have HC:Aside (Below W.heap.size W X∧s.rmDo cp=(s.release d).aJ (aL s.up (au s.lows).2 d) s.lows∧(ae=0→(ay (aL s.up (au s.lows).2 d::s.lows)).1=0)):=⟨HX.out,by rw [Sy.rmDo,show s.rmQ cp=q from HE.out.2.symm,hbd],fun h=>(mR (show aF (ay (s.up::s.lows)).1 _ _=0 from hae.symm.trans h)).1⟩
       clear hae hbd hA1 hA2
       by_cases hz:ae=0
       ·subst hz
        simp only [if_true] at hpt
        go_region_held3 (fun w'=>w'.cell? ⟨W.heap.size,0,none⟩=some (.pointer (some ⟨S,0,none⟩))∧w'.cell? ⟨S,0,none⟩=some (.slice L.y.ad yn L.y.cap)∧w'.cell? ⟨S,1,none⟩=some (.slice L.pl ln L.cl)∧w'.cell? ⟨Bp,0,none⟩=some (.string d)) (go_keep) (first
         | (go_at_call 128;refine (hpt _ (Below.refl _ _).drew).mono ?_;clear hpt;rintro r w7 ⟨y,lo,pl,cl,yn',ln',rfl,H7⟩;have hB7:Below X.heap.size X w7:=((Below.refl _ _).drew).trans H7.out.2.2.2.2.2.1;have z0:=(hB7.cell (p:=⟨W.heap.size,0,none⟩) hPX).trans b0;have z1:=(hB7.cell (p:=⟨S,0,none⟩) hSX).trans s0;have z2:=(hB7.cell (p:=⟨S,1,none⟩) hSX).trans s1;have z3:=(hB7.cell (p:=⟨Bp,0,none⟩) hDX).trans p0)
         | (go_at_call 128;refine (hpt _ (((Below.refl _ _).alloc (Nat.le_refl _) _).drew)).mono ?_;clear hpt;rintro r w7 ⟨y,lo,pl,cl,yn',ln',rfl,H7⟩;have hB7:Below X.heap.size X w7:=(((Below.refl _ _).alloc (Nat.le_refl _) _).drew).trans (H7.out.2.2.2.2.2.1.mono (by rw [show ∀ o,(X.alloc o).drew.heap.size=X.heap.size+1 from fun o=>World.size_alloc X o];omega));have z0:=(hB7.cell (p:=⟨W.heap.size,0,none⟩) hPX).trans b0;have z1:=(hB7.cell (p:=⟨S,0,none⟩) hSX).trans s0;have z2:=(hB7.cell (p:=⟨S,1,none⟩) hSX).trans s1;have z3:=(hB7.cell (p:=⟨Bp,0,none⟩) hDX).trans p0;obtain ⟨⟨x0,x1⟩,⟨f0,f1⟩⟩:=new2 (w:=X) (B:=X.heap.size+1) (Nat.lt_succ_self _) (((Below.refl _ _).drew).trans (H7.out.2.2.2.2.2.1.mono (Nat.le_of_eq (World.size_alloc X _).symm)))))
        ·have HF:Aside (yE base S s L 0 (s.rmDo cp) (ans 0 ⟨#[]⟩) W (.returned (.tuple #[.func (.func 129) #[] #[.pointer (some ⟨W.heap.size,0,none⟩),.pointer (some ⟨Bp,0,none⟩),.pointer (some ⟨w7.heap.size,0,none⟩)],.int .i64 0])) (w7.alloc (.cells #[.slice y.ad yn' y.cap,.slice pl ln' cl] 26))):=by
          obtain ⟨r1,r2,r3,r4,r5,r6,r7⟩:=H7.out
          subst r1 r2
          have hB8:Below w7.heap.size w7 (w7.alloc (.cells #[.slice y.ad y.es.length y.cap,.slice pl lo.length cl] 26)):=((Grown.refl w7).alloc _).below
          have hBX:Below X.heap.size X (w7.alloc (.cells #[.slice y.ad y.es.length y.cap,.slice pl lo.length cl] 26)):=Below.onto hB7 hB8
          have hUB:fD (w7.alloc (.cells #[.slice y.ad y.es.length y.cap,.slice pl lo.length cl] 26)) w7.heap.size y lo pl cl:=⟨by simp,by simp⟩
          have hST:St (Sp S s L) (w7.alloc (.cells #[.slice y.ad y.es.length y.cap,.slice pl lo.length cl] 26)) (fun X=>UnOK X y lo pl cl):=St.on (UnOK.st r5 r7 (fun b hb=>Nat.lt_of_lt_of_le (HA.out.1.cK hb).2 HC.out.1.size)) (Keep.of_below _ hB8)
          have hlB:W.heap.size≤w7.heap.size:=Nat.le_trans HC.out.1.size hB7.size
          rw [HC.out.2.1]
          exact kQ HA.out.1 HA.out.2.1 (Below.onto HC.out.1 hBX) (Nat.le_refl _) (by omega) hlB ((hBX.cell (p:=⟨W.heap.size,0,none⟩) hPX).trans b0) ((hBX.cell (p:=⟨Bp,0,none⟩) hDX).trans p0) hUB hST r3 r4 (HC.out.2.2 (by trivial)) HA.out.2.2.2
         clear H7 hB7
         go_wp2
         go_ret2
         exact HF.out
        ·have HF:Aside (yE base S s L 0 (s.rmDo cp) (ans 0 ⟨#[]⟩) W (.returned (.tuple #[.func (.func 129) #[] #[.pointer (some ⟨W.heap.size,0,none⟩),.pointer (some ⟨Bp,0,none⟩),.pointer (some ⟨X.heap.size,0,none⟩)],.int .i64 0])) ((w7.setCell ⟨X.heap.size,0,none⟩ (.slice y.ad yn' y.cap)).setCell ⟨X.heap.size,1,none⟩ (.slice pl ln' cl))):=by
          obtain ⟨r1,r2,r3,r4,r5,r6,r7⟩:=H7.out
          subst r1 r2
          have hsz1:∀ o,(X.alloc o).drew.heap.size=X.heap.size+1:=fun o=>World.size_alloc X o
          have hbx:w7.heap[X.heap.size]?=some (.cells #[.slice none 0 0,.slice none 0 0] 26):=(r6.block _ (by rw [hsz1];omega)).trans (heap_alloc_last X _)
          have k2:=aH (aH hbx 0 (.slice y.ad y.es.length y.cap)) 1 (.slice pl lo.length cl)
          have hBX:Below X.heap.size X ((w7.setCell ⟨X.heap.size,0,none⟩ (.slice y.ad y.es.length y.cap)).setCell ⟨X.heap.size,1,none⟩ (.slice pl lo.length cl)):=(hB7.setCell (p:=⟨X.heap.size,0,none⟩) (Nat.le_refl _) _).setCell (p:=⟨X.heap.size,1,none⟩) (Nat.le_refl _) _
          have hst:St (fun b=>Sp S s L b∨b=X.heap.size) w7 (fun X=>UnOK X y lo pl cl):=UnOK.st r5 r7 (fun b hb=>by
           rw [hsz1]
           rcases hb with hb | rfl
           ·have h1:=(HA.out.1.cK hb).2;have h2:=HC.out.1.size;omega
           ·omega)
          have hUB:fD ((w7.setCell ⟨X.heap.size,0,none⟩ (.slice y.ad y.es.length y.cap)).setCell ⟨X.heap.size,1,none⟩ (.slice pl lo.length cl)) X.heap.size y lo pl cl:=⟨by simp [World.cell?,k2],by simp [World.cell?,k2]⟩
          have hST:St (Sp S s L) ((w7.setCell ⟨X.heap.size,0,none⟩ (.slice y.ad y.es.length y.cap)).setCell ⟨X.heap.size,1,none⟩ (.slice pl lo.length cl)) (fun X=>UnOK X y lo pl cl):=St.more (St.on hst ((Keep.set (.inr rfl) _ 0 _).trans (Keep.set (.inr rfl) _ 1 _))) (fun b _ hb=>.inl hb)
          have hlB:W.heap.size≤X.heap.size:=HC.out.1.size
          rw [HC.out.2.1]
          exact kQ HA.out.1 HA.out.2.1 (Below.onto HC.out.1 hBX) (Nat.le_refl _) (by omega) hlB ((hBX.cell (p:=⟨W.heap.size,0,none⟩) hPX).trans b0) ((hBX.cell (p:=⟨Bp,0,none⟩) hDX).trans p0) hUB hST r3 r4 (HC.out.2.2 (by trivial)) HA.out.2.2.2
         clear H7 hB7
         go_wp2
         go_ret2
         exact HF.out
       ·have hne:(ae != 0)=true:=by simpa using hz
        rw [if_neg hz,if_neg hz] at hpt
        go_region_held3 (fun w'=>w'.cell? ⟨W.heap.size,0,none⟩=some (.pointer (some ⟨S,0,none⟩))∧w'.cell? ⟨S,0,none⟩=some (.slice L.y.ad yn L.y.cap)∧w'.cell? ⟨S,1,none⟩=some (.slice L.pl ln L.cl)∧w'.cell? ⟨Bp,0,none⟩=some (.string d)) (go_keep) (first
         | (go_at_call 128;refine (hpt _ (Below.refl _ _).drew).mono ?_;clear hpt;rintro r w7 ⟨y,lo,pl,cl,yn',ln',rfl,H7⟩;have hB7:Below X.heap.size X w7:=((Below.refl _ _).drew).trans H7.out.2.2.2.2.2.1;have z0:=(hB7.cell (p:=⟨W.heap.size,0,none⟩) hPX).trans b0;have z1:=(hB7.cell (p:=⟨S,0,none⟩) hSX).trans s0;have z2:=(hB7.cell (p:=⟨S,1,none⟩) hSX).trans s1;have z3:=(hB7.cell (p:=⟨Bp,0,none⟩) hDX).trans p0)
         | (go_at_call 128;refine (hpt _ (((Below.refl _ _).alloc (Nat.le_refl _) _).drew)).mono ?_;clear hpt;rintro r w7 ⟨y,lo,pl,cl,yn',ln',rfl,H7⟩;have hB7:Below X.heap.size X w7:=(((Below.refl _ _).alloc (Nat.le_refl _) _).drew).trans (H7.out.2.2.2.2.2.1.mono (by rw [show ∀ o,(X.alloc o).drew.heap.size=X.heap.size+1 from fun o=>World.size_alloc X o];omega));have z0:=(hB7.cell (p:=⟨W.heap.size,0,none⟩) hPX).trans b0;have z1:=(hB7.cell (p:=⟨S,0,none⟩) hSX).trans s0;have z2:=(hB7.cell (p:=⟨S,1,none⟩) hSX).trans s1;have z3:=(hB7.cell (p:=⟨Bp,0,none⟩) hDX).trans p0;obtain ⟨⟨x0,x1⟩,⟨f0,f1⟩⟩:=new2 (w:=X) (B:=X.heap.size+1) (Nat.lt_succ_self _) (((Below.refl _ _).drew).trans (H7.out.2.2.2.2.2.1.mono (Nat.le_of_eq (World.size_alloc X _).symm)))))
        ·have HF:Aside (Below W.heap.size W (w7.alloc (.cells #[.slice y.ad yn' y.cap,.slice pl ln' cl] 26))):=by
          have h1:=Below.onto HC.out.1 hB7
          exact h1.alloc h1.size _
         clear H7 hB7
         go_wp2
         go_ret2
         exact yE.no _ hz HF.out
        ·have HF:Aside (Below W.heap.size W ((w7.setCell ⟨X.heap.size,0,none⟩ (.slice y.ad yn' y.cap)).setCell ⟨X.heap.size,1,none⟩ (.slice pl ln' cl))):=Below.onto HC.out.1 ((hB7.setCell (p:=⟨X.heap.size,0,none⟩) (Nat.le_refl _) _).setCell (p:=⟨X.heap.size,1,none⟩) (Nat.le_refl _) _)
         clear H7 hB7
         go_wp2
         go_ret2
         exact yE.no _ hz HF.out
     ·have e3:(xk != 2)=true:=by simpa using e2
      go_wp2
      go_ret2
      rw [HAE3.out,if_neg (by simp),if_pos (by simpa using e2)]
      exact yE.no _ (by decide) HX.out
    ·by_cases e2:xk=2
     ·subst e2
      go_wp2
      go_ret2
      rw [HAE3.out,if_neg (by simp),if_neg (by simp),if_pos (by simp)]
      exact yE.no _ (by decide) HX.out
     ·have e3:(xk == 2)=false:=by simpa using e2
      have hA1:¬ ((8:Int)=7∧¬ xk=2):=by simp
      have hA2:¬ ((8:Int)=8∧xk=2):=fun h=>e2 h.2
      by_cases hq0:q=[]
      ·have hdl:d.data.toList=[]:=hd.trans hq0
       have hde:d=⟨#[]⟩:=dz hdl
       have HZ:Aside (ae=8):=by show ae=8;rw [HAE3.out,if_neg (by simp),if_neg hA1,if_neg hA2,if_pos hq0]
       clear hdl hd hq0 hA1 hA2 HAE3 HAE HE
       subst hde
       go_wp2
       go_ret2
       rw [HZ.out]
       exact yE.no _ (by decide) HX.out
      ·have hde:d.toList.isEmpty=false:=by rw [Lib.toList_data,hd];simpa using hq0
       go_wp2
       have hq:¬ q=[]:=hq0
       have hae:ae=aF (ay s.all).1 (bB s.seen q) (aL s.up (au s.lows).2 (baL q)).length:=by rw [HAE3.out,if_neg (by simp),if_neg hA1,if_neg hA2,if_neg hq0]
       have hbd:baL q=d:=dz (by rw [hd];simp [baL])
       rw [hbd,← hd] at hae
       have hpt:∀ Y,Below X.heap.size X Y→Calls Tryz.prog 128 #[.agg #[.slice L.y.ad yn L.y.cap,.slice L.pl ln L.cl],.string d] Y (PutP Y ae (if ae=0 then aL s.up (au s.lows).2 d else []) (if ae=0 then s.lows else [])):=fun Y hY=>by
        obtain ⟨m',hm'⟩:=(HA.out.2.1.kept ((Below.onto HX.out hY).mono hbase)).2
        rw [HN.out.2.1,HN.out.2.2.1]
        refine (jI L.y L.lo m' L.pl L.cl d (by unfold maxLen;omega) Y ((HA.out.1.kept HX.out).kept hY).data.now.un hm').mono fun r w' h=>?_
        have h:=h.putP
        rw [HA.out.1.up,HA.out.1.low,show aF (ay (s.up::s.lows)).1 (bB (aB (s.up::s.lows)) d.data.toList) (aL s.up (au s.lows).2 d).length=ae from hae.symm] at h
        exact h
       have HC:Aside (Below W.heap.size W X∧s.rmDo cp=(s.release d).aJ (aL s.up (au s.lows).2 d) s.lows∧(ae=0→(ay (aL s.up (au s.lows).2 d::s.lows)).1=0)):=⟨HX.out,by rw [Sy.rmDo,show s.rmQ cp=q from HE.out.2.symm,hbd],fun h=>(mR (show aF (ay (s.up::s.lows)).1 _ _=0 from hae.symm.trans h)).1⟩
       clear hae hbd hA1 hA2
       by_cases hz:ae=0
       ·subst hz
        simp only [if_true] at hpt
        go_region_held3 (fun w'=>w'.cell? ⟨W.heap.size,0,none⟩=some (.pointer (some ⟨S,0,none⟩))∧w'.cell? ⟨S,0,none⟩=some (.slice L.y.ad yn L.y.cap)∧w'.cell? ⟨S,1,none⟩=some (.slice L.pl ln L.cl)∧w'.cell? ⟨Bp,0,none⟩=some (.string d)) (go_keep) (first
         | (go_at_call 128;refine (hpt _ (Below.refl _ _).drew).mono ?_;clear hpt;rintro r w7 ⟨y,lo,pl,cl,yn',ln',rfl,H7⟩;have hB7:Below X.heap.size X w7:=((Below.refl _ _).drew).trans H7.out.2.2.2.2.2.1;have z0:=(hB7.cell (p:=⟨W.heap.size,0,none⟩) hPX).trans b0;have z1:=(hB7.cell (p:=⟨S,0,none⟩) hSX).trans s0;have z2:=(hB7.cell (p:=⟨S,1,none⟩) hSX).trans s1;have z3:=(hB7.cell (p:=⟨Bp,0,none⟩) hDX).trans p0)
         | (go_at_call 128;refine (hpt _ (((Below.refl _ _).alloc (Nat.le_refl _) _).drew)).mono ?_;clear hpt;rintro r w7 ⟨y,lo,pl,cl,yn',ln',rfl,H7⟩;have hB7:Below X.heap.size X w7:=(((Below.refl _ _).alloc (Nat.le_refl _) _).drew).trans (H7.out.2.2.2.2.2.1.mono (by rw [show ∀ o,(X.alloc o).drew.heap.size=X.heap.size+1 from fun o=>World.size_alloc X o];omega));have z0:=(hB7.cell (p:=⟨W.heap.size,0,none⟩) hPX).trans b0;have z1:=(hB7.cell (p:=⟨S,0,none⟩) hSX).trans s0;have z2:=(hB7.cell (p:=⟨S,1,none⟩) hSX).trans s1;have z3:=(hB7.cell (p:=⟨Bp,0,none⟩) hDX).trans p0;obtain ⟨⟨x0,x1⟩,⟨f0,f1⟩⟩:=new2 (w:=X) (B:=X.heap.size+1) (Nat.lt_succ_self _) (((Below.refl _ _).drew).trans (H7.out.2.2.2.2.2.1.mono (Nat.le_of_eq (World.size_alloc X _).symm)))))
        ·have HF:Aside (yE base S s L 0 (s.rmDo cp) (ans 0 ⟨#[]⟩) W (.returned (.tuple #[.func (.func 129) #[] #[.pointer (some ⟨W.heap.size,0,none⟩),.pointer (some ⟨Bp,0,none⟩),.pointer (some ⟨w7.heap.size,0,none⟩)],.int .i64 0])) (w7.alloc (.cells #[.slice y.ad yn' y.cap,.slice pl ln' cl] 26))):=by
          obtain ⟨r1,r2,r3,r4,r5,r6,r7⟩:=H7.out
          subst r1 r2
          have hB8:Below w7.heap.size w7 (w7.alloc (.cells #[.slice y.ad y.es.length y.cap,.slice pl lo.length cl] 26)):=((Grown.refl w7).alloc _).below
          have hBX:Below X.heap.size X (w7.alloc (.cells #[.slice y.ad y.es.length y.cap,.slice pl lo.length cl] 26)):=Below.onto hB7 hB8
          have hUB:fD (w7.alloc (.cells #[.slice y.ad y.es.length y.cap,.slice pl lo.length cl] 26)) w7.heap.size y lo pl cl:=⟨by simp,by simp⟩
          have hST:St (Sp S s L) (w7.alloc (.cells #[.slice y.ad y.es.length y.cap,.slice pl lo.length cl] 26)) (fun X=>UnOK X y lo pl cl):=St.on (UnOK.st r5 r7 (fun b hb=>Nat.lt_of_lt_of_le (HA.out.1.cK hb).2 HC.out.1.size)) (Keep.of_below _ hB8)
          have hlB:W.heap.size≤w7.heap.size:=Nat.le_trans HC.out.1.size hB7.size
          rw [HC.out.2.1]
          exact kQ HA.out.1 HA.out.2.1 (Below.onto HC.out.1 hBX) (Nat.le_refl _) (by omega) hlB ((hBX.cell (p:=⟨W.heap.size,0,none⟩) hPX).trans b0) ((hBX.cell (p:=⟨Bp,0,none⟩) hDX).trans p0) hUB hST r3 r4 (HC.out.2.2 (by trivial)) HA.out.2.2.2
         clear H7 hB7
         go_wp2
         go_ret2
         exact HF.out
        ·have HF:Aside (yE base S s L 0 (s.rmDo cp) (ans 0 ⟨#[]⟩) W (.returned (.tuple #[.func (.func 129) #[] #[.pointer (some ⟨W.heap.size,0,none⟩),.pointer (some ⟨Bp,0,none⟩),.pointer (some ⟨X.heap.size,0,none⟩)],.int .i64 0])) ((w7.setCell ⟨X.heap.size,0,none⟩ (.slice y.ad yn' y.cap)).setCell ⟨X.heap.size,1,none⟩ (.slice pl ln' cl))):=by
          obtain ⟨r1,r2,r3,r4,r5,r6,r7⟩:=H7.out
          subst r1 r2
          have hsz1:∀ o,(X.alloc o).drew.heap.size=X.heap.size+1:=fun o=>World.size_alloc X o
          have hbx:w7.heap[X.heap.size]?=some (.cells #[.slice none 0 0,.slice none 0 0] 26):=(r6.block _ (by rw [hsz1];omega)).trans (heap_alloc_last X _)
          have k2:=aH (aH hbx 0 (.slice y.ad y.es.length y.cap)) 1 (.slice pl lo.length cl)
          have hBX:Below X.heap.size X ((w7.setCell ⟨X.heap.size,0,none⟩ (.slice y.ad y.es.length y.cap)).setCell ⟨X.heap.size,1,none⟩ (.slice pl lo.length cl)):=(hB7.setCell (p:=⟨X.heap.size,0,none⟩) (Nat.le_refl _) _).setCell (p:=⟨X.heap.size,1,none⟩) (Nat.le_refl _) _
          have hst:St (fun b=>Sp S s L b∨b=X.heap.size) w7 (fun X=>UnOK X y lo pl cl):=UnOK.st r5 r7 (fun b hb=>by
           rw [hsz1]
           rcases hb with hb | rfl
           ·have h1:=(HA.out.1.cK hb).2;have h2:=HC.out.1.size;omega
           ·omega)
          have hUB:fD ((w7.setCell ⟨X.heap.size,0,none⟩ (.slice y.ad y.es.length y.cap)).setCell ⟨X.heap.size,1,none⟩ (.slice pl lo.length cl)) X.heap.size y lo pl cl:=⟨by simp [World.cell?,k2],by simp [World.cell?,k2]⟩
          have hST:St (Sp S s L) ((w7.setCell ⟨X.heap.size,0,none⟩ (.slice y.ad y.es.length y.cap)).setCell ⟨X.heap.size,1,none⟩ (.slice pl lo.length cl)) (fun X=>UnOK X y lo pl cl):=St.more (St.on hst ((Keep.set (.inr rfl) _ 0 _).trans (Keep.set (.inr rfl) _ 1 _))) (fun b _ hb=>.inl hb)
          have hlB:W.heap.size≤X.heap.size:=HC.out.1.size
          rw [HC.out.2.1]
          exact kQ HA.out.1 HA.out.2.1 (Below.onto HC.out.1 hBX) (Nat.le_refl _) (by omega) hlB ((hBX.cell (p:=⟨W.heap.size,0,none⟩) hPX).trans b0) ((hBX.cell (p:=⟨Bp,0,none⟩) hDX).trans p0) hUB hST r3 r4 (HC.out.2.2 (by trivial)) HA.out.2.2.2
         clear H7 hB7
         go_wp2
         go_ret2
         exact HF.out
       ·have hne:(ae != 0)=true:=by simpa using hz
        rw [if_neg hz,if_neg hz] at hpt
        go_region_held3 (fun w'=>w'.cell? ⟨W.heap.size,0,none⟩=some (.pointer (some ⟨S,0,none⟩))∧w'.cell? ⟨S,0,none⟩=some (.slice L.y.ad yn L.y.cap)∧w'.cell? ⟨S,1,none⟩=some (.slice L.pl ln L.cl)∧w'.cell? ⟨Bp,0,none⟩=some (.string d)) (go_keep) (first
         | (go_at_call 128;refine (hpt _ (Below.refl _ _).drew).mono ?_;clear hpt;rintro r w7 ⟨y,lo,pl,cl,yn',ln',rfl,H7⟩;have hB7:Below X.heap.size X w7:=((Below.refl _ _).drew).trans H7.out.2.2.2.2.2.1;have z0:=(hB7.cell (p:=⟨W.heap.size,0,none⟩) hPX).trans b0;have z1:=(hB7.cell (p:=⟨S,0,none⟩) hSX).trans s0;have z2:=(hB7.cell (p:=⟨S,1,none⟩) hSX).trans s1;have z3:=(hB7.cell (p:=⟨Bp,0,none⟩) hDX).trans p0)
         | (go_at_call 128;refine (hpt _ (((Below.refl _ _).alloc (Nat.le_refl _) _).drew)).mono ?_;clear hpt;rintro r w7 ⟨y,lo,pl,cl,yn',ln',rfl,H7⟩;have hB7:Below X.heap.size X w7:=(((Below.refl _ _).alloc (Nat.le_refl _) _).drew).trans (H7.out.2.2.2.2.2.1.mono (by rw [show ∀ o,(X.alloc o).drew.heap.size=X.heap.size+1 from fun o=>World.size_alloc X o];omega));have z0:=(hB7.cell (p:=⟨W.heap.size,0,none⟩) hPX).trans b0;have z1:=(hB7.cell (p:=⟨S,0,none⟩) hSX).trans s0;have z2:=(hB7.cell (p:=⟨S,1,none⟩) hSX).trans s1;have z3:=(hB7.cell (p:=⟨Bp,0,none⟩) hDX).trans p0;obtain ⟨⟨x0,x1⟩,⟨f0,f1⟩⟩:=new2 (w:=X) (B:=X.heap.size+1) (Nat.lt_succ_self _) (((Below.refl _ _).drew).trans (H7.out.2.2.2.2.2.1.mono (Nat.le_of_eq (World.size_alloc X _).symm)))))
        ·have HF:Aside (Below W.heap.size W (w7.alloc (.cells #[.slice y.ad yn' y.cap,.slice pl ln' cl] 26))):=by
          have h1:=Below.onto HC.out.1 hB7
          exact h1.alloc h1.size _
         clear H7 hB7
         go_wp2
         go_ret2
         exact yE.no _ hz HF.out
        ·have HF:Aside (Below W.heap.size W ((w7.setCell ⟨X.heap.size,0,none⟩ (.slice y.ad yn' y.cap)).setCell ⟨X.heap.size,1,none⟩ (.slice pl ln' cl))):=Below.onto HC.out.1 ((hB7.setCell (p:=⟨X.heap.size,0,none⟩) (Nat.le_refl _) _).setCell (p:=⟨X.heap.size,1,none⟩) (Nat.le_refl _) _)
         clear H7 hB7
         go_wp2
         go_ret2
         exact yE.no _ hz HF.out
 ·have hne:(e != 0)=true:=by simpa using h0
  go_enter Tryz.func87,Tryz.ntmps87
  go_wp2_with (go_at_call 121;refine hld.mono ?_;clear hld;rintro r w3 ⟨d,rfl,hd,hB3⟩;rw [HW2.out] at hB3)
  go_ret2
  have hz:ae=e:=by rw [← HAE.out,Sy.jm,← HE.out.1,if_pos h0]
  rw [hz]
  have hB:=Below.onto HA.out.2.2.1 hB3
  exact yE.no _ h0 (hB.alloc hB.size _)
end Go.Proofs.YthfeoiffoeagkaaGreatDoor
