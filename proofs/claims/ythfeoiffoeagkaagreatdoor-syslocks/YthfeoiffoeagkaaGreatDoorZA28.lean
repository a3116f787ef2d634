/-
  (*sys.system).keeping.
-/
import Derived.Test.YthfeoiffoeagkaaGreatDoorZA27
namespace Go.Proofs.YthfeoiffoeagkaaGreatDoor
open Go.RowKit PM Go.Sort
set_option linter.unusedVariables false
namespace PM
noncomputable def Sy.cZ (s:Sy) (f:Fl) (t:ByteArray):Int:=if t.data.toList=(s.textOf f).data.toList then 0 else if f.path.data.toList=[] then 0 else aF (ay s.all).1 (aQ s.seen ⟨f.path,1,t,false⟩) (aC s.up ⟨f.path,1,t,false⟩).length
def Sy.eB (s:Sy) (i:Nat) (f:Fl) (t:ByteArray):Sy:=if t.data.toList=(s.textOf f).data.toList then s else if f.path.data.toList=[] then s.setF i { f with text:=t } else s.aJ (aC s.up ⟨f.path,1,t,false⟩) s.lows
end PM
theorem BI (P:Program) (w:World) (a:Addr) (m:Mode) (f:Fn) (b c:Array Value):(store a (.func f b c) m).run P w=stored P w a (.func f b c) m:=run_store P w a _ m rfl
theorem dD.keep (s:Sy) (i:Nat) (f:Fl) (t:ByteArray):dD s (s.eB i f t):=by
 unfold Sy.eB
 split
 ·exact ⟨rfl,rfl⟩
 ·split
  ·exact ⟨rfl,by simp [Sy.setF]⟩
  ·exact ⟨rfl,rfl⟩
def oU (base S:Nat) (s s':Sy) (L:Lay6) (g:FuncId) (cap:Array Value) (n:Nat) (W':World):Prop:=∀ (Y:World) (L2:Lay6),aj base Y S s L2→Keep (fun b=>b<n) W' Y→L2.ob=L.ob→L2.fb=L.fb→(∀ b,Sp S s L2 b→b<n∨W'.heap.size≤b)→Gl base Y→Calls Tryz.prog g cap Y (oV base S s s' L2 Y)
def jc (base S:Nat) (s:Sy) (L:Lay6) (err:Int) (s':Sy) (W:World) (r:Ending) (W':World):Prop:=∃ g cap,r=.returned (.tuple #[.func (.func g) #[] cap,.int .i64 err])∧Below W.heap.size W W'∧(err=0→(∀ args w,(callFunc g args).run Tryz.prog w=.ok (.enter g args) w)∧oU base S s s' L g cap W.heap.size W')
theorem jc.no {base S:Nat} {s:Sy} {L:Lay6} {err:Int} {s':Sy} {W W':World} (g:FuncId) (cap:Array Value) (he:¬ err=0) (hB:Below W.heap.size W W'):jc base S s L err s' W (.returned (.tuple #[.func (.func g) #[] cap,.int .i64 err])) W':=⟨g,cap,rfl,hB,fun h=>absurd h he⟩
section
variable {base n:Nat} {W:World} {S:Nat} {s:Sy} {L:Lay6}
theorem Keep.at {W Y:World} {B i:Nat} {v:Value} (hk:Keep (fun b=>b<n) W Y) (hB:n≤B) (h:W.cell? ⟨B,i,none⟩=some v):Y.cell? ⟨B,i,none⟩=some v:=(bR (hk.block B (block_lt_of_cell h) (by omega)) i).trans h
theorem Iw:oU base S s s L 233 #[] n W:=fun Y L2 h _ _ _ _ _=>JO h
theorem Iy {Bt Bf i:Nat} {t:ByteArray} {f:Fl} (l0:n≤Bt) (l1:n≤Bf) (hf:s.files[i]?=some f) (hbt:W.cell? ⟨Bt,0,none⟩=some (.string t)) (hbf:W.cell? ⟨Bf,0,none⟩=some (.pointer (some ⟨L.fb i,0,none⟩))):oU base S s (s.setF i { f with text:=t }) L 234 #[.pointer (some ⟨Bt,0,none⟩),.pointer (some ⟨Bf,0,none⟩)] n W:=fun Y L2 h hB ho hfb _ _ =>
 JQ h Bt Bf i t f hf (hB.at l0 hbt) (by rw [hfb];exact hB.at l1 hbf)
theorem Br {B0 B1:Nat} (l0:n≤B0) (l1:n≤B1) (hb0:W.cell? ⟨B0,0,none⟩=some (.pointer (some ⟨S,0,none⟩))) {y:Lay} {lo:List Lay} {pl:Option Addr} {cl:Nat} (hb1:fD W B1 y lo pl cl) (hU:St (fun b=>b<n) W (fun X=>UnOK X y lo pl cl)) {up:List Ent} {lows:List (List Ent)} (hy:y.es=up) (hl:lo.map (·.es)=lows) (h0:(ay (up::lows)).1=0):oU base S s (s.aJ up lows) L 235 #[.pointer (some ⟨B0,0,none⟩),.pointer (some ⟨B1,0,none⟩)] n W:=fun Y L2 h hB _ _ hs hg=>by
 subst hy hl
 exact JR h hg B0 B1 (hB.at l0 hb0) y lo pl cl ⟨hB.at l1 hb1.c0,hB.at l1 hb1.c1⟩ (fun Z hZ=>hU Z ⟨Nat.le_trans hB.size hZ.size,fun b hb hn=>(hZ.block b (Nat.lt_of_lt_of_le hb hB.size) (fun h2=>(hs b h2).elim hn (fun h3=>by omega))).trans (hB.block b hb hn)⟩) h0
end
set_option maxRecDepth 100000 in
set_option maxHeartbeats 4000000 in
theorem tO {base:Nat} {W:World} {S:Nat} {s:Sy} {L:Lay6} (h:aj base W S s L) (hg:Gl base W) (i:Nat) (f:Fl) (hf:s.files[i]?=some f) (hfp:f.path.size≤80) (t:ByteArray) (ht:t.size≤maxLen) :
  Calls Tryz.prog 199 #[.pointer (some ⟨S,0,none⟩),.pointer (some ⟨L.fb i,0,none⟩),.string t] W (jc base S s L (s.cZ f t) (s.eB i f t) W):=by
 obtain ⟨X,hX⟩:∃ X,((W.alloc (.cells #[.pointer (some ⟨S,0,none⟩)] 76)).alloc (.cells #[.pointer (some ⟨L.fb i,0,none⟩)] 114)).alloc (.cells #[.string t] 9)=X:=⟨_,rfl⟩
 have hBX:Below W.heap.size W X:=by rw [← hX];exact (((Below.refl _ _).alloc (Nat.le_refl _) _).alloc (by simp) _).alloc (by simp;omega) _
 have hsX:X.heap.size=W.heap.size+3:=by rw [← hX];simp
 obtain ⟨q0,q1,q2⟩:=yD hX
 have b0:X.cell? ⟨W.heap.size,0,none⟩=some (.pointer (some ⟨S,0,none⟩)):=by simp [World.cell?,q0]
 have b1:X.cell? ⟨W.heap.size+1,0,none⟩=some (.pointer (some ⟨L.fb i,0,none⟩)):=by simp [World.cell?,q1]
 have b2:X.cell? ⟨W.heap.size+2,0,none⟩=some (.string t):=by simp [World.cell?,q2]
 have hbase:base≤W.heap.size:=Nat.le_trans h.base.1 (Nat.le_of_lt h.lt)
 have hk:=h.kept hBX
 have htx:=fun Y (hY:Below X.heap.size X Y)=>nR hk hf hfp Y hY
 obtain ⟨⟨c0,_,_⟩,_⟩:=hk.kT hf
 have lF:=hk.flt (List.getElem?_eq_some_iff.1 hf).1
 have l0:W.heap.size<X.heap.size:=by omega
 have l1:W.heap.size+1<X.heap.size:=by omega
 have l2:W.heap.size+2<X.heap.size:=by omega
 have HX:Aside (((W.alloc (.cells #[.pointer (some ⟨S,0,none⟩)] 76)).alloc (.cells #[.pointer (some ⟨L.fb i,0,none⟩)] 114)).alloc (.cells #[.string t] 9)=X):=hX
 have HA:Aside (aj base W S s L∧Gl base W∧Below W.heap.size W X∧s.files[i]?=some f):=⟨h,hg,hBX,hf⟩
 obtain ⟨T,hT⟩:∃ T,T=s.textOf f:=⟨_,rfl⟩
 rw [← hT] at htx
 have HE:Aside (s.cZ f t=(if t.data.toList=T.data.toList then 0 else if f.path.data.toList=[] then 0 else aF (ay s.all).1 (aQ s.seen ⟨f.path,1,t,false⟩) (aC s.up ⟨f.path,1,t,false⟩).length)∧s.eB i f t=(if t.data.toList=T.data.toList then s else if f.path.data.toList=[] then s.setF i { f with text:=t } else s.aJ (aC s.up ⟨f.path,1,t,false⟩) s.lows)):=by rw [hT];exact ⟨rfl,rfl⟩
 clear hX q0 q1 q2 h hg hf hBX hT hk
 by_cases hq:t.data.toList=T.data.toList
 ·have he:(t.toList == T.toList)=true:=by rw [Lib.toList_data,Lib.toList_data,hq];simp
  rw [HE.out.1,HE.out.2,if_pos hq,if_pos hq]
  go_enter Tryz.func199,Tryz.ntmps199
  go_wp2
  rw [HX.out]
  go_region_held3 (fun w'=>w'.cell? ⟨W.heap.size+2,0,none⟩=some (.string t)∧w'.cell? ⟨W.heap.size,0,none⟩=some (.pointer (some ⟨S,0,none⟩))∧w'.cell? ⟨W.heap.size+1,0,none⟩=some (.pointer (some ⟨L.fb i,0,none⟩))) (go_keep) (first | (go_at_call 181;refine (htx _ (Below.refl _ _).drew).mono ?_;clear htx;rintro r w7 ⟨rfl,hB7⟩;have hB7:Below X.heap.size X w7:=((Below.refl _ _).drew).trans hB7;have z0:=(hB7.cell (p:=⟨W.heap.size+2,0,none⟩) l2).trans b2;have z1:=(hB7.cell (p:=⟨W.heap.size,0,none⟩) l0).trans b0;have z2:=(hB7.cell (p:=⟨W.heap.size+1,0,none⟩) l1).trans b1))
  go_wp2
  go_ret2
  exact ⟨_,_,rfl,Below.onto HA.out.2.2.1 hB7,fun _=>⟨enters_of Tryz.func233 (by kernel_rfl) rfl,Iw⟩⟩
 ·have he:(t.toList == T.toList)=false:=by rw [Lib.toList_data,Lib.toList_data];simpa using hq
  rw [if_neg hq,if_neg hq] at HE
  go_enter Tryz.func199,Tryz.ntmps199
  go_wp2
  rw [HX.out]
  go_region_held3 (fun w'=>w'.cell? ⟨W.heap.size+2,0,none⟩=some (.string t)∧w'.cell? ⟨W.heap.size,0,none⟩=some (.pointer (some ⟨S,0,none⟩))∧w'.cell? ⟨W.heap.size+1,0,none⟩=some (.pointer (some ⟨L.fb i,0,none⟩))) (go_keep) (first | (go_at_call 181;refine (htx _ (Below.refl _ _).drew).mono ?_;clear htx;rintro r w7 ⟨rfl,hB7⟩;have hB7:Below X.heap.size X w7:=((Below.refl _ _).drew).trans hB7;have z0:=(hB7.cell (p:=⟨W.heap.size+2,0,none⟩) l2).trans b2;have z1:=(hB7.cell (p:=⟨W.heap.size,0,none⟩) l0).trans b0;have z2:=(hB7.cell (p:=⟨W.heap.size+1,0,none⟩) l1).trans b1))
  have c0:=(hB7.cell (p:=⟨L.fb i,0,none⟩) lF).trans c0
  have hW7:Below W.heap.size W w7:=Below.onto HA.out.2.2.1 hB7
  have hPX:W.heap.size<w7.heap.size:=Nat.lt_of_lt_of_le l0 hB7.size
  have hFX:W.heap.size+1<w7.heap.size:=Nat.lt_of_lt_of_le l1 hB7.size
  have hTX:W.heap.size+2<w7.heap.size:=Nat.lt_of_lt_of_le l2 hB7.size
  have hIX:L.fb i<w7.heap.size:=Nat.lt_of_lt_of_le lF hB7.size
  clear b0 b1 b2 hB7 l0 l1 l2 lF
  have b0:=z1
  have b1:=z2
  have b2:=z0
  clear z0 z1 z2
  by_cases hp:f.path.data.toList=[]
  ·have hpe:f.path=⟨#[]⟩:=dz hp
   rw [if_pos hp,if_pos hp] at HE
   rw [hpe] at c0
   go_wp2
   go_ret2
   rw [HE.out.1,HE.out.2]
   exact ⟨_,_,rfl,hW7,fun _=>⟨enters_of Tryz.func234 (by kernel_rfl) rfl,Iy (by omega) (by omega) HA.out.2.2.2 b2 b1⟩⟩
  ·have hpe:f.path.toList.isEmpty=false:=by
    rw [Lib.toList_data];simpa using hp
   rw [if_neg hp,if_neg hp] at HE
   go_wp2
   obtain ⟨s0,s1,_⟩:=(HA.out.1.kept hW7).cells
   have hSX:S<w7.heap.size:=(HA.out.1.kept hW7).lt
   obtain ⟨yn,hyn⟩:∃ yn,yn=L.y.es.length:=⟨_,rfl⟩
   obtain ⟨ln,hln⟩:∃ ln,ln=L.lo.length:=⟨_,rfl⟩
   obtain ⟨ae,hae⟩:∃ ae,ae=aF (ay s.all).1 (aQ s.seen ⟨f.path,1,t,false⟩) (aC s.up ⟨f.path,1,t,false⟩).length:=⟨_,rfl⟩
   have HN:Aside (yn=L.y.es.length∧ln=L.lo.length):=⟨hyn,hln⟩
   rw [← hyn] at s0
   rw [← hln] at s1
   have HZ0:Aside (s.cZ f t=ae∧s.eB i f t=s.aJ (aC s.up ⟨f.path,1,t,false⟩) s.lows):=⟨HE.out.1.trans hae.symm,HE.out.2⟩
   have hX0:Below W.heap.size W w7:=hW7
   generalize w7=X at *
   have hpt:∀ Y,Below X.heap.size X Y→Calls Tryz.prog 126 #[.agg #[.slice L.y.ad yn L.y.cap,.slice L.pl ln L.cl],.agg #[.string f.path,.int .i64 1,.string t,.bool false]] Y (PutP Y ae (if ae=0 then aC s.up ⟨f.path,1,t,false⟩ else []) (if ae=0 then s.lows else [])):=fun Y hY=>by
    obtain ⟨m',hm'⟩:=(HA.out.2.1.kept ((Below.onto hW7 hY).mono hbase)).2
    rw [hyn,hln]
    refine (nT L.y L.lo m' L.pl L.cl ⟨f.path,1,t,false⟩ (by show f.path.size≤_;unfold maxLen;omega) (by show f.path.size<_;omega) ht Y ((HA.out.1.kept hW7).kept hY).data.now.un hm').mono fun r w' h=>?_
    have h:=h.putP
    have ha2:ae=aF (ay (s.up::s.lows)).1 (aQ (aB (s.up::s.lows)) ⟨f.path,1,t,false⟩) (aC s.up ⟨f.path,1,t,false⟩).length:=hae
    rw [HA.out.1.up,HA.out.1.low,← ha2] at h
    exact h
   have HC:Aside (Below W.heap.size W X∧(ae=0→(ay (aC s.up ⟨f.path,1,t,false⟩::s.lows)).1=0)):=⟨hW7,fun h=>(oz (show aF (ay (s.up::s.lows)).1 _ _=0 from hae.symm.trans h)).1⟩
   have n1:=World.new_ne X ⟨S,0,none⟩ s0
   have n2:=World.new_ne X ⟨W.heap.size,0,none⟩ b0
   have n3:=World.new_ne X ⟨W.heap.size+1,0,none⟩ b1
   have n4:=World.new_ne X ⟨W.heap.size+2,0,none⟩ b2
   have n5:=World.new_ne X ⟨L.fb i,0,none⟩ c0
   clear hyn hln hae HE hW7 hX0
   by_cases hz:ae=0
   ·subst hz
    simp only [if_true] at hpt
    go_region_held3 (fun w'=>w'.cell? ⟨W.heap.size,0,none⟩=some (.pointer (some ⟨S,0,none⟩))∧w'.cell? ⟨S,0,none⟩=some (.slice L.y.ad yn L.y.cap)∧w'.cell? ⟨S,1,none⟩=some (.slice L.pl ln L.cl)∧w'.cell? ⟨(W.heap.size+1),0,none⟩=some (.pointer (some ⟨L.fb i,0,none⟩))∧w'.cell? ⟨L.fb i,0,none⟩=some (.string f.path)∧w'.cell? ⟨(W.heap.size+2),0,none⟩=some (.string t)) (go_keep) (first
     | (go_at_call 126;refine (hpt _ (Below.refl _ _).drew).mono ?_;clear hpt;rintro r w7 ⟨y,lo,pl,cl,yn',ln',rfl,H7⟩;have hB7:Below X.heap.size X w7:=((Below.refl _ _).drew).trans H7.out.2.2.2.2.2.1;have z0:=(hB7.cell (p:=⟨W.heap.size,0,none⟩) hPX).trans b0;have z1:=(hB7.cell (p:=⟨S,0,none⟩) hSX).trans s0;have z2:=(hB7.cell (p:=⟨S,1,none⟩) hSX).trans s1;have z3:=(hB7.cell (p:=⟨(W.heap.size+1),0,none⟩) hFX).trans b1;have z4:=(hB7.cell (p:=⟨L.fb i,0,none⟩) hIX).trans c0;have z5:=(hB7.cell (p:=⟨(W.heap.size+2),0,none⟩) hTX).trans b2)
     | (go_at_call 126;refine (hpt _ (((Below.refl _ _).alloc (Nat.le_refl _) _).drew)).mono ?_;clear hpt;rintro r w7 ⟨y,lo,pl,cl,yn',ln',rfl,H7⟩;have hB7:Below X.heap.size X w7:=(((Below.refl _ _).alloc (Nat.le_refl _) _).drew).trans (H7.out.2.2.2.2.2.1.mono (by rw [show ∀ o,(X.alloc o).drew.heap.size=X.heap.size+1 from fun o=>World.size_alloc X o];omega));have z0:=(hB7.cell (p:=⟨W.heap.size,0,none⟩) hPX).trans b0;have z1:=(hB7.cell (p:=⟨S,0,none⟩) hSX).trans s0;have z2:=(hB7.cell (p:=⟨S,1,none⟩) hSX).trans s1;have z3:=(hB7.cell (p:=⟨(W.heap.size+1),0,none⟩) hFX).trans b1;have z4:=(hB7.cell (p:=⟨L.fb i,0,none⟩) hIX).trans c0;have z5:=(hB7.cell (p:=⟨(W.heap.size+2),0,none⟩) hTX).trans b2;obtain ⟨⟨x0,x1⟩,⟨f0,f1⟩⟩:=new2 (w:=X) (B:=X.heap.size+1) (Nat.lt_succ_self _) (((Below.refl _ _).drew).trans (H7.out.2.2.2.2.2.1.mono (Nat.le_of_eq (World.size_alloc X _).symm)))))
    ·have HF:Aside (jc base S s L 0 (s.aJ (aC s.up ⟨f.path,1,t,false⟩) s.lows) W (.returned (.tuple #[.func (.func 235) #[] #[.pointer (some ⟨W.heap.size,0,none⟩),.pointer (some ⟨w7.heap.size,0,none⟩)],.int .i64 0])) (w7.alloc (.cells #[.slice y.ad yn' y.cap,.slice pl ln' cl] 26))):=by
      obtain ⟨r1,r2,r3,r4,r5,r6,r7⟩:=H7.out
      subst r1 r2
      have hB8:Below w7.heap.size w7 (w7.alloc (.cells #[.slice y.ad y.es.length y.cap,.slice pl lo.length cl] 26)):=((Grown.refl w7).alloc _).below
      have hBX:Below X.heap.size X (w7.alloc (.cells #[.slice y.ad y.es.length y.cap,.slice pl lo.length cl] 26)):=Below.onto hB7 hB8
      have hUB:fD (w7.alloc (.cells #[.slice y.ad y.es.length y.cap,.slice pl lo.length cl] 26)) w7.heap.size y lo pl cl:=⟨by simp,by simp⟩
      have hST:St (fun b=>b<W.heap.size) (w7.alloc (.cells #[.slice y.ad y.es.length y.cap,.slice pl lo.length cl] 26)) (fun X=>UnOK X y lo pl cl):=St.on (UnOK.st r5 r7 (fun b hb=>Nat.lt_of_lt_of_le hb HC.out.1.size)) (Keep.of_below _ hB8)
      have hlB:W.heap.size≤w7.heap.size:=Nat.le_trans HC.out.1.size hB7.size
      exact ⟨_,_,rfl,Below.onto HC.out.1 hBX,fun _=>⟨enters_of Tryz.func235 (by kernel_rfl) rfl,Br (Nat.le_refl _) hlB ((hBX.cell (p:=⟨W.heap.size,0,none⟩) hPX).trans b0) hUB hST r3 r4 (HC.out.2 (by trivial))⟩⟩
     clear H7 hB7
     go_wp2
     go_ret2
     rw [HZ0.out.1,HZ0.out.2]
     exact HF.out
    ·have HF:Aside (jc base S s L 0 (s.aJ (aC s.up ⟨f.path,1,t,false⟩) s.lows) W (.returned (.tuple #[.func (.func 235) #[] #[.pointer (some ⟨W.heap.size,0,none⟩),.pointer (some ⟨X.heap.size,0,none⟩)],.int .i64 0])) ((w7.setCell ⟨X.heap.size,0,none⟩ (.slice y.ad yn' y.cap)).setCell ⟨X.heap.size,1,none⟩ (.slice pl ln' cl))):=by
      obtain ⟨r1,r2,r3,r4,r5,r6,r7⟩:=H7.out
      subst r1 r2
      have hsz1:∀ o,(X.alloc o).drew.heap.size=X.heap.size+1:=fun o=>World.size_alloc X o
      have hbx:w7.heap[X.heap.size]?=some (.cells #[.slice none 0 0,.slice none 0 0] 26):=(r6.block _ (by rw [hsz1];omega)).trans (heap_alloc_last X _)
      have k2:=aH (aH hbx 0 (.slice y.ad y.es.length y.cap)) 1 (.slice pl lo.length cl)
      have hBX:Below X.heap.size X ((w7.setCell ⟨X.heap.size,0,none⟩ (.slice y.ad y.es.length y.cap)).setCell ⟨X.heap.size,1,none⟩ (.slice pl lo.length cl)):=(hB7.setCell (p:=⟨X.heap.size,0,none⟩) (Nat.le_refl _) _).setCell (p:=⟨X.heap.size,1,none⟩) (Nat.le_refl _) _
      have hst:St (fun b=>b<W.heap.size∨b=X.heap.size) w7 (fun X=>UnOK X y lo pl cl):=UnOK.st r5 r7 (fun b hb=>by
       rw [hsz1]
       rcases hb with hb | rfl
       ·have h1:=hb;have h2:=HC.out.1.size;omega
       ·omega)
      have hUB:fD ((w7.setCell ⟨X.heap.size,0,none⟩ (.slice y.ad y.es.length y.cap)).setCell ⟨X.heap.size,1,none⟩ (.slice pl lo.length cl)) X.heap.size y lo pl cl:=⟨by simp [World.cell?,k2],by simp [World.cell?,k2]⟩
      have hST:St (fun b=>b<W.heap.size) ((w7.setCell ⟨X.heap.size,0,none⟩ (.slice y.ad y.es.length y.cap)).setCell ⟨X.heap.size,1,none⟩ (.slice pl lo.length cl)) (fun X=>UnOK X y lo pl cl):=St.more (St.on hst ((Keep.set (.inr rfl) _ 0 _).trans (Keep.set (.inr rfl) _ 1 _))) (fun b _ hb=>.inl hb)
      have hlB:W.heap.size≤X.heap.size:=HC.out.1.size
      exact ⟨_,_,rfl,Below.onto HC.out.1 hBX,fun _=>⟨enters_of Tryz.func235 (by kernel_rfl) rfl,Br (Nat.le_refl _) hlB ((hBX.cell (p:=⟨W.heap.size,0,none⟩) hPX).trans b0) hUB hST r3 r4 (HC.out.2 (by trivial))⟩⟩
     clear H7 hB7
     go_wp2
     go_ret2
     rw [HZ0.out.1,HZ0.out.2]
     exact HF.out
   ·rw [if_neg hz,if_neg hz] at hpt
    go_region_held3 (fun w'=>w'.cell? ⟨W.heap.size,0,none⟩=some (.pointer (some ⟨S,0,none⟩))∧w'.cell? ⟨S,0,none⟩=some (.slice L.y.ad yn L.y.cap)∧w'.cell? ⟨S,1,none⟩=some (.slice L.pl ln L.cl)∧w'.cell? ⟨(W.heap.size+1),0,none⟩=some (.pointer (some ⟨L.fb i,0,none⟩))∧w'.cell? ⟨L.fb i,0,none⟩=some (.string f.path)∧w'.cell? ⟨(W.heap.size+2),0,none⟩=some (.string t)) (go_keep) (first
     | (go_at_call 126;refine (hpt _ (Below.refl _ _).drew).mono ?_;clear hpt;rintro r w7 ⟨y,lo,pl,cl,yn',ln',rfl,H7⟩;have hB7:Below X.heap.size X w7:=((Below.refl _ _).drew).trans H7.out.2.2.2.2.2.1;have z0:=(hB7.cell (p:=⟨W.heap.size,0,none⟩) hPX).trans b0;have z1:=(hB7.cell (p:=⟨S,0,none⟩) hSX).trans s0;have z2:=(hB7.cell (p:=⟨S,1,none⟩) hSX).trans s1;have z3:=(hB7.cell (p:=⟨(W.heap.size+1),0,none⟩) hFX).trans b1;have z4:=(hB7.cell (p:=⟨L.fb i,0,none⟩) hIX).trans c0;have z5:=(hB7.cell (p:=⟨(W.heap.size+2),0,none⟩) hTX).trans b2)
     | (go_at_call 126;refine (hpt _ (((Below.refl _ _).alloc (Nat.le_refl _) _).drew)).mono ?_;clear hpt;rintro r w7 ⟨y,lo,pl,cl,yn',ln',rfl,H7⟩;have hB7:Below X.heap.size X w7:=(((Below.refl _ _).alloc (Nat.le_refl _) _).drew).trans (H7.out.2.2.2.2.2.1.mono (by rw [show ∀ o,(X.alloc o).drew.heap.size=X.heap.size+1 from fun o=>World.size_alloc X o];omega));have z0:=(hB7.cell (p:=⟨W.heap.size,0,none⟩) hPX).trans b0;have z1:=(hB7.cell (p:=⟨S,0,none⟩) hSX).trans s0;have z2:=(hB7.cell (p:=⟨S,1,none⟩) hSX).trans s1;have z3:=(hB7.cell (p:=⟨(W.heap.size+1),0,none⟩) hFX).trans b1;have z4:=(hB7.cell (p:=⟨L.fb i,0,none⟩) hIX).trans c0;have z5:=(hB7.cell (p:=⟨(W.heap.size+2),0,none⟩) hTX).trans b2;obtain ⟨⟨x0,x1⟩,⟨f0,f1⟩⟩:=new2 (w:=X) (B:=X.heap.size+1) (Nat.lt_succ_self _) (((Below.refl _ _).drew).trans (H7.out.2.2.2.2.2.1.mono (Nat.le_of_eq (World.size_alloc X _).symm)))))
    ·have HF:Aside (Below W.heap.size W (w7.alloc (.cells #[.slice y.ad yn' y.cap,.slice pl ln' cl] 26))):=by
      have h1:=Below.onto HC.out.1 hB7
      exact h1.alloc h1.size _
     clear H7 hB7
     go_wp2
     go_ret2
     rw [HZ0.out.1]
     exact jc.no _ _ hz HF.out
    ·have HF:Aside (Below W.heap.size W ((w7.setCell ⟨X.heap.size,0,none⟩ (.slice y.ad yn' y.cap)).setCell ⟨X.heap.size,1,none⟩ (.slice pl ln' cl))):=Below.onto HC.out.1 ((hB7.setCell (p:=⟨X.heap.size,0,none⟩) (Nat.le_refl _) _).setCell (p:=⟨X.heap.size,1,none⟩) (Nat.le_refl _) _)
     clear H7 hB7
     go_wp2
     go_ret2
     rw [HZ0.out.1]
     exact jc.no _ _ hz HF.out
namespace PM
noncomputable def Sy.qW (s:Sy) (o:Opn) (f:Fl) (n:Int):Int:=if (bits BinOp.and IntKind.i64 o.use 2 == 0)=true then 8 else if n<0∨100<n then 3 else s.cZ f (dA (s.textOf f) n)
end PM
theorem wS {W X:World} {b:Nat} (h:X.heap[b]?=W.heap[b]?) (i:Nat):X.frozen? ⟨b,i,none⟩=W.frozen? ⟨b,i,none⟩:=by simp [World.frozen?,h]
theorem sK {base:Nat} {W:World} {S:Nat} {s s':Sy} {L:Lay6} (h:aj base W S s L) (hg:Gl base W) (hn:dD s s') {Y0 w5 Wf:World} {B:Nat} {g:FuncId} {cap:Array Value} (hY:Below W.heap.size W Y0) (hB5:Below Y0.heap.size Y0 w5) (hK:Keep (fun b=>b<Y0.heap.size) w5 Wf) (hBf:Below W.heap.size W Wf) (hbk:Wf.cell? ⟨B,0,none⟩=some (.func (.func g) #[] cap)) (H5:(∀ args w,(callFunc g args).run Tryz.prog w=.ok (.enter g args) w)∧oU base S s s' L g cap Y0.heap.size w5) :
  yE base S s L 0 s' (ans 0 ⟨#[]⟩) W (.returned (.tuple #[.func (.func 201) #[] #[.pointer (some ⟨B,0,none⟩)],.int .i64 0])) Wf:=by
 obtain ⟨eg,hkf⟩:=H5
 have hf:=h.kept hBf
 have hbase:base≤W.heap.size:=Nat.le_trans h.base.1 (Nat.le_of_lt h.lt)
 have hA:∀ o,Below Wf.heap.size Wf (Wf.alloc o):=fun o=>((Grown.refl Wf).alloc o).below
 refine ⟨_,rfl,hBf,fun _=>⟨_,_,rfl,enters_of Tryz.func201 (by kernel_rfl) rfl,JG hf hn B g cap eg hbk (hkf _ _ (hf.aside _) (hK.trans (Keep.of_below _ (hA _))) rfl rfl (fun b hb=>?_) (hg.kept ((Below.onto hBf (hA _)).mono hbase)))⟩⟩
 have hz:=hK.size
 rcases hb with (e | (e | hx)) | hs
 ·have:=h.lt;have:=hY.size;left;omega
 ·right;rw [e];exact hz
 ·have:=(h.exb b hx).2;have:=hY.size;left;omega
 ·have:=(h.cK (.inr hs)).2;have:=hY.size;left;omega
set_option maxRecDepth 100000 in
set_option maxHeartbeats 4000000 in
theorem yJ {base:Nat} {W:World} {S:Nat} {s:Sy} {L:Lay6} (h:aj base W S s L) (hg:Gl base W) (j:Nat) (o:Opn) (f:Fl) (n:Int) (ho:s.opens[j]?=some o) (hf:s.files[o.file]?=some f) (hfp:f.path.size≤80) (hft:(s.textOf f).size≤100) (hu:(bits BinOp.and IntKind.i64 o.use 2 == 0)=false) (hn0:¬ n<0) (hn1:¬ 100<n) :
  Calls Tryz.prog 145 #[.pointer (some ⟨S,0,none⟩),.pointer (some ⟨L.ob j,0,none⟩),.int .i64 n] W (yE base S s L (s.cZ f (dA (s.textOf f) n)) (s.eB o.file f (dA (s.textOf f) n)) (ans 0 ⟨#[]⟩) W):=by
 have hbase:base≤W.heap.size:=Nat.le_trans h.base.1 (Nat.le_of_lt h.lt)
 obtain ⟨⟨c0,c1,_⟩,_⟩:=h.iB ho
 have lO:=h.olt (List.getElem?_eq_some_iff.1 ho).1
 have htx:=fun Y (hY:Below W.heap.size W Y)=>nR h hf hfp Y hY
 have hsd:=fun Y=>xG (s.textOf f) n (by omega) (by omega) (by omega) Y
 have hsz:(dA (s.textOf f) n).size≤maxLen:=by have:=iO (s.textOf f) n (by omega);unfold maxLen;omega
 have hkp:=fun Y (hY:Below W.heap.size W Y)=>tO (h.kept hY) (hg.kept (hY.mono hbase)) o.file f hf hfp (dA (s.textOf f) n) hsz
 have HN:Aside (dD s (s.eB o.file f (dA (s.textOf f) n))):=dD.keep _ _ _ _
 have HA:Aside (aj base W S s L∧Gl base W):=⟨h,hg⟩
 generalize s.cZ f (dA (s.textOf f) n)=ke at hkp ⊢
 generalize s.eB o.file f (dA (s.textOf f) n)=s' at hkp HN ⊢
 generalize dA (s.textOf f) n=T2 at hsd hkp
 generalize s.textOf f=T at htx hsd
 have n1:=World.new_ne W ⟨L.ob j,0,none⟩ c0
 have n1':¬ L.ob j=W.heap.size:=fun e=>n1 e.symm
 have hsf:=fun w a m f b c=>BI Tryz.prog w a m f b c
 clear h hg ho hf hfp hft hsz
 by_cases hz:ke=0
 ·subst hz
  go_enter Tryz.func145,Tryz.ntmps145
  go_wp2
  go_region_held3 (fun w'=>w'.cell? ⟨L.ob j,0,none⟩=some (.pointer (some ⟨L.fb o.file,0,none⟩))) (go_keep) (first
   | (go_at_call 181;first | (refine (htx _ (Below.refl _ _).drew).mono ?_;clear htx;rintro r w3 ⟨rfl,hB3⟩;have hW3:Below W.heap.size W w3:=((Below.refl _ _).drew).trans hB3;have z3:=(hW3.cell (p:=⟨L.ob j,0,none⟩) lO).trans c0;have e3:¬ w3.heap.size=L.ob j:=(by have:=hW3.size;omega);have e3':¬ L.ob j=w3.heap.size:=(fun e=>e3 e.symm)) | (refine (htx _ ((Below.refl _ _).alloc (Nat.le_refl _) _).drew).mono ?_;clear htx;rintro r w3 ⟨rfl,hB3⟩;have k1:w3.heap[W.heap.size]?=some (.cells #[.nilFunc] 1):=(hB3.block _ (by show W.heap.size<(W.alloc _).heap.size;simp)).trans (heap_alloc_last W _);have hW3:Below W.heap.size W w3:=Below.onto ((Below.refl _ _).alloc (Nat.le_refl _) _).drew hB3;have z3:=(hW3.cell (p:=⟨L.ob j,0,none⟩) lO).trans c0;have e3:¬ w3.heap.size=L.ob j:=(by have:=hW3.size;omega);have e3':¬ L.ob j=w3.heap.size:=(fun e=>e3 e.symm);have x1:w3.cell? ⟨W.heap.size,0,none⟩=some .nilFunc:=(by simp [World.cell?,k1]);have y1:w3.frozen? ⟨W.heap.size,0,none⟩=false:=(by simp [World.frozen?,k1])))
   | (go_at_call 198;refine (hsd _).mono ?_;clear hsd;rintro r w4 ⟨rfl,hB4⟩;first | (have hW4:Below W.heap.size W w4:=Below.onto hW3 hB4;have z4:=(hW4.cell (p:=⟨L.ob j,0,none⟩) lO).trans c0;have e4:¬ w4.heap.size=L.ob j:=(by have:=hW4.size;omega);have e4':¬ L.ob j=w4.heap.size:=(fun e=>e4 e.symm);try (have k2:w4.heap[W.heap.size]?=some (.cells #[.nilFunc] 1):=(hB4.block _ (Array.getElem?_eq_some_iff.1 k1).1).trans k1;have x2:w4.cell? ⟨W.heap.size,0,none⟩=some .nilFunc:=(by simp [World.cell?,k2]);have y2:w4.frozen? ⟨W.heap.size,0,none⟩=false:=(by simp [World.frozen?,k2]))) | (have k2:w4.heap[w3.heap.size]?=some (.cells #[.nilFunc] 1):=(hB4.block _ (by simp)).trans (heap_alloc_last w3 _);have hW4:Below W.heap.size W w4:=Below.onto hW3 (Below.onto ((Grown.refl w3).alloc _).below hB4);have z4:=(hW4.cell (p:=⟨L.ob j,0,none⟩) lO).trans c0;have e4:¬ w4.heap.size=L.ob j:=(by have:=hW4.size;omega);have e4':¬ L.ob j=w4.heap.size:=(fun e=>e4 e.symm);have x2:w4.cell? ⟨w3.heap.size,0,none⟩=some .nilFunc:=(by simp [World.cell?,k2]);have y2:w4.frozen? ⟨w3.heap.size,0,none⟩=false:=(by simp [World.frozen?,k2])))
   | (go_at_call 199;first | (refine (hkp _ hW4).mono ?_;clear hkp;rintro r w5 ⟨g,cap,rfl,hB5,H5'⟩;have H5:=(show Aside _ from H5');clear H5';have hW5:Below W.heap.size W w5:=Below.onto hW4 hB5;have z5:=(hW5.cell (p:=⟨L.ob j,0,none⟩) lO).trans c0;try (have k3:=(hB5.block _ (Array.getElem?_eq_some_iff.1 k2).1).trans k2;have x3:=(bR (hB5.block _ (Array.getElem?_eq_some_iff.1 k2).1) 0).trans x2;have y3:=(wS (hB5.block _ (Array.getElem?_eq_some_iff.1 k2).1) 0).trans y2)) | (refine (hkp _ (Below.onto hW4 ((Grown.refl w4).alloc _).below)).mono ?_;clear hkp;rintro r w5 ⟨g,cap,rfl,hB5,H5'⟩;have H5:=(show Aside _ from H5');clear H5';have k3:w5.heap[w4.heap.size]?=some (.cells #[.nilFunc] 1):=(hB5.block _ (by simp)).trans (heap_alloc_last w4 _);have hW5:Below W.heap.size W w5:=Below.onto hW4 (Below.onto ((Grown.refl w4).alloc _).below hB5);have z5:=(hW5.cell (p:=⟨L.ob j,0,none⟩) lO).trans c0;have x3:w5.cell? ⟨w4.heap.size,0,none⟩=some .nilFunc:=(by simp [World.cell?,k3]);have y3:w5.frozen? ⟨w4.heap.size,0,none⟩=false:=(by simp [World.frozen?,k3]))))
  all_goals first
   | (have HF : Aside (yE base S s L 0 s' (ans 0 ⟨#[]⟩) W (.returned (.tuple #[.func (.func 201) #[] #[.pointer (some ⟨W.heap.size,0,none⟩)],.int .i64 0])) (w5.setCell ⟨W.heap.size,0,none⟩ (.func (.func g) #[] cap))):=sK HA.out.1 HA.out.2 HN.out hW4 hB5 (Keep.set (sp:=fun b => b < w4.heap.size) (P:=W.heap.size) (by have:=hW3.size;have:=hW4.size;have:=hB4.size;first | exact (Array.getElem?_eq_some_iff.1 k2).1 | simp) _ 0 (.func (.func g) #[] cap)) (hW5.setCell (p:=⟨W.heap.size,0,none⟩) (by have:=hW3.size;have:=hW4.size;show W.heap.size ≤ W.heap.size;omega) _) (by have k4:=aH k3 0 (.func (.func g) #[] cap);simp [World.cell?,k4]) (H5.out (by trivial))
      clear H5 hB5 hB4 hB3
      go_wp2
      go_ret2
      exact HF.out)
   | (have HF : Aside (yE base S s L 0 s' (ans 0 ⟨#[]⟩) W (.returned (.tuple #[.func (.func 201) #[] #[.pointer (some ⟨w3.heap.size,0,none⟩)],.int .i64 0])) (w5.setCell ⟨w3.heap.size,0,none⟩ (.func (.func g) #[] cap))):=sK HA.out.1 HA.out.2 HN.out hW4 hB5 (Keep.set (sp:=fun b => b < w4.heap.size) (P:=w3.heap.size) (by have:=hW3.size;have:=hW4.size;have:=hB4.size;first | exact (Array.getElem?_eq_some_iff.1 k2).1 | simp) _ 0 (.func (.func g) #[] cap)) (hW5.setCell (p:=⟨w3.heap.size,0,none⟩) (by have:=hW3.size;have:=hW4.size;show W.heap.size ≤ w3.heap.size;omega) _) (by have k4:=aH k3 0 (.func (.func g) #[] cap);simp [World.cell?,k4]) (H5.out (by trivial))
      clear H5 hB5 hB4 hB3
      go_wp2
      go_ret2
      exact HF.out)
   | (have HF : Aside (yE base S s L 0 s' (ans 0 ⟨#[]⟩) W (.returned (.tuple #[.func (.func 201) #[] #[.pointer (some ⟨w4.heap.size,0,none⟩)],.int .i64 0])) (w5.setCell ⟨w4.heap.size,0,none⟩ (.func (.func g) #[] cap))):=sK HA.out.1 HA.out.2 HN.out (Below.onto hW4 ((Grown.refl w4).alloc _).below) hB5 (Keep.set (sp:=fun b => b < (w4.alloc (.cells #[.nilFunc] 1)).heap.size) (P:=w4.heap.size) (by have:=hW3.size;have:=hW4.size;have:=hB4.size;first | exact (Array.getElem?_eq_some_iff.1 k2).1 | simp) _ 0 (.func (.func g) #[] cap)) (hW5.setCell (p:=⟨w4.heap.size,0,none⟩) (by have:=hW3.size;have:=hW4.size;show W.heap.size ≤ w4.heap.size;omega) _) (by have k4:=aH k3 0 (.func (.func g) #[] cap);simp [World.cell?,k4]) (H5.out (by trivial))
      clear H5 hB5 hB4 hB3
      go_wp2
      go_ret2
      exact HF.out)
   | (have HF : Aside (yE base S s L 0 s' (ans 0 ⟨#[]⟩) W (.returned (.tuple #[.func (.func 201) #[] #[.pointer (some ⟨w5.heap.size,0,none⟩)],.int .i64 0])) (w5.alloc (.cells #[.func (.func g) #[] cap] 1))):=sK HA.out.1 HA.out.2 HN.out hW4 hB5 (Keep.of_below _ ((Grown.refl w5).alloc _).below) (Below.onto hW5 ((Grown.refl w5).alloc _).below) (by simp) (H5.out (by trivial))
      clear H5 hB5 hB4 hB3
      go_wp2
      go_ret2
      exact HF.out)
 ·have hne:(ke != 0)=true:=by simpa using hz
  go_enter Tryz.func145,Tryz.ntmps145
  go_wp2
  go_region_held3 (fun w'=>w'.cell? ⟨L.ob j,0,none⟩=some (.pointer (some ⟨L.fb o.file,0,none⟩))) (go_keep) (first
   | (go_at_call 181;first | (refine (htx _ (Below.refl _ _).drew).mono ?_;clear htx;rintro r w3 ⟨rfl,hB3⟩;have hW3:Below W.heap.size W w3:=((Below.refl _ _).drew).trans hB3;have z3:=(hW3.cell (p:=⟨L.ob j,0,none⟩) lO).trans c0;have e3:¬ w3.heap.size=L.ob j:=(by have:=hW3.size;omega);have e3':¬ L.ob j=w3.heap.size:=(fun e=>e3 e.symm)) | (refine (htx _ ((Below.refl _ _).alloc (Nat.le_refl _) _).drew).mono ?_;clear htx;rintro r w3 ⟨rfl,hB3⟩;have k1:w3.heap[W.heap.size]?=some (.cells #[.nilFunc] 1):=(hB3.block _ (by show W.heap.size<(W.alloc _).heap.size;simp)).trans (heap_alloc_last W _);have hW3:Below W.heap.size W w3:=Below.onto ((Below.refl _ _).alloc (Nat.le_refl _) _).drew hB3;have z3:=(hW3.cell (p:=⟨L.ob j,0,none⟩) lO).trans c0;have e3:¬ w3.heap.size=L.ob j:=(by have:=hW3.size;omega);have e3':¬ L.ob j=w3.heap.size:=(fun e=>e3 e.symm);have x1:w3.cell? ⟨W.heap.size,0,none⟩=some .nilFunc:=(by simp [World.cell?,k1]);have y1:w3.frozen? ⟨W.heap.size,0,none⟩=false:=(by simp [World.frozen?,k1])))
   | (go_at_call 198;refine (hsd _).mono ?_;clear hsd;rintro r w4 ⟨rfl,hB4⟩;first | (have hW4:Below W.heap.size W w4:=Below.onto hW3 hB4;have z4:=(hW4.cell (p:=⟨L.ob j,0,none⟩) lO).trans c0;have e4:¬ w4.heap.size=L.ob j:=(by have:=hW4.size;omega);have e4':¬ L.ob j=w4.heap.size:=(fun e=>e4 e.symm);try (have k2:w4.heap[W.heap.size]?=some (.cells #[.nilFunc] 1):=(hB4.block _ (Array.getElem?_eq_some_iff.1 k1).1).trans k1;have x2:w4.cell? ⟨W.heap.size,0,none⟩=some .nilFunc:=(by simp [World.cell?,k2]);have y2:w4.frozen? ⟨W.heap.size,0,none⟩=false:=(by simp [World.frozen?,k2]))) | (have k2:w4.heap[w3.heap.size]?=some (.cells #[.nilFunc] 1):=(hB4.block _ (by simp)).trans (heap_alloc_last w3 _);have hW4:Below W.heap.size W w4:=Below.onto hW3 (Below.onto ((Grown.refl w3).alloc _).below hB4);have z4:=(hW4.cell (p:=⟨L.ob j,0,none⟩) lO).trans c0;have e4:¬ w4.heap.size=L.ob j:=(by have:=hW4.size;omega);have e4':¬ L.ob j=w4.heap.size:=(fun e=>e4 e.symm);have x2:w4.cell? ⟨w3.heap.size,0,none⟩=some .nilFunc:=(by simp [World.cell?,k2]);have y2:w4.frozen? ⟨w3.heap.size,0,none⟩=false:=(by simp [World.frozen?,k2])))
   | (go_at_call 199;first | (refine (hkp _ hW4).mono ?_;clear hkp;rintro r w5 ⟨g,cap,rfl,hB5,H5'⟩;have H5:=(show Aside _ from H5');clear H5';have hW5:Below W.heap.size W w5:=Below.onto hW4 hB5;have z5:=(hW5.cell (p:=⟨L.ob j,0,none⟩) lO).trans c0;try (have k3:=(hB5.block _ (Array.getElem?_eq_some_iff.1 k2).1).trans k2;have x3:=(bR (hB5.block _ (Array.getElem?_eq_some_iff.1 k2).1) 0).trans x2;have y3:=(wS (hB5.block _ (Array.getElem?_eq_some_iff.1 k2).1) 0).trans y2)) | (refine (hkp _ (Below.onto hW4 ((Grown.refl w4).alloc _).below)).mono ?_;clear hkp;rintro r w5 ⟨g,cap,rfl,hB5,H5'⟩;have H5:=(show Aside _ from H5');clear H5';have k3:w5.heap[w4.heap.size]?=some (.cells #[.nilFunc] 1):=(hB5.block _ (by simp)).trans (heap_alloc_last w4 _);have hW5:Below W.heap.size W w5:=Below.onto hW4 (Below.onto ((Grown.refl w4).alloc _).below hB5);have z5:=(hW5.cell (p:=⟨L.ob j,0,none⟩) lO).trans c0;have x3:w5.cell? ⟨w4.heap.size,0,none⟩=some .nilFunc:=(by simp [World.cell?,k3]);have y3:w5.frozen? ⟨w4.heap.size,0,none⟩=false:=(by simp [World.frozen?,k3]))))
  all_goals first
   | (have HF : Aside (Below W.heap.size W (w5.setCell ⟨W.heap.size,0,none⟩ (.func (.func g) #[] cap))):=hW5.setCell (p:=⟨W.heap.size,0,none⟩) (by have:=hW3.size;have:=hW4.size;show W.heap.size ≤ W.heap.size;omega) _
      clear H5 hB5 hB4 hB3
      go_wp2
      go_ret2
      exact yE.no _ hz HF.out)
   | (have HF : Aside (Below W.heap.size W (w5.setCell ⟨w3.heap.size,0,none⟩ (.func (.func g) #[] cap))):=hW5.setCell (p:=⟨w3.heap.size,0,none⟩) (by have:=hW3.size;have:=hW4.size;show W.heap.size ≤ w3.heap.size;omega) _
      clear H5 hB5 hB4 hB3
      go_wp2
      go_ret2
      exact yE.no _ hz HF.out)
   | (have HF : Aside (Below W.heap.size W (w5.setCell ⟨w4.heap.size,0,none⟩ (.func (.func g) #[] cap))):=hW5.setCell (p:=⟨w4.heap.size,0,none⟩) (by have:=hW3.size;have:=hW4.size;show W.heap.size ≤ w4.heap.size;omega) _
      clear H5 hB5 hB4 hB3
      go_wp2
      go_ret2
      exact yE.no _ hz HF.out)
   | (have HF : Aside (Below W.heap.size W (w5.alloc (.cells #[.func (.func g) #[] cap] 1))):=Below.onto hW5 ((Grown.refl w5).alloc _).below
      clear H5 hB5 hB4 hB3
      go_wp2
      go_ret2
      exact yE.no _ hz HF.out)
theorem Dw {base:Nat} {W:World} {S:Nat} {s:Sy} {L:Lay6} (h:aj base W S s L) (hg:Gl base W) (j:Nat) (o:Opn) (f:Fl) (n:Int) (ho:s.opens[j]?=some o) (hf:s.files[o.file]?=some f) (hfp:f.path.size≤80) (hft:(s.textOf f).size≤100) :
  Calls Tryz.prog 145 #[.pointer (some ⟨S,0,none⟩),.pointer (some ⟨L.ob j,0,none⟩),.int .i64 n] W (yE base S s L (s.qW o f n) (s.eB o.file f (dA (s.textOf f) n)) (ans 0 ⟨#[]⟩) W):=by
 unfold Sy.qW
 obtain ⟨⟨c0,c1,c2⟩,f2⟩:=h.iB ho
 cases hu:(bits BinOp.and IntKind.i64 o.use 2 == 0) with
 | true =>
  rw [if_pos rfl]
  clear h hg ho hf
  go_enter Tryz.func145,Tryz.ntmps145
  go_wp2
  go_ret2
  exact yE.no _ (by decide) (Below.refl _ _)
 | false =>
  rw [if_neg (by simp)]
  by_cases h1:n<0
  ·rw [if_pos (.inl h1)]
   clear h hg ho hf
   go_enter Tryz.func145,Tryz.ntmps145
   go_wp2
   go_ret2
   exact yE.no _ (by decide) (Below.refl _ _)
  by_cases h2:100<n
  ·rw [if_pos (.inr h2)]
   clear h hg ho hf
   go_enter Tryz.func145,Tryz.ntmps145
   go_wp2
   go_ret2
   exact yE.no _ (by decide) (Below.refl _ _)
  rw [if_neg (by omega)]
  exact yJ h hg j o f n ho hf hfp hft hu h1 h2
end Go.Proofs.YthfeoiffoeagkaaGreatDoor
