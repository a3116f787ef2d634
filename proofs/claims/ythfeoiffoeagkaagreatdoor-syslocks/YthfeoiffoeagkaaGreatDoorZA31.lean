/-
  (*sys.system).ready.
-/
import Derived.Test.YthfeoiffoeagkaaGreatDoorZA29
import Derived.Test.YthfeoiffoeagkaaGreatDoorZA30
namespace Go.Proofs.YthfeoiffoeagkaaGreatDoor
open Go.RowKit PM Go.Sort
set_option linter.unusedVariables false
namespace PM
def Sy.asIs (s:Sy) (q:List UInt8) (use:Int):Prop:=(getL s.seen q).isSome=true∧((bits BinOp.and IntKind.i64 use 32 == 0)=true∨((getL s.seen q).getD zeroE).text.data.toList=[])
instance (s:Sy) (q:List UInt8) (use:Int):Decidable (s.asIs q use):=by unfold Sy.asIs;infer_instance
noncomputable def Sy.gB (s:Sy) (q:List UInt8) (use:Int):Int :=
 if (getL s.seen q).isSome=false∧(bits BinOp.and IntKind.i64 use 8 == 0)=true then 6
 else if (getL s.seen q).isSome=true∧(bits BinOp.and IntKind.i64 use 16 != 0)=true then 7
 else if (getL s.seen q).isSome=true∧((getL s.seen q).getD zeroE).kind=2 then 9
 else if s.asIs q use then 0
 else aF (ay s.all).1 (aQ s.seen ⟨baL q,1,⟨#[]⟩,false⟩) (aC s.up ⟨baL q,1,⟨#[]⟩,false⟩).length
def Sy.gX (s:Sy) (q:List UInt8) (use:Int):List Ent:=if s.asIs q use then s.up else aC s.up ⟨baL q,1,⟨#[]⟩,false⟩
end PM
def gZ (S:Nat) (s:Sy) (L:Lay6) (err:Int) (up:List Ent) (W:World) (r:Ending) (W':World):Prop:=∃ (y:Lay) (lo:List Lay) (pl:Option Addr) (cl yn ln:Nat),r=.returned (.tuple #[.agg #[.slice y.ad yn y.cap,.slice pl ln cl],.int .i64 err])∧Below W.heap.size W W'∧Aside (yn=y.es.length∧ln=lo.length∧(err=0→y.es=up∧lo.map (·.es)=s.lows∧St (Sp S s L) W' (fun X=>UnOK X y lo pl cl)∧(ay (up::s.lows)).1=0))
theorem gZ.no {S:Nat} {s:Sy} {L:Lay6} {err:Int} {up:List Ent} {W W':World} (he:¬ err=0) (hB:Below W.heap.size W W'):gZ S s L err up W (.returned (.tuple #[.agg #[.slice none 0 0,.slice none 0 0],.int .i64 err])) W':=⟨⟨none,0,[]⟩,[],none,0,0,0,rfl,hB,rfl,rfl,fun h=>absurd h he⟩
theorem vW {w:World} {B:Nat} {a b:Value} {t:TypeId} (k:w.heap[B]?=some (.cells #[a,b] t (0,0))) (c d:Value) (o:Obj):(((w.setCell ⟨B,0,none⟩ c).setCell ⟨B,1,none⟩ d).alloc o).cell? ⟨B,0,none⟩=some c∧(((w.setCell ⟨B,0,none⟩ c).setCell ⟨B,1,none⟩ d).alloc o).cell? ⟨B,1,none⟩=some d:=by
 have k2:=aH (aH k 0 c) 1 d
 have k3:=(((Grown.refl _).alloc o).below.block _ (Array.getElem?_eq_some_iff.1 k2).1).trans k2
 exact ⟨by simp [World.cell?,k3],by simp [World.cell?,k3]⟩
theorem oW {W w:World} (h:Below W.heap.size W w) (c d:Value) (o:Obj):Below W.heap.size W (((w.setCell ⟨W.heap.size,0,none⟩ c).setCell ⟨W.heap.size,1,none⟩ d).alloc o):=by
 have h2:=(h.setCell (p:=⟨W.heap.size,0,none⟩) (Nat.le_refl _) c).setCell (p:=⟨W.heap.size,1,none⟩) (Nat.le_refl _) d
 exact h2.alloc h2.size _
theorem vV {base:Nat} {W Wf:World} {S:Nat} {s:Sy} {L:Lay6} {yn ln:Nat} {up:List Ent} (h:aj base W S s L) (hw0:(ay s.all).1=0) (hyn:yn=L.y.es.length) (hln:ln=L.lo.length) (hB:Below W.heap.size W Wf) (hu:up=s.up):gZ S s L 0 up W (.returned (.tuple #[.agg #[.slice L.y.ad yn L.y.cap,.slice L.pl ln L.cl],.int .i64 0])) Wf:=by
 subst hu
 exact ⟨L.y,L.lo,L.pl,L.cl,yn,ln,rfl,hB,hyn,hln,fun _=>⟨h.up,h.low,fun Y hY=>((h.kept hB).data Y hY).un,hw0⟩⟩
theorem xB {base:Nat} {W X w7:World} {S:Nat} {s:Sy} {L:Lay6} {yn ln:Nat} {up up':List Ent} {lows':List (List Ent)} {ae:Int} {y:Lay} {lo:List Lay} {pl:Option Addr} {cl:Nat} (h:aj base W S s L) (hX:Below W.heap.size W X) (H:yn=y.es.length∧ln=lo.length∧y.es=up'∧lo.map (·.es)=lows'∧UnOK w7 y lo pl cl∧Below X.heap.size X w7∧jF X.heap.size y lo pl) (ha:ae=0→up'=up∧lows'=s.lows∧(ay (up::s.lows)).1=0) (hu:True) (hlt:W.heap.size<X.heap.size):gZ S s L ae up W (.returned (.tuple #[.agg #[.slice y.ad yn y.cap,.slice pl ln cl],.int .i64 ae])) ((w7.setCell ⟨W.heap.size,0,none⟩ (.slice y.ad yn y.cap)).setCell ⟨W.heap.size,1,none⟩ (.slice pl ln cl)):=by
 obtain ⟨r1,r2,r3,r4,r5,r6,r7⟩:=H
 have hB:Below W.heap.size W ((w7.setCell ⟨W.heap.size,0,none⟩ (.slice y.ad yn y.cap)).setCell ⟨W.heap.size,1,none⟩ (.slice pl ln cl)):=((Below.onto hX r6).setCell (p:=⟨W.heap.size,0,none⟩) (Nat.le_refl _) _).setCell (p:=⟨W.heap.size,1,none⟩) (Nat.le_refl _) _
 refine ⟨y,lo,pl,cl,yn,ln,rfl,hB,r1,r2,fun h0=>?_⟩
 obtain ⟨e1,e2,e3⟩:=ha h0
 have hst:St (fun b=>Sp S s L b∨b=W.heap.size) w7 (fun X=>UnOK X y lo pl cl):=UnOK.st r5 r7 (fun b hb=>by
  rcases hb with hb | rfl
  ·have h1:=(h.cK hb).2;have h2:=hX.size;omega
  ·exact hlt)
 exact ⟨r3.trans e1,r4.trans e2,St.more (St.on hst ((Keep.set (.inr rfl) _ 0 _).trans (Keep.set (.inr rfl) _ 1 _))) (fun b _ hb=>.inl hb),e3⟩
set_option maxRecDepth 100000 in
set_option maxHeartbeats 1000000 in
theorem Fv {base:Nat} {W:World} {S:Nat} {s:Sy} {L:Lay6} (h:aj base W S s L) (hg:Gl base W) (hw0:(ay s.all).1=0) (d:ByteArray) (hd80:d.size≤80) (use:Int) :
  Calls Tryz.prog 122 #[.pointer (some ⟨S,0,none⟩),.string d,.int .i64 use] W (gZ S s L (s.gB d.data.toList use) (s.gX d.data.toList use) W):=by
 obtain ⟨W1,hW1⟩:∃ W1,W.alloc (.cells #[.slice none 0 0,.slice none 0 0] 26)=W1:=⟨_,rfl⟩
 have hB1:Below W.heap.size W W1:=by rw [← hW1];exact ((Grown.refl W).alloc _).below
 have hs1:W1.heap.size=W.heap.size+1:=by rw [← hW1];simp
 have hk1:W1.heap[W.heap.size]?=some (.cells #[.slice none 0 0,.slice none 0 0] 26):=by rw [← hW1];exact heap_alloc_last W _
 have hbase:base≤W.heap.size:=Nat.le_trans h.base.1 (Nat.le_of_lt h.lt)
 obtain ⟨th,hth⟩:∃ th,th=(getL s.seen d.data.toList).isSome:=⟨_,rfl⟩
 obtain ⟨x,hx⟩:∃ x,x=(getL s.seen d.data.toList).getD zeroE:=⟨_,rfl⟩
 have hgt:=pK h hB1 d (by unfold maxLen;omega) x hx s.seen.length rfl
 rw [← hth] at hgt
 obtain ⟨yn,hyn⟩:∃ yn,yn=L.y.es.length:=⟨_,rfl⟩
 obtain ⟨ln,hln⟩:∃ ln,ln=L.lo.length:=⟨_,rfl⟩
 obtain ⟨sn,hsn⟩:∃ sn,sn=s.seen.length:=⟨_,rfl⟩
 rw [← hsn] at hgt
 have c2:=(h.kept hB1).cells.2.2
 rw [← hsn,← hW1] at c2
 have HN:Aside (yn=L.y.es.length∧ln=L.lo.length):=⟨hyn,hln⟩
 have HA:Aside (aj base W S s L∧Gl base W∧Below W.heap.size W W1∧W1.heap[W.heap.size]?=some (.cells #[.slice none 0 0,.slice none 0 0] 26)∧(ay s.all).1=0):=⟨h,hg,hB1,hk1,hw0⟩
 obtain ⟨u8,hu8⟩:∃ u,(bits BinOp.and IntKind.i64 use 8 == 0)=u:=⟨_,rfl⟩
 obtain ⟨u16,hu16⟩:∃ u,(bits BinOp.and IntKind.i64 use 16 != 0)=u:=⟨_,rfl⟩
 obtain ⟨u32,hu32⟩:∃ u,(bits BinOp.and IntKind.i64 use 32 == 0)=u:=⟨_,rfl⟩
 have hbd:baL d.data.toList=d:=dz (by simp [baL])
 have HD:Aside (s.asIs d.data.toList use↔th=true∧(u32=true∨x.text.data.toList=[])):=by
  show s.asIs d.data.toList use↔_
  rw [hth,← hu32,hx];exact Iff.rfl
 have hE1:s.gB d.data.toList use=if th=false∧u8=true then 6 else if th=true∧u16=true then 7 else if th=true∧x.kind=2 then 9 else if s.asIs d.data.toList use then 0 else aF (ay s.all).1 (aQ s.seen ⟨d,1,⟨#[]⟩,false⟩) (aC s.up ⟨d,1,⟨#[]⟩,false⟩).length:=by
  rw [Sy.gB,hth,← hu8,← hu16,hx,hbd]
 have hE2:s.gX d.data.toList use=if s.asIs d.data.toList use then s.up else aC s.up ⟨d,1,⟨#[]⟩,false⟩:=by rw [Sy.gX,hbd]
 generalize s.gB d.data.toList use=er at hE1 ⊢
 generalize s.gX d.data.toList use=up at hE2 ⊢
 have HEE:Aside (er=(if th=false∧u8=true then 6 else if th=true∧u16=true then 7 else if th=true∧x.kind=2 then 9 else if s.asIs d.data.toList use then 0 else aF (ay s.all).1 (aQ s.seen ⟨d,1,⟨#[]⟩,false⟩) (aC s.up ⟨d,1,⟨#[]⟩,false⟩).length)∧up=if s.asIs d.data.toList use then s.up else aC s.up ⟨d,1,⟨#[]⟩,false⟩):=⟨hE1,hE2⟩
 have hpt:∀ X,Below W.heap.size W X→Calls Tryz.prog 126 #[.agg #[.slice L.y.ad yn L.y.cap,.slice L.pl ln L.cl],.agg #[.string d,.int .i64 1,.string ⟨#[]⟩,.bool false]] X (PutP X (aF (ay s.all).1 (aQ s.seen ⟨d,1,⟨#[]⟩,false⟩) (aC s.up ⟨d,1,⟨#[]⟩,false⟩).length) (if aF (ay s.all).1 (aQ s.seen ⟨d,1,⟨#[]⟩,false⟩) (aC s.up ⟨d,1,⟨#[]⟩,false⟩).length=0 then aC s.up ⟨d,1,⟨#[]⟩,false⟩ else []) (if aF (ay s.all).1 (aQ s.seen ⟨d,1,⟨#[]⟩,false⟩) (aC s.up ⟨d,1,⟨#[]⟩,false⟩).length=0 then s.lows else [])):=fun X hX=>by
  obtain ⟨m',hm'⟩:=(hg.kept (hX.mono hbase)).2
  rw [hyn,hln]
  refine (nT L.y L.lo m' L.pl L.cl ⟨d,1,⟨#[]⟩,false⟩ (by show d.size≤_;unfold maxLen;omega) (by show d.size<_;omega) (by show (ByteArray.mk #[]).size≤_;decide) X (h.kept hX).data.now.un hm').mono fun r w' h'=>?_
  have h':=h'.putP
  rw [h.up,h.low] at h'
  exact h'
 have hPW:aF (ay s.all).1 (aQ s.seen ⟨d,1,⟨#[]⟩,false⟩) (aC s.up ⟨d,1,⟨#[]⟩,false⟩).length=0→(ay (aC s.up ⟨d,1,⟨#[]⟩,false⟩::s.lows)).1=0:=fun h=>(oz (show aF (ay (s.up::s.lows)).1 _ _=0 from h)).1
 generalize aF (ay s.all).1 (aQ s.seen ⟨d,1,⟨#[]⟩,false⟩) (aC s.up ⟨d,1,⟨#[]⟩,false⟩).length=ae at hpt HEE hPW
 have HAE0:Aside (ae=0→(if ae=0 then aC s.up ⟨d,1,⟨#[]⟩,false⟩ else [])=aC s.up ⟨d,1,⟨#[]⟩,false⟩∧(if ae=0 then s.lows else [])=s.lows∧(ay (aC s.up ⟨d,1,⟨#[]⟩,false⟩::s.lows)).1=0):=fun h=>⟨if_pos h,if_pos h,hPW h⟩
 rw [← hW1] at hgt
 have HW1:Aside (W.alloc (.cells #[.slice none 0 0,.slice none 0 0] 26)=W1):=hW1
 obtain ⟨xp,xk,xt,xo⟩:=x
 simp only at hgt HEE HD
 clear hW1 hB1 hk1 h hg hw0 hyn hln hsn hbd hE1 hE2 hPW hth hx
 cases th with
 | false =>
  have hna:¬ s.asIs d.data.toList use:=fun h=>by have:=HD.out.1 h;simp at this
  cases u8 with
  | true =>
   clear hpt
   have HE:Aside (er=6∧True):=⟨by rw [HEE.out.1,if_pos ⟨rfl,rfl⟩],trivial⟩
   go_enter Tryz.func122,Tryz.ntmps122
   go_wp2_with (go_at_call 27;refine hgt.mono ?_;clear hgt;rintro r w3 ⟨rfl,hB3⟩;rw [HW1.out] at hB3;have h3:Below W.heap.size W w3:=Below.onto HA.out.2.2.1 hB3;have k3:w3.heap[W.heap.size]?=some (.cells #[.slice none 0 0,.slice none 0 0] 26):=(hB3.block _ (by omega)).trans HA.out.2.2.2.1;have l3:W.heap.size<w3.heap.size:=(Array.getElem?_eq_some_iff.1 k3).1;have hXE:Below W.heap.size W (w3.alloc (.cells #[.string xp,.int .i64 xk,.string xt,.bool xo] 53)):=Below.onto h3 ((Grown.refl w3).alloc _).below;have kE:(w3.alloc (.cells #[.string xp,.int .i64 xk,.string xt,.bool xo] 53)).heap[W.heap.size]?=some (.cells #[.slice none 0 0,.slice none 0 0] 26):=(((Grown.refl w3).alloc _).below.block _ l3).trans k3;have r0:(w3.alloc (.cells #[.string xp,.int .i64 xk,.string xt,.bool xo] 53)).cell? ⟨W.heap.size,0,none⟩=some (.slice none 0 0):=(by simp [World.cell?,kE]);have r1:(w3.alloc (.cells #[.string xp,.int .i64 xk,.string xt,.bool xo] 53)).cell? ⟨W.heap.size,1,none⟩=some (.slice none 0 0):=(by simp [World.cell?,kE]);have f0:(w3.alloc (.cells #[.string xp,.int .i64 xk,.string xt,.bool xo] 53)).frozen? ⟨W.heap.size,0,none⟩=false:=(by simp [World.frozen?,kE]);have f1:(w3.alloc (.cells #[.string xp,.int .i64 xk,.string xt,.bool xo] 53)).frozen? ⟨W.heap.size,1,none⟩=false:=(by simp [World.frozen?,kE]);have n4:¬ W.heap.size=w3.heap.size:=Nat.ne_of_lt l3;have p0:w3.cell? ⟨W.heap.size,0,none⟩=some (.slice none 0 0):=(by simp [World.cell?,k3]);have p1:w3.cell? ⟨W.heap.size,1,none⟩=some (.slice none 0 0):=(by simp [World.cell?,k3]);have q0:w3.frozen? ⟨W.heap.size,0,none⟩=false:=(by simp [World.frozen?,k3]);have q1:w3.frozen? ⟨W.heap.size,1,none⟩=false:=(by simp [World.frozen?,k3]);have n5:¬ w3.heap.size=W.heap.size:=(fun e=>n4 e.symm);obtain ⟨c0,c1,_⟩:=(HA.out.1.kept h3).cells;rw [← HN.out.1] at c0;rw [← HN.out.2] at c1;have lS:=(HA.out.1.kept h3).lt;have nS:¬ S=w3.heap.size:=Nat.ne_of_lt lS;have nS2:¬ w3.heap.size=S:=(fun e=>nS e.symm);have HK:Aside (Below W.heap.size W (w3.alloc (.cells #[.string xp,.int .i64 xk,.string xt,.bool xo] 53))∧(w3.alloc (.cells #[.string xp,.int .i64 xk,.string xt,.bool xo] 53)).heap[W.heap.size]?=some (.cells #[.slice none 0 0,.slice none 0 0] 26)∧Below W.heap.size W w3∧w3.heap[W.heap.size]?=some (.cells #[.slice none 0 0,.slice none 0 0] 26)):=⟨hXE,kE,h3,k3⟩;clear hXE kE k3 hB3)
   obtain ⟨x0,x1⟩:=vW HK.out.2.2.2 (.slice none 0 0) (.slice none 0 0) (.cells #[.string xp,.int .i64 xk,.string xt,.bool xo] 53)
   refine bodyPost_ret (v:=.tuple #[.agg #[.slice none 0 0,.slice none 0 0],.int .i64 6]) (by simp [results,Tryz.results122,go_sem,x0,x1]) rfl ?_
   rw [HE.out.1]
   exact gZ.no (by decide) (oW HK.out.2.2.1 _ _ _)
  | false =>
   have HE:Aside (er=ae∧True):=⟨by rw [HEE.out.1];simp [hna],trivial⟩
   have HAE:Aside (ae=0→(if ae=0 then aC s.up ⟨d,1,⟨#[]⟩,false⟩ else [])=up∧(if ae=0 then s.lows else [])=s.lows∧(ay (up::s.lows)).1=0):=by rw [HEE.out.2,if_neg hna];exact HAE0.out
   clear HEE HD hna
   go_enter Tryz.func122,Tryz.ntmps122
   go_wp2_with (first | (go_at_call 27;refine hgt.mono ?_;clear hgt;rintro r w3 ⟨rfl,hB3⟩;rw [HW1.out] at hB3;have h3:Below W.heap.size W w3:=Below.onto HA.out.2.2.1 hB3;have k3:w3.heap[W.heap.size]?=some (.cells #[.slice none 0 0,.slice none 0 0] 26):=(hB3.block _ (by omega)).trans HA.out.2.2.2.1;have l3:W.heap.size<w3.heap.size:=(Array.getElem?_eq_some_iff.1 k3).1;have hXE:Below W.heap.size W (w3.alloc (.cells #[.string xp,.int .i64 xk,.string xt,.bool xo] 53)):=Below.onto h3 ((Grown.refl w3).alloc _).below;have kE:(w3.alloc (.cells #[.string xp,.int .i64 xk,.string xt,.bool xo] 53)).heap[W.heap.size]?=some (.cells #[.slice none 0 0,.slice none 0 0] 26):=(((Grown.refl w3).alloc _).below.block _ l3).trans k3;have r0:(w3.alloc (.cells #[.string xp,.int .i64 xk,.string xt,.bool xo] 53)).cell? ⟨W.heap.size,0,none⟩=some (.slice none 0 0):=(by simp [World.cell?,kE]);have r1:(w3.alloc (.cells #[.string xp,.int .i64 xk,.string xt,.bool xo] 53)).cell? ⟨W.heap.size,1,none⟩=some (.slice none 0 0):=(by simp [World.cell?,kE]);have f0:(w3.alloc (.cells #[.string xp,.int .i64 xk,.string xt,.bool xo] 53)).frozen? ⟨W.heap.size,0,none⟩=false:=(by simp [World.frozen?,kE]);have f1:(w3.alloc (.cells #[.string xp,.int .i64 xk,.string xt,.bool xo] 53)).frozen? ⟨W.heap.size,1,none⟩=false:=(by simp [World.frozen?,kE]);have n4:¬ W.heap.size=w3.heap.size:=Nat.ne_of_lt l3;have p0:w3.cell? ⟨W.heap.size,0,none⟩=some (.slice none 0 0):=(by simp [World.cell?,k3]);have p1:w3.cell? ⟨W.heap.size,1,none⟩=some (.slice none 0 0):=(by simp [World.cell?,k3]);have q0:w3.frozen? ⟨W.heap.size,0,none⟩=false:=(by simp [World.frozen?,k3]);have q1:w3.frozen? ⟨W.heap.size,1,none⟩=false:=(by simp [World.frozen?,k3]);have n5:¬ w3.heap.size=W.heap.size:=(fun e=>n4 e.symm);obtain ⟨c0,c1,_⟩:=(HA.out.1.kept h3).cells;rw [← HN.out.1] at c0;rw [← HN.out.2] at c1;have lS:=(HA.out.1.kept h3).lt;have nS:¬ S=w3.heap.size:=Nat.ne_of_lt lS;have nS2:¬ w3.heap.size=S:=(fun e=>nS e.symm);have HK:Aside (Below W.heap.size W (w3.alloc (.cells #[.string xp,.int .i64 xk,.string xt,.bool xo] 53))∧(w3.alloc (.cells #[.string xp,.int .i64 xk,.string xt,.bool xo] 53)).heap[W.heap.size]?=some (.cells #[.slice none 0 0,.slice none 0 0] 26)∧Below W.heap.size W w3∧w3.heap[W.heap.size]?=some (.cells #[.slice none 0 0,.slice none 0 0] 26)):=⟨hXE,kE,h3,k3⟩;clear hXE kE k3 hB3) | (go_at_call 126;refine (hpt _ HK.out.1).mono ?_;clear hpt;rintro r w7 ⟨y,lo,pl,cl,yn',ln',rfl,H7⟩;have k7:w7.heap[W.heap.size]?=some (.cells #[.slice none 0 0,.slice none 0 0] 26):=(H7.out.2.2.2.2.2.1.block _ (Array.getElem?_eq_some_iff.1 HK.out.2.1).1).trans HK.out.2.1;have x0:w7.cell? ⟨W.heap.size,0,none⟩=some (.slice none 0 0):=(by simp [World.cell?,k7]);have x1:w7.cell? ⟨W.heap.size,1,none⟩=some (.slice none 0 0):=(by simp [World.cell?,k7]);have g0:w7.frozen? ⟨W.heap.size,0,none⟩=false:=(by simp [World.frozen?,k7]);have g1:w7.frozen? ⟨W.heap.size,1,none⟩=false:=(by simp [World.frozen?,k7]);have H7K:Aside (w7.heap[W.heap.size]?=some (.cells #[.slice none 0 0,.slice none 0 0] 26)):=k7;clear k7))
   refine bodyPost_ret (v:=.tuple #[.agg #[.slice y.ad yn' y.cap,.slice pl ln' cl],.int .i64 ae]) (by simp [results,Tryz.results122,go_sem,x0,x1]) rfl ?_
   rw [HE.out.1]
   exact xB HA.out.1 HK.out.1 H7.out HAE.out (HE.out.2) (Array.getElem?_eq_some_iff.1 HK.out.2.1).1
 | true =>
  cases u16 with
  | true =>
   clear hpt
   have HE:Aside (er=7∧True):=⟨by rw [HEE.out.1,if_neg (by simp),if_pos ⟨rfl,rfl⟩],trivial⟩
   go_enter Tryz.func122,Tryz.ntmps122
   go_wp2_with (go_at_call 27;refine hgt.mono ?_;clear hgt;rintro r w3 ⟨rfl,hB3⟩;rw [HW1.out] at hB3;have h3:Below W.heap.size W w3:=Below.onto HA.out.2.2.1 hB3;have k3:w3.heap[W.heap.size]?=some (.cells #[.slice none 0 0,.slice none 0 0] 26):=(hB3.block _ (by omega)).trans HA.out.2.2.2.1;have l3:W.heap.size<w3.heap.size:=(Array.getElem?_eq_some_iff.1 k3).1;have hXE:Below W.heap.size W (w3.alloc (.cells #[.string xp,.int .i64 xk,.string xt,.bool xo] 53)):=Below.onto h3 ((Grown.refl w3).alloc _).below;have kE:(w3.alloc (.cells #[.string xp,.int .i64 xk,.string xt,.bool xo] 53)).heap[W.heap.size]?=some (.cells #[.slice none 0 0,.slice none 0 0] 26):=(((Grown.refl w3).alloc _).below.block _ l3).trans k3;have r0:(w3.alloc (.cells #[.string xp,.int .i64 xk,.string xt,.bool xo] 53)).cell? ⟨W.heap.size,0,none⟩=some (.slice none 0 0):=(by simp [World.cell?,kE]);have r1:(w3.alloc (.cells #[.string xp,.int .i64 xk,.string xt,.bool xo] 53)).cell? ⟨W.heap.size,1,none⟩=some (.slice none 0 0):=(by simp [World.cell?,kE]);have f0:(w3.alloc (.cells #[.string xp,.int .i64 xk,.string xt,.bool xo] 53)).frozen? ⟨W.heap.size,0,none⟩=false:=(by simp [World.frozen?,kE]);have f1:(w3.alloc (.cells #[.string xp,.int .i64 xk,.string xt,.bool xo] 53)).frozen? ⟨W.heap.size,1,none⟩=false:=(by simp [World.frozen?,kE]);have n4:¬ W.heap.size=w3.heap.size:=Nat.ne_of_lt l3;have p0:w3.cell? ⟨W.heap.size,0,none⟩=some (.slice none 0 0):=(by simp [World.cell?,k3]);have p1:w3.cell? ⟨W.heap.size,1,none⟩=some (.slice none 0 0):=(by simp [World.cell?,k3]);have q0:w3.frozen? ⟨W.heap.size,0,none⟩=false:=(by simp [World.frozen?,k3]);have q1:w3.frozen? ⟨W.heap.size,1,none⟩=false:=(by simp [World.frozen?,k3]);have n5:¬ w3.heap.size=W.heap.size:=(fun e=>n4 e.symm);obtain ⟨c0,c1,_⟩:=(HA.out.1.kept h3).cells;rw [← HN.out.1] at c0;rw [← HN.out.2] at c1;have lS:=(HA.out.1.kept h3).lt;have nS:¬ S=w3.heap.size:=Nat.ne_of_lt lS;have nS2:¬ w3.heap.size=S:=(fun e=>nS e.symm);have HK:Aside (Below W.heap.size W (w3.alloc (.cells #[.string xp,.int .i64 xk,.string xt,.bool xo] 53))∧(w3.alloc (.cells #[.string xp,.int .i64 xk,.string xt,.bool xo] 53)).heap[W.heap.size]?=some (.cells #[.slice none 0 0,.slice none 0 0] 26)∧Below W.heap.size W w3∧w3.heap[W.heap.size]?=some (.cells #[.slice none 0 0,.slice none 0 0] 26)):=⟨hXE,kE,h3,k3⟩;clear hXE kE k3 hB3)
   obtain ⟨x0,x1⟩:=vW HK.out.2.2.2 (.slice none 0 0) (.slice none 0 0) (.cells #[.string xp,.int .i64 xk,.string xt,.bool xo] 53)
   refine bodyPost_ret (v:=.tuple #[.agg #[.slice none 0 0,.slice none 0 0],.int .i64 7]) (by simp [results,Tryz.results122,go_sem,x0,x1]) rfl ?_
   rw [HE.out.1]
   exact gZ.no (by decide) (oW HK.out.2.2.1 _ _ _)
  | false =>
   by_cases hk2:xk=2
   ·clear hpt
    have HE:Aside (er=9∧True):=⟨by rw [HEE.out.1,if_neg (by simp),if_neg (by simp),if_pos ⟨rfl,hk2⟩],trivial⟩
    have hk3:(xk == 2)=true:=by simpa using hk2
    clear hk2 HEE HD
    go_enter Tryz.func122,Tryz.ntmps122
    go_wp2_with (go_at_call 27;refine hgt.mono ?_;clear hgt;rintro r w3 ⟨rfl,hB3⟩;rw [HW1.out] at hB3;have h3:Below W.heap.size W w3:=Below.onto HA.out.2.2.1 hB3;have k3:w3.heap[W.heap.size]?=some (.cells #[.slice none 0 0,.slice none 0 0] 26):=(hB3.block _ (by omega)).trans HA.out.2.2.2.1;have l3:W.heap.size<w3.heap.size:=(Array.getElem?_eq_some_iff.1 k3).1;have hXE:Below W.heap.size W (w3.alloc (.cells #[.string xp,.int .i64 xk,.string xt,.bool xo] 53)):=Below.onto h3 ((Grown.refl w3).alloc _).below;have kE:(w3.alloc (.cells #[.string xp,.int .i64 xk,.string xt,.bool xo] 53)).heap[W.heap.size]?=some (.cells #[.slice none 0 0,.slice none 0 0] 26):=(((Grown.refl w3).alloc _).below.block _ l3).trans k3;have r0:(w3.alloc (.cells #[.string xp,.int .i64 xk,.string xt,.bool xo] 53)).cell? ⟨W.heap.size,0,none⟩=some (.slice none 0 0):=(by simp [World.cell?,kE]);have r1:(w3.alloc (.cells #[.string xp,.int .i64 xk,.string xt,.bool xo] 53)).cell? ⟨W.heap.size,1,none⟩=some (.slice none 0 0):=(by simp [World.cell?,kE]);have f0:(w3.alloc (.cells #[.string xp,.int .i64 xk,.string xt,.bool xo] 53)).frozen? ⟨W.heap.size,0,none⟩=false:=(by simp [World.frozen?,kE]);have f1:(w3.alloc (.cells #[.string xp,.int .i64 xk,.string xt,.bool xo] 53)).frozen? ⟨W.heap.size,1,none⟩=false:=(by simp [World.frozen?,kE]);have n4:¬ W.heap.size=w3.heap.size:=Nat.ne_of_lt l3;have p0:w3.cell? ⟨W.heap.size,0,none⟩=some (.slice none 0 0):=(by simp [World.cell?,k3]);have p1:w3.cell? ⟨W.heap.size,1,none⟩=some (.slice none 0 0):=(by simp [World.cell?,k3]);have q0:w3.frozen? ⟨W.heap.size,0,none⟩=false:=(by simp [World.frozen?,k3]);have q1:w3.frozen? ⟨W.heap.size,1,none⟩=false:=(by simp [World.frozen?,k3]);have n5:¬ w3.heap.size=W.heap.size:=(fun e=>n4 e.symm);obtain ⟨c0,c1,_⟩:=(HA.out.1.kept h3).cells;rw [← HN.out.1] at c0;rw [← HN.out.2] at c1;have lS:=(HA.out.1.kept h3).lt;have nS:¬ S=w3.heap.size:=Nat.ne_of_lt lS;have nS2:¬ w3.heap.size=S:=(fun e=>nS e.symm);have HK:Aside (Below W.heap.size W (w3.alloc (.cells #[.string xp,.int .i64 xk,.string xt,.bool xo] 53))∧(w3.alloc (.cells #[.string xp,.int .i64 xk,.string xt,.bool xo] 53)).heap[W.heap.size]?=some (.cells #[.slice none 0 0,.slice none 0 0] 26)∧Below W.heap.size W w3∧w3.heap[W.heap.size]?=some (.cells #[.slice none 0 0,.slice none 0 0] 26)):=⟨hXE,kE,h3,k3⟩;clear hXE kE k3 hB3)
    obtain ⟨x0,x1⟩:=vW HK.out.2.2.2 (.slice none 0 0) (.slice none 0 0) (.cells #[.string xp,.int .i64 xk,.string xt,.bool xo] 53)
    refine bodyPost_ret (v:=.tuple #[.agg #[.slice none 0 0,.slice none 0 0],.int .i64 9]) (by simp [results,Tryz.results122,go_sem,x0,x1]) rfl ?_
    rw [HE.out.1]
    exact gZ.no (by decide) (oW HK.out.2.2.1 _ _ _)
   ·have hk3:(xk == 2)=false:=by simpa using hk2
    have hnk:¬ (true=true∧xk=2):=fun h=>hk2 h.2
    cases u32 with
    | true =>
     have has:s.asIs d.data.toList use:=HD.out.2 ⟨rfl,.inl rfl⟩
     clear hpt
     have HE:Aside (er=0∧up=s.up):=⟨by rw [HEE.out.1,if_neg (by simp),if_neg (by simp),if_neg hnk,if_pos has],by rw [HEE.out.2,if_pos has]⟩
     clear HEE HD has hnk
     go_enter Tryz.func122,Tryz.ntmps122
     go_wp2_with (go_at_call 27;refine hgt.mono ?_;clear hgt;rintro r w3 ⟨rfl,hB3⟩;rw [HW1.out] at hB3;have h3:Below W.heap.size W w3:=Below.onto HA.out.2.2.1 hB3;have k3:w3.heap[W.heap.size]?=some (.cells #[.slice none 0 0,.slice none 0 0] 26):=(hB3.block _ (by omega)).trans HA.out.2.2.2.1;have l3:W.heap.size<w3.heap.size:=(Array.getElem?_eq_some_iff.1 k3).1;have hXE:Below W.heap.size W (w3.alloc (.cells #[.string xp,.int .i64 xk,.string xt,.bool xo] 53)):=Below.onto h3 ((Grown.refl w3).alloc _).below;have kE:(w3.alloc (.cells #[.string xp,.int .i64 xk,.string xt,.bool xo] 53)).heap[W.heap.size]?=some (.cells #[.slice none 0 0,.slice none 0 0] 26):=(((Grown.refl w3).alloc _).below.block _ l3).trans k3;have r0:(w3.alloc (.cells #[.string xp,.int .i64 xk,.string xt,.bool xo] 53)).cell? ⟨W.heap.size,0,none⟩=some (.slice none 0 0):=(by simp [World.cell?,kE]);have r1:(w3.alloc (.cells #[.string xp,.int .i64 xk,.string xt,.bool xo] 53)).cell? ⟨W.heap.size,1,none⟩=some (.slice none 0 0):=(by simp [World.cell?,kE]);have f0:(w3.alloc (.cells #[.string xp,.int .i64 xk,.string xt,.bool xo] 53)).frozen? ⟨W.heap.size,0,none⟩=false:=(by simp [World.frozen?,kE]);have f1:(w3.alloc (.cells #[.string xp,.int .i64 xk,.string xt,.bool xo] 53)).frozen? ⟨W.heap.size,1,none⟩=false:=(by simp [World.frozen?,kE]);have n4:¬ W.heap.size=w3.heap.size:=Nat.ne_of_lt l3;have p0:w3.cell? ⟨W.heap.size,0,none⟩=some (.slice none 0 0):=(by simp [World.cell?,k3]);have p1:w3.cell? ⟨W.heap.size,1,none⟩=some (.slice none 0 0):=(by simp [World.cell?,k3]);have q0:w3.frozen? ⟨W.heap.size,0,none⟩=false:=(by simp [World.frozen?,k3]);have q1:w3.frozen? ⟨W.heap.size,1,none⟩=false:=(by simp [World.frozen?,k3]);have n5:¬ w3.heap.size=W.heap.size:=(fun e=>n4 e.symm);obtain ⟨c0,c1,_⟩:=(HA.out.1.kept h3).cells;rw [← HN.out.1] at c0;rw [← HN.out.2] at c1;have lS:=(HA.out.1.kept h3).lt;have nS:¬ S=w3.heap.size:=Nat.ne_of_lt lS;have nS2:¬ w3.heap.size=S:=(fun e=>nS e.symm);have HK:Aside (Below W.heap.size W (w3.alloc (.cells #[.string xp,.int .i64 xk,.string xt,.bool xo] 53))∧(w3.alloc (.cells #[.string xp,.int .i64 xk,.string xt,.bool xo] 53)).heap[W.heap.size]?=some (.cells #[.slice none 0 0,.slice none 0 0] 26)∧Below W.heap.size W w3∧w3.heap[W.heap.size]?=some (.cells #[.slice none 0 0,.slice none 0 0] 26)):=⟨hXE,kE,h3,k3⟩;clear hXE kE k3 hB3)
     obtain ⟨x0,x1⟩:=vW HK.out.2.2.2 (.slice L.y.ad yn L.y.cap) (.slice L.pl ln L.cl) (.cells #[.string xp,.int .i64 xk,.string xt,.bool xo] 53)
     refine bodyPost_ret (v:=.tuple #[.agg #[.slice L.y.ad yn L.y.cap,.slice L.pl ln L.cl],.int .i64 0]) (by simp [results,Tryz.results122,go_sem,x0,x1]) rfl ?_
     rw [HE.out.1]
     exact vV HA.out.1 HA.out.2.2.2.2 HN.out.1 HN.out.2 (oW HK.out.2.2.1 _ _ _) (HE.out.2)
    | false =>
     by_cases hxt:xt.data.toList=[]
     ·have has:s.asIs d.data.toList use:=HD.out.2 ⟨rfl,.inr hxt⟩
      have hxe:xt.toList.isEmpty=true:=by rw [Lib.toList_data,hxt];rfl
      clear hpt
      have HE:Aside (er=0∧up=s.up):=⟨by rw [HEE.out.1,if_neg (by simp),if_neg (by simp),if_neg hnk,if_pos has],by rw [HEE.out.2,if_pos has]⟩
      clear HEE HD has hnk hxt
      go_enter Tryz.func122,Tryz.ntmps122
      go_wp2_with (go_at_call 27;refine hgt.mono ?_;clear hgt;rintro r w3 ⟨rfl,hB3⟩;rw [HW1.out] at hB3;have h3:Below W.heap.size W w3:=Below.onto HA.out.2.2.1 hB3;have k3:w3.heap[W.heap.size]?=some (.cells #[.slice none 0 0,.slice none 0 0] 26):=(hB3.block _ (by omega)).trans HA.out.2.2.2.1;have l3:W.heap.size<w3.heap.size:=(Array.getElem?_eq_some_iff.1 k3).1;have hXE:Below W.heap.size W (w3.alloc (.cells #[.string xp,.int .i64 xk,.string xt,.bool xo] 53)):=Below.onto h3 ((Grown.refl w3).alloc _).below;have kE:(w3.alloc (.cells #[.string xp,.int .i64 xk,.string xt,.bool xo] 53)).heap[W.heap.size]?=some (.cells #[.slice none 0 0,.slice none 0 0] 26):=(((Grown.refl w3).alloc _).below.block _ l3).trans k3;have r0:(w3.alloc (.cells #[.string xp,.int .i64 xk,.string xt,.bool xo] 53)).cell? ⟨W.heap.size,0,none⟩=some (.slice none 0 0):=(by simp [World.cell?,kE]);have r1:(w3.alloc (.cells #[.string xp,.int .i64 xk,.string xt,.bool xo] 53)).cell? ⟨W.heap.size,1,none⟩=some (.slice none 0 0):=(by simp [World.cell?,kE]);have f0:(w3.alloc (.cells #[.string xp,.int .i64 xk,.string xt,.bool xo] 53)).frozen? ⟨W.heap.size,0,none⟩=false:=(by simp [World.frozen?,kE]);have f1:(w3.alloc (.cells #[.string xp,.int .i64 xk,.string xt,.bool xo] 53)).frozen? ⟨W.heap.size,1,none⟩=false:=(by simp [World.frozen?,kE]);have n4:¬ W.heap.size=w3.heap.size:=Nat.ne_of_lt l3;have p0:w3.cell? ⟨W.heap.size,0,none⟩=some (.slice none 0 0):=(by simp [World.cell?,k3]);have p1:w3.cell? ⟨W.heap.size,1,none⟩=some (.slice none 0 0):=(by simp [World.cell?,k3]);have q0:w3.frozen? ⟨W.heap.size,0,none⟩=false:=(by simp [World.frozen?,k3]);have q1:w3.frozen? ⟨W.heap.size,1,none⟩=false:=(by simp [World.frozen?,k3]);have n5:¬ w3.heap.size=W.heap.size:=(fun e=>n4 e.symm);obtain ⟨c0,c1,_⟩:=(HA.out.1.kept h3).cells;rw [← HN.out.1] at c0;rw [← HN.out.2] at c1;have lS:=(HA.out.1.kept h3).lt;have nS:¬ S=w3.heap.size:=Nat.ne_of_lt lS;have nS2:¬ w3.heap.size=S:=(fun e=>nS e.symm);have HK:Aside (Below W.heap.size W (w3.alloc (.cells #[.string xp,.int .i64 xk,.string xt,.bool xo] 53))∧(w3.alloc (.cells #[.string xp,.int .i64 xk,.string xt,.bool xo] 53)).heap[W.heap.size]?=some (.cells #[.slice none 0 0,.slice none 0 0] 26)∧Below W.heap.size W w3∧w3.heap[W.heap.size]?=some (.cells #[.slice none 0 0,.slice none 0 0] 26)):=⟨hXE,kE,h3,k3⟩;clear hXE kE k3 hB3)
      obtain ⟨x0,x1⟩:=vW HK.out.2.2.2 (.slice L.y.ad yn L.y.cap) (.slice L.pl ln L.cl) (.cells #[.string xp,.int .i64 xk,.string xt,.bool xo] 53)
      refine bodyPost_ret (v:=.tuple #[.agg #[.slice L.y.ad yn L.y.cap,.slice L.pl ln L.cl],.int .i64 0]) (by simp [results,Tryz.results122,go_sem,x0,x1]) rfl ?_
      rw [HE.out.1]
      exact vV HA.out.1 HA.out.2.2.2.2 HN.out.1 HN.out.2 (oW HK.out.2.2.1 _ _ _) (HE.out.2)
     ·have hna:¬ s.asIs d.data.toList use:=fun h=>by have:=HD.out.1 h;simp [hxt] at this
      have hxe:xt.toList.isEmpty=false:=by rw [Lib.toList_data];simpa using hxt
      have HE:Aside (er=ae∧True):=⟨by rw [HEE.out.1,if_neg (by simp),if_neg (by simp),if_neg hnk,if_neg hna],trivial⟩
      have HAE:Aside (ae=0→(if ae=0 then aC s.up ⟨d,1,⟨#[]⟩,false⟩ else [])=up∧(if ae=0 then s.lows else [])=s.lows∧(ay (up::s.lows)).1=0):=by rw [HEE.out.2,if_neg hna];exact HAE0.out
      clear HEE HD hna hnk hxt
      go_enter Tryz.func122,Tryz.ntmps122
      go_wp2_with (first | (go_at_call 27;refine hgt.mono ?_;clear hgt;rintro r w3 ⟨rfl,hB3⟩;rw [HW1.out] at hB3;have h3:Below W.heap.size W w3:=Below.onto HA.out.2.2.1 hB3;have k3:w3.heap[W.heap.size]?=some (.cells #[.slice none 0 0,.slice none 0 0] 26):=(hB3.block _ (by omega)).trans HA.out.2.2.2.1;have l3:W.heap.size<w3.heap.size:=(Array.getElem?_eq_some_iff.1 k3).1;have hXE:Below W.heap.size W (w3.alloc (.cells #[.string xp,.int .i64 xk,.string xt,.bool xo] 53)):=Below.onto h3 ((Grown.refl w3).alloc _).below;have kE:(w3.alloc (.cells #[.string xp,.int .i64 xk,.string xt,.bool xo] 53)).heap[W.heap.size]?=some (.cells #[.slice none 0 0,.slice none 0 0] 26):=(((Grown.refl w3).alloc _).below.block _ l3).trans k3;have r0:(w3.alloc (.cells #[.string xp,.int .i64 xk,.string xt,.bool xo] 53)).cell? ⟨W.heap.size,0,none⟩=some (.slice none 0 0):=(by simp [World.cell?,kE]);have r1:(w3.alloc (.cells #[.string xp,.int .i64 xk,.string xt,.bool xo] 53)).cell? ⟨W.heap.size,1,none⟩=some (.slice none 0 0):=(by simp [World.cell?,kE]);have f0:(w3.alloc (.cells #[.string xp,.int .i64 xk,.string xt,.bool xo] 53)).frozen? ⟨W.heap.size,0,none⟩=false:=(by simp [World.frozen?,kE]);have f1:(w3.alloc (.cells #[.string xp,.int .i64 xk,.string xt,.bool xo] 53)).frozen? ⟨W.heap.size,1,none⟩=false:=(by simp [World.frozen?,kE]);have n4:¬ W.heap.size=w3.heap.size:=Nat.ne_of_lt l3;have p0:w3.cell? ⟨W.heap.size,0,none⟩=some (.slice none 0 0):=(by simp [World.cell?,k3]);have p1:w3.cell? ⟨W.heap.size,1,none⟩=some (.slice none 0 0):=(by simp [World.cell?,k3]);have q0:w3.frozen? ⟨W.heap.size,0,none⟩=false:=(by simp [World.frozen?,k3]);have q1:w3.frozen? ⟨W.heap.size,1,none⟩=false:=(by simp [World.frozen?,k3]);have n5:¬ w3.heap.size=W.heap.size:=(fun e=>n4 e.symm);obtain ⟨c0,c1,_⟩:=(HA.out.1.kept h3).cells;rw [← HN.out.1] at c0;rw [← HN.out.2] at c1;have lS:=(HA.out.1.kept h3).lt;have nS:¬ S=w3.heap.size:=Nat.ne_of_lt lS;have nS2:¬ w3.heap.size=S:=(fun e=>nS e.symm);have HK:Aside (Below W.heap.size W (w3.alloc (.cells #[.string xp,.int .i64 xk,.string xt,.bool xo] 53))∧(w3.alloc (.cells #[.string xp,.int .i64 xk,.string xt,.bool xo] 53)).heap[W.heap.size]?=some (.cells #[.slice none 0 0,.slice none 0 0] 26)∧Below W.heap.size W w3∧w3.heap[W.heap.size]?=some (.cells #[.slice none 0 0,.slice none 0 0] 26)):=⟨hXE,kE,h3,k3⟩;clear hXE kE k3 hB3) | (go_at_call 126;refine (hpt _ HK.out.1).mono ?_;clear hpt;rintro r w7 ⟨y,lo,pl,cl,yn',ln',rfl,H7⟩;have k7:w7.heap[W.heap.size]?=some (.cells #[.slice none 0 0,.slice none 0 0] 26):=(H7.out.2.2.2.2.2.1.block _ (Array.getElem?_eq_some_iff.1 HK.out.2.1).1).trans HK.out.2.1;have x0:w7.cell? ⟨W.heap.size,0,none⟩=some (.slice none 0 0):=(by simp [World.cell?,k7]);have x1:w7.cell? ⟨W.heap.size,1,none⟩=some (.slice none 0 0):=(by simp [World.cell?,k7]);have g0:w7.frozen? ⟨W.heap.size,0,none⟩=false:=(by simp [World.frozen?,k7]);have g1:w7.frozen? ⟨W.heap.size,1,none⟩=false:=(by simp [World.frozen?,k7]);have H7K:Aside (w7.heap[W.heap.size]?=some (.cells #[.slice none 0 0,.slice none 0 0] 26)):=k7;clear k7))
      refine bodyPost_ret (v:=.tuple #[.agg #[.slice y.ad yn' y.cap,.slice pl ln' cl],.int .i64 ae]) (by simp [results,Tryz.results122,go_sem,x0,x1]) rfl ?_
      rw [HE.out.1]
      exact xB HA.out.1 HK.out.1 H7.out HAE.out (HE.out.2) (Array.getElem?_eq_some_iff.1 HK.out.2.1).1
def Ii (base S:Nat) (s s':Sy) (i:Nat) (L:Lay6) (W:World) (r:Ending) (W':World):Prop:=∃ L':Lay6,r=.returned (.pointer (some ⟨L'.fb i,0,none⟩))∧aj base W' S s' L'∧L'.ob=L.ob∧L'.ex=L.ex∧Below W.heap.size W W'∧(∀ x,x<s.files.length→L'.fb x=L.fb x)∧(∀ x,s.files.length≤x→x<s'.files.length→W.heap.size≤L'.fb x)∧i<s'.files.length∧s'.opens=s.opens
set_option maxHeartbeats 1000000 in
theorem tq {base:Nat} {W:World} {S:Nat} {s:Sy} {L:Lay6} (h:aj base W S s L) (q:ByteArray) :
  Calls Tryz.prog 125 #[.pointer (some ⟨S,0,none⟩),.string q] W (Ii base S s (s.fileAt q).1 (s.fileAt q).2 L W):=by
 have hfl:=nZ h
 have HS:Aside (aj base W S s L):=h
 have hn32:s.reach.length≤32:=mQ s 32
 obtain ⟨n,hn⟩:∃ n,n=s.reach.length:=⟨_,rfl⟩
 have HN:Aside (n=s.reach.length):=hn
 rw [← hn] at hn32
 clear h hn
 go_enter Tryz.func125,Tryz.ntmps125
 go_wp2_with (go_at_call 41;refine hfl.mono ?_;clear hfl;rintro e w1 ⟨⟨v,rfl,hP⟩,hB⟩;obtain ⟨p,c,rfl,hLP,_⟩:=hP.form;have HLP:Aside (jd w1 p (bsTo s L 32)∧Below W.heap.size W w1):=⟨hLP,hB⟩;rw [show (bsTo s L 32).length=n from by rw [HN.out];simp [bsTo,Sy.reach]];clear hP hLP hB)
 go_loopg [10] n (fun gg s10 wr=>∃ k:Nat,k≤n∧n-k≤gg∧s10=.int .i64 k∧Aside (wr=w1)∧Aside (∀ y∈s.reach.take k,decide ((s.pathOf y).data.toList=q.data.toList)=false))
 case atStart=>exact ⟨0,Nat.zero_le _,by omega,rfl,rfl,fun y hy=>by simp at hy⟩
 case round =>
  obtain ⟨k,hk,hgg,rfl,HW,HA⟩:=hrel
  rw [HW.out]
  by_cases hlt:k<n
  ·have hltz:(k:Int)<(n:Int):=by omega
   obtain ⟨i,hi⟩:∃ i,s.reach[k]?=some i:=⟨_,List.getElem?_eq_getElem (by have:=HN.out;omega)⟩
   have hil:=HS.out.nM 32 i (List.mem_of_getElem? hi)
   obtain ⟨f,hf⟩:∃ f,s.files[i]?=some f:=⟨_,List.getElem?_eq_getElem hil⟩
   have hbk:(bsTo s L 32)[k]?=some (L.fb i):=by show (s.reach.map L.fb)[k]?=_;rw [List.getElem?_map,hi];rfl
   rcases HLP.out.1 with h0 | ⟨b,off,rfl,hb,hc⟩
   ·rw [h0] at hbk;simp at hbk
   have c0:w1.cell? ⟨b,off+k,none⟩=some (.pointer (some ⟨L.fb i,0,none⟩)):=hc k _ hbk
   have c1:w1.cell? ⟨L.fb i,0,none⟩=some (.string f.path):=((HS.out.kept HLP.out.2).kT hf).1.1
   have hpo:s.pathOf i=f.path:=by simp [Sy.pathOf,hf]
   have HI:Aside (s.reach[k]?=some i):=hi
   clear hc hbk hi
   by_cases heq:f.path.data.toList=q.data.toList
   ·have HF:Aside (s.fileAt q=(s,i)):=by show _=_;rw [Sy.fileAt,Sy.pG,wD HI.out (by simp [hpo,heq]) HA.out]
    have q1:(f.path.toList == q.toList)=true:=by rw [Lib.toList_data,Lib.toList_data,heq];simp
    clear hpo heq hf
    go_wp2
    go_ret
    rw [HF.out]
    exact ⟨L,rfl,HS.out.kept HLP.out.2,rfl,rfl,HLP.out.2,fun _ _=>rfl,fun x h1 h2=>absurd h2 (Nat.not_lt.2 h1),hil,rfl⟩
   ·have q1:(f.path.toList == q.toList)=false:=by rw [Lib.toList_data,Lib.toList_data];simpa using heq
    have HZ:Aside (∀ y∈s.reach.take (k+1),decide ((s.pathOf y).data.toList=q.data.toList)=false):=by
     show ∀ y∈s.reach.take (k+1),decide ((s.pathOf y).data.toList=q.data.toList)=false
     intro z hz
     rw [List.take_add_one] at hz
     rcases List.mem_append.1 hz with hz | hz
     ·exact HA.out z hz
     ·rw [HI.out] at hz
      simp at hz
      rw [hz,hpo]
      simpa using heq
    clear hpo heq hf
    go_wp2
    go_roundg (n-(k+1))
    case measure=>omega
    case rel=>exact ⟨k+1,by omega,by omega,by go_num,rfl,HZ.out⟩
  ·have hltz:¬ (k:Int)<(n:Int):=by omega
   have HF:Aside (s.fileAt q=(s.iP ⟨q,⟨#[]⟩,[]⟩,s.files.length)):=by show _=_;rw [Sy.fileAt,Sy.pG,Gc (k:=k) (by have:=HN.out;omega) HA.out]
   go_wp2
   go_ret
   rw [HF.out]
   obtain ⟨L',h1,h2,h3,h4,_,_,_,_,h5⟩:=(HS.out.kept HLP.out.2).II q ⟨#[]⟩
   exact ⟨L',by show _=Ending.returned (.pointer (some ⟨L'.fb s.files.length,0,none⟩));rw [h4];rfl,h1,h2,h5,HLP.out.2.alloc HLP.out.2.size _,h3,fun x hx1 hx2=>by (have hx2:x<s.files.length+1:=by simpa [Sy.iP] using hx2);rw [show x=s.files.length by omega,h4];exact HLP.out.2.size,by simp [Sy.iP],rfl⟩
section
variable {base:Nat} {W X:World} {S:Nat} {s:Sy} {L:Lay6}
theorem aj.Gv (h:aj base W S s L) (i:Nat) (hi:i<s.files.length) (use:Int):∃ L':Lay6,aj base (W.alloc (.cells #[.pointer (some ⟨L.fb i,0,none⟩),.int .i64 use,.int .i64 0] 116)) S (s.gT ⟨i,use,0⟩) L'∧L'.fb=L.fb∧L'.ob s.opens.length=W.heap.size∧L'.ex=L.ex∧∀ j,j<s.opens.length→L'.ob j=L.ob j:=by
 have hB:Below W.heap.size W (W.alloc (.cells #[.pointer (some ⟨L.fb i,0,none⟩),.int .i64 use,.int .i64 0] 116)):=((Grown.refl W).alloc _).below
 have hk:=h.kept hB
 have hnew:(W.alloc (.cells #[.pointer (some ⟨L.fb i,0,none⟩),.int .i64 use,.int .i64 0] 116)).heap[W.heap.size]?=some (.cells #[.pointer (some ⟨L.fb i,0,none⟩),.int .i64 use,.int .i64 0] 116):=heap_alloc_last W _
 have hob:∀ i,i<s.opens.length→(if i=s.opens.length then W.heap.size else L.ob i)=L.ob i:=fun i hi=>if_neg (by omega)
 refine ⟨{ L with ob:=fun i=>if i=s.opens.length then W.heap.size else L.ob i },⟨?_,fun j o ho=>?_,hk.fil,fun a b ha hb e=>?_,h.injF,?_,h.up,h.low,h.scap,h.snil,fun k j hj=>?_,fun o ho=>?_,hk.exb,⟨h.base.1,fun j hj=>?_,h.base.2.2⟩⟩,rfl,if_pos rfl,rfl,hob⟩
 ·obtain ⟨arr,ha,hs,a0,a1,a2,af⟩:=hk.blk
  refine ⟨arr,ha,hs,a0,a1,a2,fun k hk'=>?_⟩
  rw [af k hk']
  show _=some (Value.pointer ((s.fds k).map fun j=>⟨if j=s.opens.length then W.heap.size else L.ob j,0,none⟩))
  cases hf:s.fds k with
  | none=>rfl
  | some j =>
   show some (Value.pointer (some ⟨L.ob j,0,none⟩))=some (Value.pointer (some ⟨if j=s.opens.length then W.heap.size else L.ob j,0,none⟩))
   rw [hob j (h.val1 k j hf)]
 ·show (W.alloc _).heap[if j=s.opens.length then W.heap.size else L.ob j]?=_
  rcases iK ho with ⟨rfl,rfl⟩ | ⟨hj,ho⟩
  ·rw [if_pos rfl];exact hnew
  ·rw [hob j hj];exact hk.opn j o ho
 ·have e:(if a=s.opens.length then W.heap.size else L.ob a)=(if b=s.opens.length then W.heap.size else L.ob b):=e
  have ha:a<s.opens.length+1:=by simpa [Sy.gT] using ha
  have hb:b<s.opens.length+1:=by simpa [Sy.gT] using hb
  by_cases ea:a=s.opens.length
  ·by_cases eb:b=s.opens.length
   ·omega
   ·rw [if_pos ea,if_neg eb] at e;have:=h.olt (j:=b) (by omega);omega
  ·by_cases eb:b=s.opens.length
   ·rw [if_neg ea,if_pos eb] at e;have:=h.olt (j:=a) (by omega);omega
   ·rw [if_neg ea,if_neg eb] at e;exact h.injO a b (by omega) (by omega) e
 ·intro Y hY
  have hZ:Keep (Sp S s L) W Y:=⟨Nat.le_trans (by simp) hY.size,fun b hb hn=>(hY.block b (by simp;omega) (fun hs=>hn (by
   rcases hs with (rfl | hx) | ⟨j,hj,rfl⟩ | ⟨i,hi,rfl⟩
   ·exact .inl (.inl rfl)
   ·exact .inl (.inr hx)
   ·have hj:j<s.opens.length+1:=by simpa [Sy.gT] using hj
    have hb:(if j=s.opens.length then W.heap.size else L.ob j)<W.heap.size:=hb
    by_cases ej:j=s.opens.length
    ·rw [if_pos ej] at hb;omega
    ·exact .inr (.inl ⟨j,by omega,if_neg ej⟩)
   ·exact .inr (.inr ⟨i,hi,rfl⟩)))).trans (hB.block b hb)⟩
  have hd:=h.data Y hZ
  exact ⟨hd.un,hd.seen,hd.locks⟩
 ·have:=h.val1 k j hj
  simp [Sy.gT];omega
 ·rcases List.mem_append.1 ho with ho | ho
  ·exact h.val2 o ho
  ·simp at ho;rw [ho];exact hi
 ·show base≤(if j=s.opens.length then W.heap.size else L.ob j)
  have hj:j<s.opens.length+1:=by simpa [Sy.gT] using hj
  by_cases ej:j=s.opens.length
  ·rw [if_pos ej];exact Nat.le_trans h.base.1 (Nat.le_of_lt h.lt)
  ·rw [if_neg ej];exact h.base.2.1 j (by omega)
end
end Go.Proofs.YthfeoiffoeagkaaGreatDoor
