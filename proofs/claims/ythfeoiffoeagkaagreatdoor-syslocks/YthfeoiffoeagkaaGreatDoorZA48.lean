/-
  SysLocks: the law.
-/
import Derived.Test.YthfeoiffoeagkaaGreatDoorZA47
import Derived.Test.YthfeoiffoeagkaaGreatDoorZA40
namespace Go.Proofs.YthfeoiffoeagkaaGreatDoor
open Go.RowKit PM Go.Sort
set_option linter.unusedVariables false
def SeeL (es:List Ent) (e:Int) (n:Nat) (Y:World) (r:Ending) (w':World):Prop:=∃ p c,r=.returned (.tuple #[.slice p n c,.int .i64 e])∧Aside (Lies w' p es)∧Below Y.heap.size Y w'
theorem ED (W:World) (o f t:Int) (a:Bool):LK.Lies (W.alloc (.cells #[.int .i64 o,.int .i64 f,.int .i64 t,.bool a] 58)) (some ⟨W.heap.size,0,none⟩) [⟨o,f,t,a⟩]:=by
 refine .inr ⟨W.heap.size,0,rfl,by simp,fun j y hy i v hv=>?_⟩
 cases j with
 | succ j=>simp at hy
 | zero =>
  simp at hy
  subst hy
  have hi:i<4:=by
   have:=(List.getElem?_eq_some_iff.1 hv).1
   exact this
  obtain rfl | rfl | rfl | rfl:i=0∨i=1∨i=2∨i=3:=by omega
  all_goals (simp [LK.encK] at hv;subst hv;simp)
theorem kg (W:World) (H:Nat) (hH:H=W.heap.size) (o f t:Int) (a:Bool):Calls Tryz.prog 28 #[.slice (some ⟨H,0,none⟩) 1 1] (W.alloc (.cells #[.int .i64 o,.int .i64 f,.int .i64 t,.bool a] 58)) fun r w'=>r=.returned (.agg #[.int .i64 (LK.KM.bC [⟨o,f,t,a⟩]).1,.int .i64 (LK.KM.bC [⟨o,f,t,a⟩]).2])∧Below W.heap.size W w':=by
 subst hH
 exact (LK.iZ [⟨o,f,t,a⟩] (some ⟨W.heap.size,0,none⟩) 1 _ (ED W o f t a) (by show 1<_;decide) (by show 1≤1;decide)).mono fun r w' ⟨h1,h2⟩=>⟨h1,Below.onto ((Grown.refl W).alloc _).below h2⟩
theorem JV {x y z:LK.Lk} {b:Bool} (h:LK.uY [x] y z b):b=LK.KM.clash y x:=by
 have:=h.any
 simpa using this.symm
theorem xQ (W:World) (H:Nat) (hH:H=W.heap.size) (o f t:Int) (a:Bool) (y:LK.Lk):Calls Tryz.prog 31 #[.slice (some ⟨H,0,none⟩) 1 1,.agg #[.int .i64 y.o, .int .i64 y.f, .int .i64 y.t, .bool y.a]] (W.alloc (.cells #[.int .i64 o,.int .i64 f,.int .i64 t,.bool a] 58)) fun r w'=>(∃ z0 z1 z2 z3,r=.returned (.tuple #[.agg #[.int .i64 z0,.int .i64 z1,.int .i64 z2,.bool z3],.bool (LK.KM.clash y ⟨o,f,t,a⟩)]))∧Below W.heap.size W w':=by
 subst hH
 exact (LK.rH [⟨o,f,t,a⟩] y (some ⟨W.heap.size,0,none⟩) 1 _ (ED W o f t a) (by show 1<_;decide)).mono fun r w' ⟨z,b,h1,h2,h3⟩=>⟨⟨_,_,_,_,by rw [← JV h2];exact h1⟩,Below.onto ((Grown.refl W).alloc _).below h3⟩
theorem su (o f t:Int) (a:Bool) (w:World):Calls Tryz.prog 29 #[.agg #[.int .i64 o,.int .i64 f,.int .i64 t,.bool a]] w fun r w'=>r=.returned (.agg #[.int .i64 14,.int .i64 o,.int .i64 0,.int .i64 f,.int .i64 t,.string ⟨#[]⟩,.string ⟨#[]⟩,.string ⟨#[]⟩,.bool a])∧Below w.heap.size w w':=by
 go_enter Tryz.func29,Tryz.ntmps29
 go_wp2
 exact bodyPost_ret (v:=.agg #[.int .i64 14,.int .i64 o,.int .i64 0,.int .i64 f,.int .i64 t,.string ⟨#[]⟩,.string ⟨#[]⟩,.string ⟨#[]⟩,.bool a]) (by simp [results,Tryz.results29,go_sem]) rfl ⟨rfl,((Below.refl _ _).alloc (Nat.le_refl _) _).alloc (by simp) _⟩
theorem vQ (P:Nat) (p:ByteArray) (o:Int) (w:World) (h:w.cell? ⟨P,0,none⟩=some (.string p)):Calls Tryz.prog 30 #[.int .i64 o,.pointer (some ⟨P,0,none⟩)] w fun r w'=>r=.returned (.agg #[.int .i64 1,.int .i64 o,.int .i64 0,.int .i64 1,.int .i64 0,.string p,.string ⟨#[]⟩,.string ⟨#[]⟩,.bool false])∧Below w.heap.size w w':=by
 have h':=fun x=>Lib.cell?_alloc_some x h
 go_enter Tryz.func30,Tryz.ntmps30
 go_wp2
 exact bodyPost_ret (v:=.agg #[.int .i64 1,.int .i64 o,.int .i64 0,.int .i64 1,.int .i64 0,.string p,.string ⟨#[]⟩,.string ⟨#[]⟩,.bool false]) (by simp [results,Tryz.results30,go_sem]) rfl ⟨rfl,((Grown.refl w).alloc _).below⟩
theorem sI (W:World) (u p a b:Obj):((((W.alloc u).alloc p).alloc a).alloc b).heap[W.heap.size+1+1]?=some a∧((((W.alloc u).alloc p).alloc a).alloc b).heap[W.heap.size+1+1+1]?=some b:=by
 have h1:=blk1 ((W.alloc u).alloc p) a b
 have h2:=blk2 ((W.alloc u).alloc p) a b
 simp only [World.size_alloc] at h1 h2
 exact ⟨h1,h2⟩
def BxL (W:World) (u1 u2:Option Addr) (k1 k2 z1 z2:Nat) (p:ByteArray) (xf xt yf yt:Int) (xa ya:Bool) (Y:World):Prop:=W.heap.size+1+1+1<Y.heap.size∧Below W.heap.size W Y∧Y.cell? ⟨W.heap.size,0,none⟩=some (.slice u1 k1 z1)∧Y.cell? ⟨W.heap.size,1,none⟩=some (.slice u2 k2 z2)∧Y.cell? ⟨W.heap.size+1,0,none⟩=some (.string p)∧Y.cell? ⟨W.heap.size+1+1,0,none⟩=some (.int .i64 0)∧Y.cell? ⟨W.heap.size+1+1,1,none⟩=some (.int .i64 xf)∧Y.cell? ⟨W.heap.size+1+1,2,none⟩=some (.int .i64 xt)∧Y.cell? ⟨W.heap.size+1+1,3,none⟩=some (.bool xa)∧Y.cell? ⟨W.heap.size+1+1+1,0,none⟩=some (.int .i64 1)∧Y.cell? ⟨W.heap.size+1+1+1,1,none⟩=some (.int .i64 yf)∧Y.cell? ⟨W.heap.size+1+1+1,2,none⟩=some (.int .i64 yt)∧Y.cell? ⟨W.heap.size+1+1+1,3,none⟩=some (.bool ya)
theorem BxL.kept {W:World} {u1 u2:Option Addr} {k1 k2 z1 z2:Nat} {p:ByteArray} {xf xt yf yt:Int} {xa ya:Bool} {Y Z:World} (h:BxL W u1 u2 k1 k2 z1 z2 p xf xt yf yt xa ya Y) (hB:Below Y.heap.size Y Z):BxL W u1 u2 k1 k2 z1 z2 p xf xt yf yt xa ya Z:=by
 obtain ⟨h0,h1,c0,c1,c2,c3,c4,c5,c6,c7,c8,c9,c10⟩:=h
 exact ⟨Nat.lt_of_lt_of_le h0 hB.size,Below.onto h1 hB,(hB.cell (p:=⟨W.heap.size,0,none⟩) (by show W.heap.size<_;omega)).trans c0,(hB.cell (p:=⟨W.heap.size,1,none⟩) (by show W.heap.size<_;omega)).trans c1,(hB.cell (p:=⟨W.heap.size+1,0,none⟩) (by show W.heap.size+1<_;omega)).trans c2,(hB.cell (p:=⟨W.heap.size+1+1,0,none⟩) (by show W.heap.size+1+1<_;omega)).trans c3,(hB.cell (p:=⟨W.heap.size+1+1,1,none⟩) (by show W.heap.size+1+1<_;omega)).trans c4,(hB.cell (p:=⟨W.heap.size+1+1,2,none⟩) (by show W.heap.size+1+1<_;omega)).trans c5,(hB.cell (p:=⟨W.heap.size+1+1,3,none⟩) (by show W.heap.size+1+1<_;omega)).trans c6,(hB.cell (p:=⟨W.heap.size+1+1+1,0,none⟩) (by show W.heap.size+1+1+1<_;omega)).trans c7,(hB.cell (p:=⟨W.heap.size+1+1+1,1,none⟩) (by show W.heap.size+1+1+1<_;omega)).trans c8,(hB.cell (p:=⟨W.heap.size+1+1+1,2,none⟩) (by show W.heap.size+1+1+1<_;omega)).trans c9,(hB.cell (p:=⟨W.heap.size+1+1+1,3,none⟩) (by show W.heap.size+1+1+1<_;omega)).trans c10⟩
theorem wP (W:World) (u1 u2:Option Addr) (k1 k2 z1 z2:Nat) (p:ByteArray) (xf xt yf yt:Int) (xa ya:Bool) (xo yo:Int) (Y:World) (hB:Below ((((W.alloc (.cells #[.slice u1 k1 z1,.slice u2 k2 z2] 26)).alloc (.cells #[.string p] 9)).alloc (.cells #[.int .i64 xo,.int .i64 xf,.int .i64 xt,.bool xa] 58)).alloc (.cells #[.int .i64 yo,.int .i64 yf,.int .i64 yt,.bool ya] 58)).heap.size ((((W.alloc (.cells #[.slice u1 k1 z1,.slice u2 k2 z2] 26)).alloc (.cells #[.string p] 9)).alloc (.cells #[.int .i64 xo,.int .i64 xf,.int .i64 xt,.bool xa] 58)).alloc (.cells #[.int .i64 yo,.int .i64 yf,.int .i64 yt,.bool ya] 58)) Y):BxL W u1 u2 k1 k2 z1 z2 p xf xt yf yt xa ya ((Y.setCell ⟨W.heap.size+1+1,0,none⟩ (.int .i64 0)).setCell ⟨W.heap.size+1+1+1,0,none⟩ (.int .i64 1)):=by
 have hs:=hB.size
 simp only [World.size_alloc] at hs
 have hw:Below W.heap.size W Y:=Below.onto (((((Below.refl W.heap.size W).alloc (Nat.le_refl _) _).alloc (by simp) _).alloc (by simp;omega) _).alloc (by simp;omega) _) hB
 have d0:Y.cell? ⟨W.heap.size,0,none⟩=some (.slice u1 k1 z1):=(hB.cell (p:=⟨W.heap.size,0,none⟩) (by simp only [World.size_alloc];omega)).trans (Lib.cell?_alloc_some _ (Lib.cell?_alloc_some _ (Lib.cell?_alloc_some _ (by simp))))
 have d1:Y.cell? ⟨W.heap.size,1,none⟩=some (.slice u2 k2 z2):=(hB.cell (p:=⟨W.heap.size,1,none⟩) (by simp only [World.size_alloc];omega)).trans (Lib.cell?_alloc_some _ (Lib.cell?_alloc_some _ (Lib.cell?_alloc_some _ (by simp))))
 have d2:Y.cell? ⟨W.heap.size+1,0,none⟩=some (.string p):=(hB.cell (p:=⟨W.heap.size+1,0,none⟩) (by simp only [World.size_alloc];omega)).trans (Lib.cell?_alloc_some _ (Lib.cell?_alloc_some _ (by simp)))
 obtain ⟨⟨d3,d4,d5,d6⟩,_⟩:=bK ((hB.block (W.heap.size+1+1) (by simp only [World.size_alloc];omega)).trans (sI W _ _ _ _).1)
 obtain ⟨⟨d7,d8,d9,d10⟩,_⟩:=bK ((hB.block (W.heap.size+1+1+1) (by simp only [World.size_alloc];omega)).trans (sI W _ _ _ _).2)
 exact ⟨by simp;omega,(hw.setCell (by show W.heap.size≤W.heap.size+1+1;omega) _).setCell (by show W.heap.size≤W.heap.size+1+1+1;omega) _,(World.cell?_setCell_far _ _ _ _ (by show W.heap.size+1+1+1≠W.heap.size;omega)).trans ((World.cell?_setCell_far _ _ _ _ (by show W.heap.size+1+1≠W.heap.size;omega)).trans d0),(World.cell?_setCell_far _ _ _ _ (by show W.heap.size+1+1+1≠W.heap.size;omega)).trans ((World.cell?_setCell_far _ _ _ _ (by show W.heap.size+1+1≠W.heap.size;omega)).trans d1),(World.cell?_setCell_far _ _ _ _ (by show W.heap.size+1+1+1≠W.heap.size+1;omega)).trans ((World.cell?_setCell_far _ _ _ _ (by show W.heap.size+1+1≠W.heap.size+1;omega)).trans d2),(World.cell?_setCell_far _ _ _ _ (by show W.heap.size+1+1+1≠W.heap.size+1+1;omega)).trans (World.cell?_setCell_same _ _ _ d3),(World.cell?_setCell_far _ _ _ _ (by show W.heap.size+1+1+1≠W.heap.size+1+1;omega)).trans ((World.cell?_setCell_other _ _ _ _ (by simp)).trans d4),(World.cell?_setCell_far _ _ _ _ (by show W.heap.size+1+1+1≠W.heap.size+1+1;omega)).trans ((World.cell?_setCell_other _ _ _ _ (by simp)).trans d5),(World.cell?_setCell_far _ _ _ _ (by show W.heap.size+1+1+1≠W.heap.size+1+1;omega)).trans ((World.cell?_setCell_other _ _ _ _ (by simp)).trans d6),World.cell?_setCell_same _ _ _ ((World.cell?_setCell_far _ _ _ _ (by show W.heap.size+1+1≠W.heap.size+1+1+1;omega)).trans d7),(World.cell?_setCell_other _ _ _ _ (by simp)).trans ((World.cell?_setCell_far _ _ _ _ (by show W.heap.size+1+1≠W.heap.size+1+1+1;omega)).trans d8),(World.cell?_setCell_other _ _ _ _ (by simp)).trans ((World.cell?_setCell_far _ _ _ _ (by show W.heap.size+1+1≠W.heap.size+1+1+1;omega)).trans d9),(World.cell?_setCell_other _ _ _ _ (by simp)).trans ((World.cell?_setCell_far _ _ _ _ (by show W.heap.size+1+1≠W.heap.size+1+1+1;omega)).trans d10)⟩
theorem qb {W:World} {B:Nat} {a b c d:Value} {t:TypeId} (h:W.heap[B]?=some (.cells #[a,b,c,d] t (0,0))) (i:Nat) (hi:4≤i):W.cell? ⟨B,i,none⟩=none:=by
 simp only [World.cell?,h]
 simp
 omega
theorem yZ (W:World) (l:List Cl) (a:Array Value) (ha:a=(l.flatMap encC).toArray) (H:Nat) (hH:H=W.heap.size):fC (W.alloc (.cells a 50)) (some ⟨H,0,none⟩) l:=by
 subst hH
 exact wX W l a ha
theorem farL {w:World} {N:Nat} {a:Addr} {v0 v1 v2 v3 x:Value} (h:w.cell? a=some x) (hN:N≠a.block):((((w.setCell ⟨N,0,none⟩ v0).setCell ⟨N,1,none⟩ v1).setCell ⟨N,2,none⟩ v2).setCell ⟨N,3,none⟩ v3).cell? a=some x :=
 (World.cell?_setCell_far _ _ _ _ hN).trans ((World.cell?_setCell_far _ _ _ _ hN).trans ((World.cell?_setCell_far _ _ _ _ hN).trans ((World.cell?_setCell_far _ _ _ _ hN).trans h)))
theorem F3 {W:World} {u1 u2:Option Addr} {k1 k2 z1 z2:Nat} {p:ByteArray} {xf xt yf yt:Int} {xa ya:Bool} {Y:World} {N:Nat} {v0 v1 v2 v3:Value} (h:BxL W u1 u2 k1 k2 z1 z2 p xf xt yf yt xa ya Y) (hn0:N≠W.heap.size) (hnp:N≠W.heap.size+1) (hn1:N≠W.heap.size+1+1) (hn2:N≠W.heap.size+1+1+1) (hn3:W.heap.size≤N):BxL W u1 u2 k1 k2 z1 z2 p xf xt yf yt xa ya ((((Y.setCell ⟨N,0,none⟩ v0).setCell ⟨N,1,none⟩ v1).setCell ⟨N,2,none⟩ v2).setCell ⟨N,3,none⟩ v3):=by
 obtain ⟨h0,h1,c0,c1,c2,c3,c4,c5,c6,c7,c8,c9,c10⟩:=h
 exact ⟨by simpa using h0,(((h1.setCell hn3 _).setCell hn3 _).setCell hn3 _).setCell hn3 _,farL c0 hn0,farL c1 hn0,farL c2 hnp,farL c3 hn1,farL c4 hn1,farL c5 hn1,farL c6 hn1,farL c7 hn2,farL c8 hn2,farL c9 hn2,farL c10 hn2⟩
structure JE (W:World) (u1 u2:Option Addr) (k1 k2 z1 z2:Nat) (p:ByteArray) (xf xt yf yt:Int) (xa ya:Bool) (sn:Nat) (sl:List Ent) (hl:Bool) (e3:Int):Prop where
 see:∀ Y,Below W.heap.size W Y→Calls Tryz.prog 21 #[.agg #[.slice u1 k1 z1,.slice u2 k2 z2]] Y (SeeL sl 0 sn Y)
 get:∀ Y a c,Below W.heap.size W Y→Lies Y a sl→Calls Tryz.prog 27 #[.slice a sn c,.string p] Y fun r w'=>(∃ xp xt xo,r=.returned (.tuple #[.agg #[.string xp,.int .i64 1,.string xt,.bool xo],.bool true]))∧Below Y.heap.size Y w'
 play:∀ Y H cg,Below W.heap.size W Y→fC Y (some ⟨H,0,none⟩) (rG p ⟨0,xf,xt,xa⟩ ⟨1,yf,yt,ya⟩)→Calls Tryz.prog 16 #[.agg #[.slice u1 k1 z1,.slice u2 k2 z2],.slice (some ⟨H,0,none⟩) 6 cg] Y (fun r w'=>∃ a0 k0 c0 a1 k3 c1 ps sn7 sc op b ac,r=.returned (.tuple #[.agg #[.slice a0 k0 c0,.slice a1 k3 c1,.slice ps sn7 sc,.int .i64 op],.slice (some ⟨b,0,none⟩) 6 ac,.int .i64 0])∧Below Y.heap.size Y w'∧w'.cell? ⟨b,8,none⟩=some (.int .i64 0)∧w'.cell? ⟨b,12,none⟩=some (.int .i64 e3)∧w'.cell? ⟨b,20,none⟩=some (.int .i64 0))
 wx:LK.KM.bC [⟨0,xf,xt,xa⟩]=(0,0)
 wy:LK.KM.bC [⟨1,yf,yt,ya⟩]=(0,0)
 held:LK.KM.clash ⟨1,yf,yt,ya⟩ ⟨0,xf,xt,xa⟩=hl
set_option maxRecDepth 100000 in
set_option maxHeartbeats 8000000 in
theorem Gt (W:World) (u1 u2:Option Addr) (k1 k2 z1 z2:Nat) (p:ByteArray) (xf xt yf yt:Int) (xa ya:Bool) (xo yo:Int) (sn:Nat) (sl:List Ent) (hl:Bool) (e3:Int) (he:hl=true∧e3=13∨hl=false∧e3=0) (hg:Gl W.heap.size W) (hF:JE W u1 u2 k1 k2 z1 z2 p xf xt yf yt xa ya sn sl hl e3) :
  sH 9 #[.agg #[.slice u1 k1 z1,.slice u2 k2 z2],.string p,.agg #[.int .i64 xo,.int .i64 xf,.int .i64 xt,.bool xa],.agg #[.int .i64 yo,.int .i64 yf,.int .i64 yt,.bool ya]] W:=by
 have hB4:Below W.heap.size W ((((W.alloc (.cells #[.slice u1 k1 z1,.slice u2 k2 z2] 26)).alloc (.cells #[.string p] 9)).alloc (.cells #[.int .i64 xo,.int .i64 xf,.int .i64 xt,.bool xa] 58)).alloc (.cells #[.int .i64 yo,.int .i64 yf,.int .i64 yt,.bool ya] 58)):=((((Below.refl W.heap.size W).alloc (Nat.le_refl _) _).alloc (by simp) _).alloc (by simp;omega) _).alloc (by simp;omega) _
 have hal:=mY _ (hg.up hB4)
 have hsn:=hF.see
 have hgt:=hF.get
 have hwx:=fun V H hH=>kg V H hH 0 xf xt xa
 have hwy:=fun V H hH=>kg V H hH 1 yf yt ya
 rw [hF.wx] at hwx
 rw [hF.wy] at hwy
 have hme:=fun V H hH=>xQ V H hH 0 xf xt xa ⟨1,yf,yt,ya⟩
 rw [hF.held] at hme
 have hpl:=hF.play
 have hfd:=lQ
 clear hF hg hB4
 go_enter Tryz.func9,Tryz.ntmps9
 go_wp2_with (first
  | (go_at_call 20;refine hal.mono ?_;clear hal;rintro r w2 ⟨rfl,hB2⟩;have HS:Aside (BxL W u1 u2 k1 k2 z1 z2 p xf xt yf yt xa ya ((w2.setCell ⟨W.heap.size+1+1,0,none⟩ (.int .i64 0)).setCell ⟨W.heap.size+1+1+1,0,none⟩ (.int .i64 1))):=wP W u1 u2 k1 k2 z1 z2 p xf xt yf yt xa ya xo yo w2 hB2;obtain ⟨⟨x0,x1,x2,x3⟩,y0,y1,y2,y3⟩:=bK ((hB2.block (W.heap.size+1+1) (by simp only [World.size_alloc];omega)).trans ((sI W _ _ _ _).1));obtain ⟨⟨x4,x5,x6,x7⟩,y4,y5,y6,y7⟩:=bK ((hB2.block (W.heap.size+1+1+1) (by simp only [World.size_alloc];omega)).trans ((sI W _ _ _ _).2));obtain ⟨_,_,c0,c1,c2,c3,c4,c5,c6,c7,c8,c9,c10⟩:=HS.out;clear hB2)
  | (go_at_call 21;refine (hsn _ HS.out.2.1).mono ?_;clear hsn c0 c1 c2 c3 c4 c5 c6 c7 c8 c9 c10 x0 x1 x2 x3 x4 x5 x6 x7 y0 y1 y2 y3 y4 y5 y6 y7;rintro r w3 ⟨pt,ct,rfl,HV,hB3⟩;have HX:Aside (BxL W u1 u2 k1 k2 z1 z2 p xf xt yf yt xa ya w3):=HS.out.kept hB3;obtain ⟨l0,_,c0,c1,c2,c3,c4,c5,c6,c7,c8,c9,c10⟩:=HX.out;clear hB3 HS)
  | (go_at_call 27;refine (hgt _ pt ct HX.out.2.1 HV.out).mono ?_;clear hgt c0 c1 c2 c3 c4 c5 c6 c7 c8 c9 c10 l0;rintro r w4 ⟨⟨xp,xt',xo',rfl⟩,hB4⟩;have HY:Aside (BxL W u1 u2 k1 k2 z1 z2 p xf xt yf yt xa ya (w4.alloc (.cells #[.string xp,.int .i64 1,.string xt',.bool xo'] 53))):=(HX.out.kept hB4).kept ((Grown.refl w4).alloc _).below;obtain ⟨l0,_,c0,c1,c2,c3,c4,c5,c6,c7,c8,c9,c10⟩:=HY.out;clear hB4 HX)
  | (go_at_call 28;refine (hwx (w4.alloc _) _ (by simp)).mono ?_;clear hwx c0 c1 c2 c3 c4 c5 c6 c7 c8 c9 c10 l0;rintro r w5 ⟨rfl,hB5⟩;have HZ:Aside (BxL W u1 u2 k1 k2 z1 z2 p xf xt yf yt xa ya w5):=HY.out.kept hB5;obtain ⟨l0,_,c0,c1,c2,c3,c4,c5,c6,c7,c8,c9,c10⟩:=HZ.out;clear hB5 HY)
  | (go_at_call 28;refine (hwy w5 _ rfl).mono ?_;clear hwy c0 c1 c2 c3 c4 c5 c6 c7 c8 c9 c10 l0;rintro r w6 ⟨rfl,hB6⟩;have HT:Aside (BxL W u1 u2 k1 k2 z1 z2 p xf xt yf yt xa ya w6):=HZ.out.kept hB6;obtain ⟨l0,_,c0,c1,c2,c3,c4,c5,c6,c7,c8,c9,c10⟩:=HT.out;clear hB6 HZ))
 have HE:Aside (hl=true∧e3=13∨hl=false∧e3=0):=he
 clear he
 rename_i KT hKT
 have htail:∀ (w9:World) (b7 ac:Nat) (s0 s1 s2 s3 s5 s8 s9 s11 s12 s13 s14 s15 s17 s18 s19 s20 s21 s22 s23 s24 s25 s26 s27 s28 s29 s30 s31 s32 s33 s34 s35 s36 s37 s38 s39 s40 s41 s42 s43 s44 s45 s46 s47 s48 s49 s50 s51 s52 s53 s54 s55 s56 s57 s58 s59 s60 s61 s62 s63 s64 s65 s66 s67 s68 s69 s70 s71 s72 s73 s74 s75 s76 s77 s78 s79 s80 s81 s82 s83 s84 s85 s86 s87 s88 s89 s90 s91 s92 s93 s94 s95 s96 s97 s98 s99 s100 s101 s102 s103 s104 s105 s106 s107 s108 s109 s110 s111 s112 s113 s114 s115 s116 s117 s118 s119 s120 s121 s122:Value),BxL W u1 u2 k1 k2 z1 z2 p xf xt yf yt xa ya w9→w9.cell? ⟨b7,8,none⟩=some (.int .i64 0)→w9.cell? ⟨b7,12,none⟩=some (.int .i64 e3)→w9.cell? ⟨b7,20,none⟩=some (.int .i64 0)→KT ⟨#[s0,s1,s2,s3,.pointer (some ⟨W.heap.size,0,none⟩),s5,.pointer (some ⟨W.heap.size+1+1,0,none⟩),.pointer (some ⟨W.heap.size+1+1+1,0,none⟩),s8,s9,.int .i64 0,s11,s12,s13,s14,s15,.slice (some ⟨b7,0,none⟩) 6 ac,s17,s18,s19,s20,s21,s22,s23,s24,s25,s26,s27,s28,s29,s30,s31,s32,s33,s34,s35,s36,s37,s38,s39,s40,s41,s42,s43,s44,s45,s46,s47,s48,s49,s50,s51,s52,s53,s54,s55,s56,s57,s58,s59,s60,s61,s62,s63,s64,s65,s66,s67,s68,s69,s70,s71,s72,s73,s74,s75,s76,s77,s78,s79,s80,s81,s82,s83,s84,s85,s86,s87,s88,s89,s90,s91,s92,s93,s94,s95,s96,s97,s98,s99,s100,s101,s102,s103,s104,s105,s106,s107,s108,s109,s110,s111,s112,s113,s114,s115,s116,s117,s118,s119,s120,s121,s122],[]⟩ w9:=by
  intro w9 b7 ac s0 s1 s2 s3 s5 s8 s9 s11 s12 s13 s14 s15 s17 s18 s19 s20 s21 s22 s23 s24 s25 s26 s27 s28 s29 s30 s31 s32 s33 s34 s35 s36 s37 s38 s39 s40 s41 s42 s43 s44 s45 s46 s47 s48 s49 s50 s51 s52 s53 s54 s55 s56 s57 s58 s59 s60 s61 s62 s63 s64 s65 s66 s67 s68 s69 s70 s71 s72 s73 s74 s75 s76 s77 s78 s79 s80 s81 s82 s83 s84 s85 s86 s87 s88 s89 s90 s91 s92 s93 s94 s95 s96 s97 s98 s99 s100 s101 s102 s103 s104 s105 s106 s107 s108 s109 s110 s111 s112 s113 s114 s115 s116 s117 s118 s119 s120 s121 s122 hX q0 q1 q2
  refine hKT _ _ ?_
  have lb:b7<w9.heap.size:=block_lt_of_cell q0
  have HX:Aside (BxL W u1 u2 k1 k2 z1 z2 p xf xt yf yt xa ya w9):=hX
  clear c0 c1 c2 c3 c4 c5 c6 c7 c8 c9 c10 l0 hKT HT
  obtain ⟨_,_,c0,c1,c2,c3,c4,c5,c6,c7,c8,c9,c10⟩:=HX.out
  clear hX
  rcases HE.out with ⟨rfl,rfl⟩ | ⟨rfl,rfl⟩
  all_goals
   go_wp2_with (first
    | (go_at_call 31;refine (hme w9 _ rfl).mono ?_;clear hme;rintro r wm ⟨⟨z0',z1',z2',z3',rfl⟩,hBm⟩;have HM:Aside (BxL W u1 u2 k1 k2 z1 z2 p xf xt yf yt xa ya wm):=HX.out.kept hBm;have p0:=fun o=>Lib.cell?_alloc_some o ((hBm.cell (p:=⟨b7,8,none⟩) lb).trans q0);have p1:=fun o=>Lib.cell?_alloc_some o ((hBm.cell (p:=⟨b7,12,none⟩) lb).trans q1);have p2:=fun o=>Lib.cell?_alloc_some o ((hBm.cell (p:=⟨b7,20,none⟩) lb).trans q2);clear hBm c0 c1 c2 c3 c4 c5 c6 c7 c8 c9 c10 q0 q1 q2)
    | fail)
   go_ret
   exact ⟨rfl,HM.out.2.1.alloc HM.out.2.1.size _⟩
 have htl:Aside (_):=htail
 clear htail hKT hme
 have HC0:Aside (BxL W u1 u2 k1 k2 z1 z2 p xf xt yf yt xa ya w6):=HT.out
 have lw6:=l0
 have c0o:=fun o=>Lib.cell?_alloc_some o c0
 have c1o:=fun o=>Lib.cell?_alloc_some o c1
 have c3o:=fun o=>Lib.cell?_alloc_some o c3
 have c4o:=fun o=>Lib.cell?_alloc_some o c4
 have c5o:=fun o=>Lib.cell?_alloc_some o c5
 have c6o:=fun o=>Lib.cell?_alloc_some o c6
 have c7o:=fun o=>Lib.cell?_alloc_some o c7
 have c8o:=fun o=>Lib.cell?_alloc_some o c8
 have c9o:=fun o=>Lib.cell?_alloc_some o c9
 have c10o:=fun o=>Lib.cell?_alloc_some o c10
 have hgo0:True:=trivial
 have hgo1:True:=trivial
 have hgo2:True:=trivial
 have hgo3:True:=trivial
 have hgo4:True:=trivial
 have hgo5:True:=trivial
 go_region_held3 (fun w'=>w'.cell? ⟨W.heap.size,0,none⟩=some (.slice u1 k1 z1)∧w'.cell? ⟨W.heap.size,1,none⟩=some (.slice u2 k2 z2)∧w'.cell? ⟨W.heap.size+1+1,0,none⟩=some (.int .i64 0)∧w'.cell? ⟨W.heap.size+1+1,1,none⟩=some (.int .i64 xf)∧w'.cell? ⟨W.heap.size+1+1,2,none⟩=some (.int .i64 xt)∧w'.cell? ⟨W.heap.size+1+1,3,none⟩=some (.bool xa)∧w'.cell? ⟨W.heap.size+1+1+1,0,none⟩=some (.int .i64 1)∧w'.cell? ⟨W.heap.size+1+1+1,1,none⟩=some (.int .i64 yf)∧w'.cell? ⟨W.heap.size+1+1+1,2,none⟩=some (.int .i64 yt)∧w'.cell? ⟨W.heap.size+1+1+1,3,none⟩=some (.bool ya)) (go_keep) (first
  | (clear hgo0;go_at_call 30;refine (vQ (W.heap.size+1) p 0 _ ((HC0.out.kept (show Below w6.heap.size w6 _ from (by first | ((repeat (first | exact Below.refl _ _ | refine Below.alloc ?_ (by first | omega | (simp;done) | (simp;omega)) _ | refine Below.drew ?_));done) | fail))).2.2.2.2.1)).mono ?_;rintro r wa ⟨rfl,hBwa⟩;have HBwa:Aside (Below w6.heap.size w6 wa):=Below.onto (show Below w6.heap.size w6 _ from (by first | ((repeat (first | exact Below.refl _ _ | refine Below.alloc ?_ (by first | omega | (simp;done) | (simp;omega)) _ | refine Below.drew ?_));done) | fail)) hBwa;have HC1:Aside (BxL W u1 u2 k1 k2 z1 z2 p xf xt yf yt xa ya wa):=HC0.out.kept HBwa.out;clear c0 c1 c2 c3 c4 c5 c6 c7 c8 c9 c10 c0o c1o c3o c4o c5o c6o c7o c8o c9o c10o;obtain ⟨lwa,_,c0a,c1a,c2a,c3a,c4a,c5a,c6a,c7a,c8a,c9a,c10a⟩:=HC1.out;have c0ao:=fun o=>Lib.cell?_alloc_some o c0a;have c1ao:=fun o=>Lib.cell?_alloc_some o c1a;have c3ao:=fun o=>Lib.cell?_alloc_some o c3a;have c4ao:=fun o=>Lib.cell?_alloc_some o c4a;have c5ao:=fun o=>Lib.cell?_alloc_some o c5a;have c6ao:=fun o=>Lib.cell?_alloc_some o c6a;have c7ao:=fun o=>Lib.cell?_alloc_some o c7a;have c8ao:=fun o=>Lib.cell?_alloc_some o c8a;have c9ao:=fun o=>Lib.cell?_alloc_some o c9a;have c10ao:=fun o=>Lib.cell?_alloc_some o c10a;first | (have hN:=HN.out;clear HN;obtain ⟨N,hN1,hN2,hN3⟩:=hN;have HN:Aside (∃ N,N=_∧W.heap.size+1+1+1<N∧wa.heap[N]?=some (.cells #[.slice none 0 0,.slice none 0 0,.slice none 0 0,.int .i64 0] 29)):=⟨N,hN1,hN2,(HBwa.out.block N (Array.getElem?_eq_some_iff.1 hN3).1).trans hN3⟩;clear hN1 hN2 hN3 N) | (have HN:Aside (∃ N,N=w6.heap.size∧W.heap.size+1+1+1<N∧wa.heap[N]?=some (.cells #[.slice none 0 0,.slice none 0 0,.slice none 0 0,.int .i64 0] 29)):=⟨_,rfl,HC0.out.1,(hBwa.block w6.heap.size (by first | (simp;done) | fail)).trans (by first | exact heap_alloc_last w6 _ | fail)⟩) | (have hNo:True:=trivial);clear hBwa)
  | (clear hgo1;go_at_call 30;refine (vQ (W.heap.size+1) p 1 _ ((HC1.out.kept (show Below wa.heap.size wa _ from (by first | ((repeat (first | exact Below.refl _ _ | refine Below.alloc ?_ (by first | omega | (simp;done) | (simp;omega)) _ | refine Below.drew ?_));done) | fail))).2.2.2.2.1)).mono ?_;rintro r wb ⟨rfl,hBwb⟩;have HBwb:Aside (Below wa.heap.size wa wb):=Below.onto (show Below wa.heap.size wa _ from (by first | ((repeat (first | exact Below.refl _ _ | refine Below.alloc ?_ (by first | omega | (simp;done) | (simp;omega)) _ | refine Below.drew ?_));done) | fail)) hBwb;have HC2:Aside (BxL W u1 u2 k1 k2 z1 z2 p xf xt yf yt xa ya wb):=HC1.out.kept HBwb.out;clear c0a c1a c2a c3a c4a c5a c6a c7a c8a c9a c10a c0ao c1ao c3ao c4ao c5ao c6ao c7ao c8ao c9ao c10ao;obtain ⟨lwb,_,c0b,c1b,c2b,c3b,c4b,c5b,c6b,c7b,c8b,c9b,c10b⟩:=HC2.out;have c0bo:=fun o=>Lib.cell?_alloc_some o c0b;have c1bo:=fun o=>Lib.cell?_alloc_some o c1b;have c3bo:=fun o=>Lib.cell?_alloc_some o c3b;have c4bo:=fun o=>Lib.cell?_alloc_some o c4b;have c5bo:=fun o=>Lib.cell?_alloc_some o c5b;have c6bo:=fun o=>Lib.cell?_alloc_some o c6b;have c7bo:=fun o=>Lib.cell?_alloc_some o c7b;have c8bo:=fun o=>Lib.cell?_alloc_some o c8b;have c9bo:=fun o=>Lib.cell?_alloc_some o c9b;have c10bo:=fun o=>Lib.cell?_alloc_some o c10b;first | (have hN:=HN.out;clear HN;obtain ⟨N,hN1,hN2,hN3⟩:=hN;have HN:Aside (∃ N,N=_∧W.heap.size+1+1+1<N∧wb.heap[N]?=some (.cells #[.slice none 0 0,.slice none 0 0,.slice none 0 0,.int .i64 0] 29)):=⟨N,hN1,hN2,(HBwb.out.block N (Array.getElem?_eq_some_iff.1 hN3).1).trans hN3⟩;clear hN1 hN2 hN3 N) | (have HN:Aside (∃ N,N=wa.heap.size∧W.heap.size+1+1+1<N∧wb.heap[N]?=some (.cells #[.slice none 0 0,.slice none 0 0,.slice none 0 0,.int .i64 0] 29)):=⟨_,rfl,HC1.out.1,(hBwb.block wa.heap.size (by first | (simp;done) | fail)).trans (by first | exact heap_alloc_last wa _ | fail)⟩) | (have hNo:True:=trivial);clear hBwb)
  | (clear hgo2;go_at_call 29;refine (su 0 xf xt xa _).mono ?_;rintro r wc ⟨rfl,hBwc⟩;have HBwc:Aside (Below wb.heap.size wb wc):=Below.onto (show Below wb.heap.size wb _ from (by first | ((repeat (first | exact Below.refl _ _ | refine Below.alloc ?_ (by first | omega | (simp;done) | (simp;omega)) _ | refine Below.drew ?_));done) | fail)) hBwc;have HC3:Aside (BxL W u1 u2 k1 k2 z1 z2 p xf xt yf yt xa ya wc):=HC2.out.kept HBwc.out;clear c0b c1b c2b c3b c4b c5b c6b c7b c8b c9b c10b c0bo c1bo c3bo c4bo c5bo c6bo c7bo c8bo c9bo c10bo;obtain ⟨lwc,_,c0c,c1c,c2c,c3c,c4c,c5c,c6c,c7c,c8c,c9c,c10c⟩:=HC3.out;have c0co:=fun o=>Lib.cell?_alloc_some o c0c;have c1co:=fun o=>Lib.cell?_alloc_some o c1c;have c3co:=fun o=>Lib.cell?_alloc_some o c3c;have c4co:=fun o=>Lib.cell?_alloc_some o c4c;have c5co:=fun o=>Lib.cell?_alloc_some o c5c;have c6co:=fun o=>Lib.cell?_alloc_some o c6c;have c7co:=fun o=>Lib.cell?_alloc_some o c7c;have c8co:=fun o=>Lib.cell?_alloc_some o c8c;have c9co:=fun o=>Lib.cell?_alloc_some o c9c;have c10co:=fun o=>Lib.cell?_alloc_some o c10c;first | (have hN:=HN.out;clear HN;obtain ⟨N,hN1,hN2,hN3⟩:=hN;have HN:Aside (∃ N,N=_∧W.heap.size+1+1+1<N∧wc.heap[N]?=some (.cells #[.slice none 0 0,.slice none 0 0,.slice none 0 0,.int .i64 0] 29)):=⟨N,hN1,hN2,(HBwc.out.block N (Array.getElem?_eq_some_iff.1 hN3).1).trans hN3⟩;clear hN1 hN2 hN3 N) | (have HN:Aside (∃ N,N=wb.heap.size∧W.heap.size+1+1+1<N∧wc.heap[N]?=some (.cells #[.slice none 0 0,.slice none 0 0,.slice none 0 0,.int .i64 0] 29)):=⟨_,rfl,HC2.out.1,(hBwc.block wb.heap.size (by first | (simp;done) | fail)).trans (by first | exact heap_alloc_last wb _ | fail)⟩) | (have hNo:True:=trivial);clear hBwc)
  | (clear hgo3;go_at_call 29;refine (su 1 yf yt ya _).mono ?_;rintro r wd ⟨rfl,hBwd⟩;have HBwd:Aside (Below wc.heap.size wc wd):=Below.onto (show Below wc.heap.size wc _ from (by first | ((repeat (first | exact Below.refl _ _ | refine Below.alloc ?_ (by first | omega | (simp;done) | (simp;omega)) _ | refine Below.drew ?_));done) | fail)) hBwd;have HC4:Aside (BxL W u1 u2 k1 k2 z1 z2 p xf xt yf yt xa ya wd):=HC3.out.kept HBwd.out;clear c0c c1c c2c c3c c4c c5c c6c c7c c8c c9c c10c c0co c1co c3co c4co c5co c6co c7co c8co c9co c10co;obtain ⟨lwd,_,c0d,c1d,c2d,c3d,c4d,c5d,c6d,c7d,c8d,c9d,c10d⟩:=HC4.out;have c0do:=fun o=>Lib.cell?_alloc_some o c0d;have c1do:=fun o=>Lib.cell?_alloc_some o c1d;have c3do:=fun o=>Lib.cell?_alloc_some o c3d;have c4do:=fun o=>Lib.cell?_alloc_some o c4d;have c5do:=fun o=>Lib.cell?_alloc_some o c5d;have c6do:=fun o=>Lib.cell?_alloc_some o c6d;have c7do:=fun o=>Lib.cell?_alloc_some o c7d;have c8do:=fun o=>Lib.cell?_alloc_some o c8d;have c9do:=fun o=>Lib.cell?_alloc_some o c9d;have c10do:=fun o=>Lib.cell?_alloc_some o c10d;first | (have hN:=HN.out;clear HN;obtain ⟨N,hN1,hN2,hN3⟩:=hN;have HN:Aside (∃ N,N=_∧W.heap.size+1+1+1<N∧wd.heap[N]?=some (.cells #[.slice none 0 0,.slice none 0 0,.slice none 0 0,.int .i64 0] 29)):=⟨N,hN1,hN2,(HBwd.out.block N (Array.getElem?_eq_some_iff.1 hN3).1).trans hN3⟩;clear hN1 hN2 hN3 N) | (have HN:Aside (∃ N,N=wc.heap.size∧W.heap.size+1+1+1<N∧wd.heap[N]?=some (.cells #[.slice none 0 0,.slice none 0 0,.slice none 0 0,.int .i64 0] 29)):=⟨_,rfl,HC3.out.1,(hBwd.block wc.heap.size (by first | (simp;done) | fail)).trans (by first | exact heap_alloc_last wc _ | fail)⟩) | (have hNo:True:=trivial);clear hBwd)
  | (clear hgo4;go_at_call 29;refine (su 1 yf yt ya _).mono ?_;rintro r we ⟨rfl,hBwe⟩;have HBwe:Aside (Below wd.heap.size wd we):=Below.onto (show Below wd.heap.size wd _ from (by first | ((repeat (first | exact Below.refl _ _ | refine Below.alloc ?_ (by first | omega | (simp;done) | (simp;omega)) _ | refine Below.drew ?_));done) | fail)) hBwe;have HC5:Aside (BxL W u1 u2 k1 k2 z1 z2 p xf xt yf yt xa ya we):=HC4.out.kept HBwe.out;clear c0d c1d c2d c3d c4d c5d c6d c7d c8d c9d c10d c0do c1do c3do c4do c5do c6do c7do c8do c9do c10do;obtain ⟨lwe,_,c0e,c1e,c2e,c3e,c4e,c5e,c6e,c7e,c8e,c9e,c10e⟩:=HC5.out;have c0eo:=fun o=>Lib.cell?_alloc_some o c0e;have c1eo:=fun o=>Lib.cell?_alloc_some o c1e;have c3eo:=fun o=>Lib.cell?_alloc_some o c3e;have c4eo:=fun o=>Lib.cell?_alloc_some o c4e;have c5eo:=fun o=>Lib.cell?_alloc_some o c5e;have c6eo:=fun o=>Lib.cell?_alloc_some o c6e;have c7eo:=fun o=>Lib.cell?_alloc_some o c7e;have c8eo:=fun o=>Lib.cell?_alloc_some o c8e;have c9eo:=fun o=>Lib.cell?_alloc_some o c9e;have c10eo:=fun o=>Lib.cell?_alloc_some o c10e;first | (have hN:=HN.out;clear HN;obtain ⟨N,hN1,hN2,hN3⟩:=hN;have HN:Aside (∃ N,N=_∧W.heap.size+1+1+1<N∧we.heap[N]?=some (.cells #[.slice none 0 0,.slice none 0 0,.slice none 0 0,.int .i64 0] 29)):=⟨N,hN1,hN2,(HBwe.out.block N (Array.getElem?_eq_some_iff.1 hN3).1).trans hN3⟩;clear hN1 hN2 hN3 N) | (have HN:Aside (∃ N,N=wd.heap.size∧W.heap.size+1+1+1<N∧we.heap[N]?=some (.cells #[.slice none 0 0,.slice none 0 0,.slice none 0 0,.int .i64 0] 29)):=⟨_,rfl,HC4.out.1,(hBwe.block wd.heap.size (by first | (simp;done) | fail)).trans (by first | exact heap_alloc_last wd _ | fail)⟩) | (have hNo:True:=trivial);clear hBwe)
  | (clear hgo5;go_at_call 16;refine (hpl _ _ _ ((HC5.out.kept (show Below we.heap.size we _ from (by first | ((repeat (first | exact Below.refl _ _ | refine Below.alloc ?_ (by first | omega | (simp;done) | (simp;omega)) _ | refine Below.drew ?_));done) | fail))).2.1) (by first | exact (yZ we _ _ rfl _ rfl).kept (by first | ((repeat (first | exact Below.refl _ _ | refine Below.alloc ?_ (by first | omega | (simp;done) | (simp;omega)) _ | refine Below.drew ?_));done) | fail) | exact (yZ (we.alloc _) _ _ rfl _ (by simp)).kept (by first | ((repeat (first | exact Below.refl _ _ | refine Below.alloc ?_ (by first | omega | (simp;done) | (simp;omega)) _ | refine Below.drew ?_));done) | fail) | fail)).mono ?_;clear hpl;rintro r wf ⟨a0,k0,c0',a1,k3,c1',ps,sn7,sc,op,b7,ac,rfl,hBf,r0,r1,r2⟩;have HBf : Aside (Below we.heap.size we wf):=Below.onto (show Below we.heap.size we _ from (by first | ((repeat (first | exact Below.refl _ _ | refine Below.alloc ?_ (by first | omega | (simp;done) | (simp;omega)) _ | refine Below.drew ?_));done) | fail)) hBf;have HC6 : Aside (BxL W u1 u2 k1 k2 z1 z2 p xf xt yf yt xa ya wf):=HC5.out.kept HBf.out;clear c0e c1e c2e c3e c4e c5e c6e c7e c8e c9e c10e c0eo c1eo c3eo c4eo c5eo c6eo c7eo c8eo c9eo c10eo;obtain ⟨lwf,_,c0,c1,c2,c3,c4,c5,c6,c7,c8,c9,c10⟩:=HC6.out;have c0o:=fun o => Lib.cell?_alloc_some o c0;have c1o:=fun o => Lib.cell?_alloc_some o c1;have c3o:=fun o => Lib.cell?_alloc_some o c3;have c4o:=fun o => Lib.cell?_alloc_some o c4;have c5o:=fun o => Lib.cell?_alloc_some o c5;have c6o:=fun o => Lib.cell?_alloc_some o c6;have c7o:=fun o => Lib.cell?_alloc_some o c7;have c8o:=fun o => Lib.cell?_alloc_some o c8;have c9o:=fun o => Lib.cell?_alloc_some o c9;have c10o:=fun o => Lib.cell?_alloc_some o c10;first
      | (obtain ⟨N,hN1,hN2,hN3⟩:=HN.out;have hN7:=(HBf.out.block N (Array.getElem?_eq_some_iff.1 hN3).1).trans hN3;obtain ⟨⟨x0,x1,x2,x3⟩,y0,y1,y2,y3⟩:=bK hN7;have hNb:N≠b7:=(by intro h;rw [← h] at r0;have:=qb hN7 8 (by decide);rw [this] at r0;cases r0);have hn0:N≠W.heap.size:=(by omega);have hnp:N≠W.heap.size+1:=(by omega);have hn1:N≠W.heap.size+1+1:=(by omega);have hn2:N≠W.heap.size+1+1+1:=(by omega);have hn3:W.heap.size≤N:=(by omega);subst hN1;clear hN2 hN3 hN7)
      | (have hN7:wf.heap[we.heap.size]?=some (.cells #[.slice none 0 0,.slice none 0 0,.slice none 0 0,.int .i64 0] 29):=(hBf.block we.heap.size (by first | (simp;done) | (simp;omega) | fail)).trans (by first | exact heap_alloc_last we _ | exact blk1 we _ _ | fail);obtain ⟨⟨x0,x1,x2,x3⟩,y0,y1,y2,y3⟩:=bK hN7;have hNb:we.heap.size≠b7:=(by intro h;rw [← h] at r0;have:=qb hN7 8 (by decide);rw [this] at r0;cases r0);have hn0:we.heap.size≠W.heap.size:=(by omega);have hnp:we.heap.size≠W.heap.size+1:=(by omega);have hn1:we.heap.size≠W.heap.size+1+1:=(by omega);have hn2:we.heap.size≠W.heap.size+1+1+1:=(by omega);have hn3:W.heap.size≤we.heap.size:=(by omega);clear hN7)
      | (have hN7:wf.heap[we.heap.size+1]?=some (.cells #[.slice none 0 0,.slice none 0 0,.slice none 0 0,.int .i64 0] 29):=(hBf.block (we.heap.size+1) (by first | (simp;done) | (simp;omega) | fail)).trans (by first | exact blk2 we _ _ | fail);obtain ⟨⟨x0,x1,x2,x3⟩,y0,y1,y2,y3⟩:=bK hN7;have hNb:(we.heap.size+1)≠b7:=(by intro h;rw [← h] at r0;have:=qb hN7 8 (by decide);rw [this] at r0;cases r0);have hn0:(we.heap.size+1)≠W.heap.size:=(by omega);have hnp:(we.heap.size+1)≠W.heap.size+1:=(by omega);have hn1:(we.heap.size+1)≠W.heap.size+1+1:=(by omega);have hn2:(we.heap.size+1)≠W.heap.size+1+1+1:=(by omega);have hn3:W.heap.size≤(we.heap.size+1):=(by omega);clear hN7;have hn4:we.heap.size≠W.heap.size+1:=(by omega);have hn5:we.heap.size≠W.heap.size+1+1:=(by omega))
      | (have hNo2:True:=trivial);clear hBf)
  | fail)
 all_goals
  go_simp
  first
   | (clear hNo2;exact htl.out (wf.alloc _) b7 ac _ _ _ _ _ _ _ _ _ _ _ _ _ _ _ _ _ _ _ _ _ _ _ _ _ _ _ _ _ _ _ _ _ _ _ _ _ _ _ _ _ _ _ _ _ _ _ _ _ _ _ _ _ _ _ _ _ _ _ _ _ _ _ _ _ _ _ _ _ _ _ _ _ _ _ _ _ _ _ _ _ _ _ _ _ _ _ _ _ _ _ _ _ _ _ _ _ _ _ _ _ _ _ _ _ _ _ _ _ _ _ _ _ _ _ _ _ _ (HC6.out.kept ((Grown.refl wf).alloc _).below) (Lib.cell?_alloc_some _ r0) (Lib.cell?_alloc_some _ r1) (Lib.cell?_alloc_some _ r2))
   | exact htl.out _ b7 ac _ _ _ _ _ _ _ _ _ _ _ _ _ _ _ _ _ _ _ _ _ _ _ _ _ _ _ _ _ _ _ _ _ _ _ _ _ _ _ _ _ _ _ _ _ _ _ _ _ _ _ _ _ _ _ _ _ _ _ _ _ _ _ _ _ _ _ _ _ _ _ _ _ _ _ _ _ _ _ _ _ _ _ _ _ _ _ _ _ _ _ _ _ _ _ _ _ _ _ _ _ _ _ _ _ _ _ _ _ _ _ _ _ _ _ _ _ _ (F3 HC6.out hn0 hnp hn1 hn2 hn3) (farL r0 hNb) (farL r1 hNb) (farL r2 hNb)
structure Hy (W:World) (u1 u2:Option Addr) (k1 k2 z1 z2:Nat) (p:ByteArray) (xf xt yf yt:Int) (xa ya:Bool) (sn:Nat) (sl:List Ent) (er:Int) (fb:Bool) (fk fx fy:Int):Prop where
 see:∀ Y,Below W.heap.size W Y→Calls Tryz.prog 21 #[.agg #[.slice u1 k1 z1,.slice u2 k2 z2]] Y (SeeL sl er sn Y)
 get:∀ Y a c,Below W.heap.size W Y→Lies Y a sl→Calls Tryz.prog 27 #[.slice a sn c,.string p] Y fun r w'=>(∃ xp xt xo,r=.returned (.tuple #[.agg #[.string xp,.int .i64 fk,.string xt,.bool xo],.bool fb]))∧Below Y.heap.size Y w'
 wx:LK.KM.bC [⟨0,xf,xt,xa⟩]=(fx,0)
 wy:LK.KM.bC [⟨1,yf,yt,ya⟩]=(fy,0)
set_option maxRecDepth 100000 in
set_option maxHeartbeats 4000000 in
theorem EH (W:World) (u1 u2:Option Addr) (k1 k2 z1 z2:Nat) (p:ByteArray) (xf xt yf yt:Int) (xa ya:Bool) (xo yo:Int) (sn:Nat) (sl:List Ent) (er:Int) (fb:Bool) (fk fx fy:Int) (hg:Gl W.heap.size W) (hF:Hy W u1 u2 k1 k2 z1 z2 p xf xt yf yt xa ya sn sl er fb fk fx fy)
  (hw:¬ er=0∨(er=0∧(fb=false∨(fb=true∧(¬ fk=1∨(fk=1∧(fx=3∨(fx=0∧fy=3)))))))) :
  sH 9 #[.agg #[.slice u1 k1 z1,.slice u2 k2 z2],.string p,.agg #[.int .i64 xo,.int .i64 xf,.int .i64 xt,.bool xa],.agg #[.int .i64 yo,.int .i64 yf,.int .i64 yt,.bool ya]] W:=by
 have hB4:Below W.heap.size W ((((W.alloc (.cells #[.slice u1 k1 z1,.slice u2 k2 z2] 26)).alloc (.cells #[.string p] 9)).alloc (.cells #[.int .i64 xo,.int .i64 xf,.int .i64 xt,.bool xa] 58)).alloc (.cells #[.int .i64 yo,.int .i64 yf,.int .i64 yt,.bool ya] 58)):=((((Below.refl W.heap.size W).alloc (Nat.le_refl _) _).alloc (by simp) _).alloc (by simp;omega) _).alloc (by simp;omega) _
 have hal:=mY _ (hg.up hB4)
 have hsn:=hF.see
 have hgt:=hF.get
 have hwx:=fun V H hH=>kg V H hH 0 xf xt xa
 have hwy:=fun V H hH=>kg V H hH 1 yf yt ya
 rw [hF.wx] at hwx
 rw [hF.wy] at hwy
 have hfd:=lQ
 clear hF hg hB4
 rcases hw with he | ⟨rfl,rfl | ⟨rfl,hk | ⟨rfl,rfl | ⟨rfl,rfl⟩⟩⟩⟩
 all_goals
  (try have he1:(er != 0)=true:=by simpa using he)
  (try have he2:decide (er=0)=false:=by simpa using he)
  (try have hk1:(fk != 1)=true:=by simpa using hk)
  (try have hk2:decide (fk=1)=false:=by simpa using hk)
  go_enter Tryz.func9,Tryz.ntmps9
  go_wp2_with (first
   | (go_at_call 20;refine hal.mono ?_;clear hal;rintro r w2 ⟨rfl,hB2⟩;have HS:Aside (BxL W u1 u2 k1 k2 z1 z2 p xf xt yf yt xa ya ((w2.setCell ⟨W.heap.size+1+1,0,none⟩ (.int .i64 0)).setCell ⟨W.heap.size+1+1+1,0,none⟩ (.int .i64 1))):=wP W u1 u2 k1 k2 z1 z2 p xf xt yf yt xa ya xo yo w2 hB2;obtain ⟨⟨x0,x1,x2,x3⟩,y0,y1,y2,y3⟩:=bK ((hB2.block (W.heap.size+1+1) (by simp only [World.size_alloc];omega)).trans (sI W _ _ _ _).1);obtain ⟨⟨x4,x5,x6,x7⟩,y4,y5,y6,y7⟩:=bK ((hB2.block (W.heap.size+1+1+1) (by simp only [World.size_alloc];omega)).trans (sI W _ _ _ _).2);obtain ⟨_,_,c0,c1,c2,c3,c4,c5,c6,c7,c8,c9,c10⟩:=HS.out;clear hB2)
   | (go_at_call 21;refine (hsn _ HS.out.2.1).mono ?_;clear hsn c0 c1 c2 c3 c4 c5 c6 c7 c8 c9 c10 x0 x1 x2 x3 x4 x5 x6 x7 y0 y1 y2 y3 y4 y5 y6 y7;rintro r w3 ⟨pt,ct,rfl,HV,hB3⟩;have HX:Aside (BxL W u1 u2 k1 k2 z1 z2 p xf xt yf yt xa ya w3):=HS.out.kept hB3;obtain ⟨l0,_,c0,c1,c2,c3,c4,c5,c6,c7,c8,c9,c10⟩:=HX.out;clear hB3 HS)
   | (go_at_call 27;refine (hgt _ pt ct HX.out.2.1 HV.out).mono ?_;clear hgt c0 c1 c2 c3 c4 c5 c6 c7 c8 c9 c10 l0;rintro r w4 ⟨⟨xp,xt',xo',rfl⟩,hB4⟩;first | (have HY:Aside (BxL W u1 u2 k1 k2 z1 z2 p xf xt yf yt xa ya (w4.alloc (.cells #[.string xp,.int .i64 fk,.string xt',.bool xo'] 53))):=(HX.out.kept hB4).kept ((Grown.refl w4).alloc _).below) | (have HY:Aside (BxL W u1 u2 k1 k2 z1 z2 p xf xt yf yt xa ya (w4.alloc (.cells #[.string xp,.int .i64 1,.string xt',.bool xo'] 53))):=(HX.out.kept hB4).kept ((Grown.refl w4).alloc _).below);obtain ⟨l0,_,c0,c1,c2,c3,c4,c5,c6,c7,c8,c9,c10⟩:=HY.out;clear hB4 HX)
   | (go_at_call 28;refine (hwx (w4.alloc _) _ (by simp)).mono ?_;clear hwx c0 c1 c2 c3 c4 c5 c6 c7 c8 c9 c10 l0;rintro r w5 ⟨rfl,hB5⟩;have HZ:Aside (BxL W u1 u2 k1 k2 z1 z2 p xf xt yf yt xa ya w5):=HY.out.kept hB5;obtain ⟨l0,_,c0,c1,c2,c3,c4,c5,c6,c7,c8,c9,c10⟩:=HZ.out;clear hB5 HY)
   | (go_at_call 28;refine (hwy w5 _ rfl).mono ?_;clear hwy c0 c1 c2 c3 c4 c5 c6 c7 c8 c9 c10 l0;rintro r w6 ⟨rfl,hB6⟩;have HT:Aside (BxL W u1 u2 k1 k2 z1 z2 p xf xt yf yt xa ya w6):=HZ.out.kept hB6;obtain ⟨l0,_,c0,c1,c2,c3,c4,c5,c6,c7,c8,c9,c10⟩:=HT.out;clear hB6 HZ)
   | fail)
  go_ret
  first
   | exact ⟨rfl,HT.out.2.1⟩
   | exact ⟨rfl,HZ.out.2.1⟩
   | exact ⟨rfl,HY.out.2.1⟩
theorem zM (y:Lay) (lo:List Lay) (pl:Option Addr) (cl:Nat) (p:ByteArray) (hp:p.size≤maxLen) (a b:LK.Lk) (W:World) (hU:UnOK W y lo pl cl) (hg:Gl W.heap.size W) :
  sH 9 #[.agg #[.slice y.ad y.es.length y.cap,.slice pl lo.length cl],.string p,.agg #[.int .i64 a.o, .int .i64 a.f, .int .i64 a.t, .bool a.a],.agg #[.int .i64 b.o, .int .i64 b.f, .int .i64 b.t, .bool b.a]] W:=by
 have hr:Right false (aB (y.es::lo.map (·.es))):=aK _
 have h1:∀ Y,Below W.heap.size W Y→Calls Tryz.prog 21 #[.agg #[.slice y.ad y.es.length y.cap,.slice pl lo.length cl]] Y (SeeL (aB (y.es::lo.map (·.es))) (ay (y.es::lo.map (·.es))).1 (aB (y.es::lo.map (·.es))).length Y):=fun Y hY=>(hg.up hY).2.elim fun m hm=>(qD y lo m pl cl Y (hU.kept hY) hm).mono fun r w' ⟨p,c,e,a1,a2,a3,a4,a5⟩=>⟨p,c,e,a1,a4⟩
 have h3:=fun Y a c (hY:Below W.heap.size W Y) (hL:Lies Y a (aB (y.es::lo.map (·.es))))=>lV (aB (y.es::lo.map (·.es))) p a c Y hL (qC hr) (by have:=hr.len;omega) hp
 have hplay:=fun (h0:(ay (y.es::lo.map (·.es))).1=0) Y (G:List Cl) H cg m (hY:Below W.heap.size W Y) (hm:m=G.length) (h8:m≤80) (hsm:∀ c∈G,c.Small) (hCG:fC Y (some ⟨H,0,none⟩) G)=>(by subst hm;exact uS y lo pl cl (some ⟨H,0,none⟩) cg G Y (hU.kept hY) (hg.up hY) h0 h8 hCG hsm:Calls Tryz.prog 16 #[.agg #[.slice y.ad y.es.length y.cap,.slice pl lo.length cl],.slice (some ⟨H,0,none⟩) m cg] Y (nC ((aO y.es (lo.map (·.es))).run G).1 ((aO y.es (lo.map (·.es))).run G).2 Y))
 have hrun:=fun e (he:e∈aB (y.es::lo.map (·.es))) hk (hpe:p.data.toList=e.p) x z (hx:LK.KM.okK x) (hz:LK.KM.okK z) hx0 hz1=>EI (up:=y.es) (lows:=lo.map (·.es)) (e:=e) he hk hpe (x:=x) (y:=z) hx hz hx0 hz1
 generalize aB (y.es::lo.map (·.es))=sl at hr h1 h3 hrun
 generalize aO y.es (lo.map (·.es))=s0 at hplay hrun
 have h3':∃ (x:Ent) (b:Bool),(getL sl p.data.toList=if b then some x else none)∧(b=true→x=dirE∨x∈sl)∧∀ Y a c,Below W.heap.size W Y→Lies Y a sl→Calls Tryz.prog 27 #[.slice a sl.length c,.string p] Y fun r w'=>(∃ xp xt xo,r=.returned (.tuple #[.agg #[.string xp,.int .i64 x.kind,.string xt,.bool xo],.bool b]))∧Below Y.heap.size Y w':=by
  cases hgl:getL sl p.data.toList with
  | none =>
   refine ⟨zeroE,false,rfl,(fun h=>by cases h),fun Y a c hY hL=>(h3 Y a c hY hL).mono fun r w' ⟨x,b,e,h1,h2,_,h4⟩=>?_⟩
   have:=h1 hr.sorted
   rw [hgl] at this
   cases b with
   | true=>cases this
   | false=>rw [h2 rfl] at e;exact ⟨⟨_,_,_,e⟩,h4⟩
  | some z =>
   refine ⟨z,true,rfl,fun _=>?_,fun Y a c hY hL=>(h3 Y a c hY hL).mono fun r w' ⟨x,b,e,h1,h2,_,h4⟩=>?_⟩
   ·by_cases h0:p.data.toList=[]
    ·rw [h0,bU] at hgl;cases hgl;exact .inl rfl
    ·exact .inr (aM h0 hgl).1
   ·have:=h1 hr.sorted
    rw [hgl] at this
    cases b with
    | false=>cases this
    | true=>cases this;exact ⟨⟨_,_,_,e⟩,h4⟩
 obtain ⟨x,fb,hx,hxm,h4⟩:=h3'
 have hfx:∀ z:LK.Lk,LK.KM.bC [z]=(if LK.KM.okK z then 0 else 3,0):=fun z=>by
  rw [LK.KM.ru]
  split <;> rfl
 have hQ:Hy W y.ad pl y.es.length lo.length y.cap cl p a.f a.t b.f b.t a.a b.a sl.length sl (ay (y.es::lo.map (·.es))).1 fb x.kind (if LK.KM.okK ⟨0,a.f,a.t,a.a⟩ then 0 else 3) (if LK.KM.okK ⟨1,b.f,b.t,b.a⟩ then 0 else 3):=⟨h1,h4,hfx _,hfx _⟩
 have hout:=fun hw=>EH W y.ad pl y.es.length lo.length y.cap cl p a.f a.t b.f b.t a.a b.a a.o b.o sl.length sl _ _ _ _ _ hg hQ hw
 by_cases h0:(ay (y.es::lo.map (·.es))).1=0
 ·cases fb with
  | false=>exact hout (.inr ⟨h0,.inl rfl⟩)
  | true =>
   by_cases hk:x.kind=1
   ·by_cases ha:LK.KM.okK ⟨0,a.f,a.t,a.a⟩
    ·by_cases hb:LK.KM.okK ⟨1,b.f,b.t,b.a⟩
     ·have hxs:x∈sl:=(hxm rfl).resolve_left (fun e=>by rw [e] at hk;cases hk)
      have hxp:p.data.toList=x.p:=by
       by_cases hp0:p.data.toList=[]
       ·rw [hp0,bU] at hx
        cases hx
        cases hk
       ·exact (aM hp0 hx).2.symm
      have hp8:p.size≤80:=by
       have hc:=hr.clean hxs
       simp only [clean,Bool.and_eq_true,decide_eq_true_eq] at hc
       rw [← szl,hxp]
       exact hc.1
      obtain ⟨a0,a1,a2,a3,a4,a5,hR,e2,e3,e5⟩:=hrun x hxs hk hxp ⟨0,a.f,a.t,a.a⟩ ⟨1,b.f,b.t,b.a⟩ ha hb rfl rfl
      have hsm:∀ c∈rG p ⟨0,a.f,a.t,a.a⟩ ⟨1,b.f,b.t,b.a⟩,c.Small:=fun c hc=>by
       simp only [rG,List.mem_cons,List.not_mem_nil,or_false] at hc
       rcases hc with rfl | rfl | rfl | rfl | rfl | rfl
       all_goals exact ⟨by first | exact Nat.le_of_ble_eq_true rfl | (show p.size≤_;omega),Nat.le_of_ble_eq_true rfl,Nat.le_of_ble_eq_true rfl⟩
      rw [h0] at h1
      rw [hk] at h4
      refine Gt W y.ad pl y.es.length lo.length y.cap cl p a.f a.t b.f b.t a.a b.a a.o b.o sl.length sl (LK.KM.clash ⟨1,b.f,b.t,b.a⟩ ⟨0,a.f,a.t,a.a⟩) a3.err ?_ hg ⟨h1,h4,fun Y H cg hY hC=>?_,by rw [hfx,if_pos ha],by rw [hfx,if_pos hb],rfl⟩
      ·rw [e3]
       cases LK.KM.clash ⟨1,b.f,b.t,b.a⟩ ⟨0,a.f,a.t,a.a⟩ <;> simp
      ·refine (hplay h0 Y _ H cg 6 hY rfl (by decide) hsm hC).mono fun r w' ⟨y',lo',pl',cl',ps,sc,yn,ln,sn',op,pa,na,ac,ex,hB,hx⟩=>?_
       obtain ⟨g1,g2,g3,g4,g5,g6,g7,g8,g9,g10,g11,g12,g13,g14⟩:=hx.out
       rw [hR] at g11 g14
       obtain rfl:na=6:=g11
       rcases g14 with g14 | ⟨b1,hp',_,hc⟩
       ·cases g14
       ·subst hp'
        obtain ⟨_,_,_,d2,_⟩:=hc 2 a2 rfl
        obtain ⟨_,_,_,d3,_⟩:=hc 3 a3 rfl
        obtain ⟨_,_,_,d5,_⟩:=hc 5 a5 rfl
        rw [e2] at d2
        rw [e5] at d5
        exact ⟨_,_,_,_,_,_,_,_,_,_,b1,ac,ex,hB,d2,d3,d5⟩
     ·exact hout (.inr ⟨h0,.inr ⟨rfl,.inr ⟨hk,.inr ⟨if_pos ha,if_neg hb⟩⟩⟩⟩)
    ·exact hout (.inr ⟨h0,.inr ⟨rfl,.inr ⟨hk,.inl (if_neg ha)⟩⟩⟩)
   ·exact hout (.inr ⟨h0,.inr ⟨rfl,.inl hk⟩⟩)
 ·exact hout (.inl h0)
end Go.Proofs.YthfeoiffoeagkaaGreatDoor
