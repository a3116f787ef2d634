/-
  What (*sys.walk).goOn answers.
-/
import Derived.Test.YthfeoiffoeagkaaGreatDoorXA16
namespace Go.Proofs.YthfeoiffoeagkaaGreatDoor
open Go.RowKit PM Go.Sort
set_option linter.unusedVariables false
abbrev LsC (W : World) (sv : Value) (q : ByteArray) (l : List (List UInt8)) (n : Int) : Prop:=∀ X,Below W.heap.size W X → Calls Tryz.prog 134 #[sv,.string q] X (dJ X l n)
theorem go_1 (W : World) (B : Nat) (a : ByteArray) (p : Option Addr) (bs : List ByteArray) (c h : Nat) (ps : Option Addr) (sn sc : Nat) (follow : Bool) (k : WkAt W B a p bs c h) (l : List (List UInt8)) (e : Int) (he : ¬ e = 0) (hls : LsC W (.slice ps sn sc) a l e) :
  Calls Tryz.prog 171 #[.pointer (some ⟨B,0,none⟩),.slice ps sn sc,.bool follow] W (cO B e a.data.toList (bs.map (·.data.toList)) h W):=by
 have K : Aside (WkAt W B a p bs c h):=k
 have hl2:=hls W (Below.refl _ _)
 obtain ⟨c0,c1,c2,f0,f1,f2,_⟩:=k
 clear hls
 go_enter Tryz.func171,Tryz.ntmps171
 go_wp2_with (go_at_call 134;refine hl2.mono ?_;clear hl2;intro r w1 hE;obtain ⟨p1,k1,cc1,bs1,rfl,HS1,HB1⟩:=bH hE;clear hE)
 go_ret
 exact ⟨a,p,bs,c,rfl,K.out.kept HB1.out,rfl,rfl,bV HB1.out⟩
theorem WkAt.cutN {W : World} {B : Nat} {a : ByteArray} {b off : Nat} {x : ByteArray} {bs : List ByteArray} {c h n0 : Nat} (k : WkAt W B a (some ⟨b,off,none⟩) (x :: bs) c h) (hn : n0 = bs.length) (hc : ¬ c = 1) : WkAt (W.setCell ⟨B,1,none⟩ (.slice (some ⟨b,off + 1,none⟩) n0 (c - 1))) B a (some ⟨b,off + 1,none⟩) bs (c - 1) h:=by
 have hcap:=k.cap
 rw [List.length_cons] at hcap
 refine k.setN hn ?_ (fun _ b' off' s e => by cases e;exact k.far (by simp) b off none rfl) (by omega) nofun
 rcases k.lies with h0 | ⟨b',off',e,hb,hcs⟩
 ·cases h0
 ·cases e
  exact .inr ⟨b,off + 1,rfl,hb,fun j y hy => by rw [Nat.add_assoc,Nat.add_comm 1 j];exact hcs (j + 1) y (by simpa using hy)⟩
theorem WkAt.cut1 {W : World} {B : Nat} {a : ByteArray} {b off : Nat} {x : ByteArray} {bs : List ByteArray} {h n0 : Nat} (k : WkAt W B a (some ⟨b,off,none⟩) (x :: bs) 1 h) (hn : n0 = bs.length) : WkAt (W.setCell ⟨B,1,none⟩ (.slice (some ⟨b,off,none⟩) n0 0)) B a (some ⟨b,off,none⟩) bs 0 h:=by
 have hcap:=k.cap
 rw [List.length_cons] at hcap
 have : bs = []:=List.eq_nil_of_length_eq_zero (by omega)
 subst this
 exact k.setN hn (.inl rfl) (fun h => absurd rfl h) (Nat.le_refl _) nofun
abbrev GtD (W : World) (B : Nat) (sv : Value) (q : List UInt8) (xp : ByteArray) (xk : Int) (xt : ByteArray) (xo bb : Bool) : Prop:=∀ X (d : ByteArray),d.data.toList = q → Below W.heap.size W X ∨ (∃ Y,Below W.heap.size W Y ∧ ∃ i v,X = Y.setCell ⟨B,i,none⟩ v) → Calls Tryz.prog 27 #[sv,.string d] X fun r w' => r = .returned (.tuple #[.agg #[.string xp,.int .i64 xk,.string xt,.bool xo],.bool bb]) ∧ Below X.heap.size X w'
abbrev HpC (W : World) (B : Nat) (a : ByteArray) (bs : List ByteArray) (h : Nat) (t : ByteArray) (e : Int) (ra : List UInt8) (rn : List (List UInt8)) : Prop:=∀ X p' c',WkAt X B a p' bs c' h → W.grownBy X (some B) → Calls Tryz.prog 213 #[.pointer (some ⟨B,0,none⟩),.string t] X (cO B e ra rn (h + 1) X)
set_option maxHeartbeats 1000000 in
theorem Kc (W : World) (B : Nat) (a : ByteArray) (p : Option Addr) (x : ByteArray) (bs : List ByteArray) (c h : Nat) (ps : Option Addr) (sn sc : Nat) (follow : Bool) (k : WkAt W B a p (x :: bs) c h) (l : List (List UInt8)) (hls : LsC W (.slice ps sn sc) a l 0) (ha : a.size ≤ 1000) (hbl : bs.length ≤ 1000) (hcc : ¬ c = 1) (hx : x.data.toList = [46,46]) :
  Calls Tryz.prog 171 #[.pointer (some ⟨B,0,none⟩),.slice ps sn sc,.bool follow] W (cO B 0 (aB a.data.toList) (bs.map (·.data.toList)) h W):=by
 have K : Aside (WkAt W B a p (x :: bs) c h):=k
 have hl2:=hls W (Below.refl _ _)
 have hcu:=fun X => nO a X (by omega)
 have hx1 : (x.toList == [46,46]) = true:=beq_lit x _ _ (by rw [hx];rfl)
 have hx2 : x.toList = [46,46]:=by rw [Lib.toList_data];exact hx
 rcases k.lies with h0 | ⟨b,off,rfl,hb,hcs⟩
 ·cases h0
 have hx0:=hcs 0 x rfl
 have hne : b ≠ B:=k.far (by simp) b off none rfl
 have hBW:=k.lt
 have hcap:=k.cap
 rw [List.length_cons] at hcap
 obtain ⟨n0,hn0⟩ : ∃ n0,n0 = bs.length:=⟨_,rfl⟩
 have HN0 : Aside (n0 = bs.length):=hn0
 rw [← hn0] at hcap hbl
 obtain ⟨c0,c1,c2,f0,f1,f2,_⟩:=k
 rw [List.length_cons,← hn0] at c1
 clear hn0
 clear hls hcs hx
 go_enter Tryz.func171,Tryz.ntmps171
 go_wp2_with (first
  | (go_at_call 134;refine hl2.mono ?_;clear hl2;intro r w1 hE;obtain ⟨p1,k1,cc1,bs1,rfl,HS1,HB1⟩:=bH hE;clear hE;have HK1 : Aside (WkAt w1 B a (some ⟨b,off,none⟩) (x :: bs) c h):=K.out.kept HB1.out;have HK2 : Aside (WkAt (w1.setCell ⟨B,1,none⟩ (.slice (some ⟨b,off + 1,none⟩) n0 (c - 1))) B a (some ⟨b,off + 1,none⟩) bs (c - 1) h):=HK1.out.cutN HN0.out hcc;clear c0 c1 c2 f0 f1 f2;obtain ⟨c0,c1,c2,f0,f1,f2,_⟩:=HK1.out;rw [List.length_cons,← HN0.out] at c1;have hx3 : w1.cell? ⟨b,off,none⟩ = some (.string x):=(HB1.out.cell (p:=⟨b,off,none⟩) hb).trans hx0;have hBw1 : B < w1.heap.size:=HK1.out.lt)
  | (go_at_call 162;refine (hcu _).mono ?_;rintro r w2 ⟨⟨d,nm,rfl,hd,hnm⟩,n2,hw2⟩;subst hw2;have HD : Aside (d.data.toList = aB a.data.toList):=hd;clear hd hnm))
 go_ret
 exact ⟨d,_,_,_,rfl,(HK2.out.kept (below_drewN (Below.refl _ _) _)).setA d,HD.out,rfl,aY (bg (aY (bV HB1.out) _ _) (below_drewN (Below.refl _ _) _)) _ _⟩
set_option maxHeartbeats 1000000 in
theorem JU (W : World) (B : Nat) (a : ByteArray) (p : Option Addr) (x : ByteArray) (h : Nat) (ps : Option Addr) (sn sc : Nat) (follow : Bool) (k : WkAt W B a p (x :: []) 1 h) (l : List (List UInt8)) (hls : LsC W (.slice ps sn sc) a l 0) (ha : a.size ≤ 1000) (hx : x.data.toList = [46,46]) :
  Calls Tryz.prog 171 #[.pointer (some ⟨B,0,none⟩),.slice ps sn sc,.bool follow] W (cO B 0 (aB a.data.toList) (([] : List ByteArray).map (·.data.toList)) h W):=by
 have K : Aside (WkAt W B a p (x :: []) 1 h):=k
 have hl2:=hls W (Below.refl _ _)
 have hcu:=fun X => nO a X (by omega)
 have hx1 : (x.toList == [46,46]) = true:=beq_lit x _ _ (by rw [hx];rfl)
 have hx2 : x.toList = [46,46]:=by rw [Lib.toList_data];exact hx
 rcases k.lies with h0 | ⟨b,off,rfl,hb,hcs⟩
 ·cases h0
 have hx0:=hcs 0 x rfl
 have hne : b ≠ B:=k.far (by simp) b off none rfl
 have hBW:=k.lt
 have hcap:=k.cap
 have HN0 : Aside ((0 : Nat) = ([] : List ByteArray).length):=rfl
 have hcap1 : 1 ≤ 1:=hcap
 obtain ⟨c0,c1,c2,f0,f1,f2,_⟩:=k
 have c1 : W.cell? ⟨B,1,none⟩ = some (.slice (some ⟨b,off,none⟩) 1 1):=c1
 clear hls hcs hx
 go_enter Tryz.func171,Tryz.ntmps171
 go_wp2_with (first
  | (go_at_call 134;refine hl2.mono ?_;clear hl2;intro r w1 hE;obtain ⟨p1,k1,cc1,bs1,rfl,HS1,HB1⟩:=bH hE;clear hE;have HK1 : Aside (WkAt w1 B a (some ⟨b,off,none⟩) (x :: []) 1 h):=K.out.kept HB1.out;have HK2 : Aside (WkAt (w1.setCell ⟨B,1,none⟩ (.slice (some ⟨b,off,none⟩) 0 0)) B a (some ⟨b,off,none⟩) [] 0 h):=HK1.out.cut1 HN0.out;clear c0 c1 c2 f0 f1 f2;obtain ⟨c0,c1,c2,f0,f1,f2,_⟩:=HK1.out;have c1 : w1.cell? ⟨B,1,none⟩ = some (.slice (some ⟨b,off,none⟩) 1 1):=c1;have hx3 : w1.cell? ⟨b,off,none⟩ = some (.string x):=(HB1.out.cell (p:=⟨b,off,none⟩) hb).trans hx0;have hBw1 : B < w1.heap.size:=HK1.out.lt)
  | (go_at_call 162;refine (hcu _).mono ?_;rintro r w2 ⟨⟨d,nm,rfl,hd,hnm⟩,n2,hw2⟩;subst hw2;have HD : Aside (d.data.toList = aB a.data.toList):=hd;clear hd hnm))
 go_ret
 exact ⟨d,_,_,_,rfl,(HK2.out.kept (below_drewN (Below.refl _ _) _)).setA d,HD.out,rfl,aY (bg (aY (bV HB1.out) _ _) (below_drewN (Below.refl _ _) _)) _ _⟩
set_option maxHeartbeats 1000000 in
theorem JM (W : World) (B : Nat) (a : ByteArray) (p : Option Addr) (x : ByteArray) (bs : List ByteArray) (c h : Nat) (ps : Option Addr) (sn sc : Nat) (follow : Bool) (k : WkAt W B a p (x :: bs) c h) (l : List (List UInt8)) (hls : LsC W (.slice ps sn sc) a l 0) (ha : a.size ≤ 1000) (hbl : bs.length ≤ 1000) (hcc : ¬ c = 1) (hx : ¬ x.data.toList = [46,46]) (hxs : x.size ≤ 1000) (ep et : ByteArray) (eo eb : Bool) (hgt : GtD W B (.slice ps sn sc) (joinL a.data.toList x.data.toList) ep 3 et eo eb) (hb0 : 0 < bs.length) (he : Int) (ra : List UInt8) (rn : List (List UInt8)) (hhp : HpC W B a bs h et he ra rn) :
  Calls Tryz.prog 171 #[.pointer (some ⟨B,0,none⟩),.slice ps sn sc,.bool follow] W (cO B he ra rn (h + 1) W):=by
 have K : Aside (WkAt W B a p (x :: bs) c h):=k
 have hl2:=hls W (Below.refl _ _)
 have hjn:=fun X => kR a x X (by omega)
 have hx1 : (x.toList == [46,46]) = false:=beq_lit x _ _ (by simpa using hx)
 have hx2 : ¬ x.toList = [46,46]:=by rw [Lib.toList_data];exact hx
 have HGT : Aside (GtD W B (.slice ps sn sc) (joinL a.data.toList x.data.toList) ep 3 et eo eb):=hgt
 clear hgt
 rcases k.lies with h0 | ⟨b,off,rfl,hb,hcs⟩
 ·cases h0
 have hx0:=hcs 0 x rfl
 have hne : b ≠ B:=k.far (by simp) b off none rfl
 have hBW:=k.lt
 have hcap:=k.cap
 rw [List.length_cons] at hcap
 obtain ⟨n0,hn0⟩ : ∃ n0,n0 = bs.length:=⟨_,rfl⟩
 have HN0 : Aside (n0 = bs.length):=hn0
 rw [← hn0] at hcap hbl hb0
 obtain ⟨c0,c1,c2,f0,f1,f2,_⟩:=k
 rw [List.length_cons,← hn0] at c1
 clear hn0
 have hb0z : (0 : Int) < (n0 : Int):=by omega
 clear hls hcs hx
 go_enter Tryz.func171,Tryz.ntmps171
 go_wp2_with (first
  | (go_at_call 134;refine hl2.mono ?_;clear hl2;intro r w1 hE;obtain ⟨p1,k1,cc1,bs1,rfl,HS1,HB1⟩:=bH hE;clear hE;have HK1 : Aside (WkAt w1 B a (some ⟨b,off,none⟩) (x :: bs) c h):=K.out.kept HB1.out;have HK2 : Aside (WkAt (w1.setCell ⟨B,1,none⟩ (.slice (some ⟨b,off + 1,none⟩) n0 (c - 1))) B a (some ⟨b,off + 1,none⟩) bs (c - 1) h):=HK1.out.cutN HN0.out hcc;clear c0 c1 c2 f0 f1 f2;obtain ⟨c0,c1,c2,f0,f1,f2,_⟩:=HK1.out;rw [List.length_cons,← HN0.out] at c1;have hx3 : w1.cell? ⟨b,off,none⟩ = some (.string x):=(HB1.out.cell (p:=⟨b,off,none⟩) hb).trans hx0;have hBw1 : B < w1.heap.size:=HK1.out.lt)
  | (go_at_call 212;refine (hjn _).mono ?_;rintro r w2 ⟨⟨d,rfl,hd⟩,hw2⟩;subst w2;have hge:=HGT.out (w1.setCell ⟨B,1,none⟩ (.slice (some ⟨b,off + 1,none⟩) n0 (c - 1))) d hd (.inr ⟨w1,HB1.out,1,_,rfl⟩);have HD : Aside (d.data.toList = joinL a.data.toList x.data.toList):=hd;clear hd)
  | (go_at_call 27;refine hge.mono ?_;clear hge;rintro r w3 ⟨rfl,hN3⟩;have HB3 : Aside (Below (w1.setCell ⟨B,1,none⟩ (.slice (some ⟨b,off + 1,none⟩) n0 (c - 1))).heap.size (w1.setCell ⟨B,1,none⟩ (.slice (some ⟨b,off + 1,none⟩) n0 (c - 1))) (w3.alloc (.cells #[.string ep,.int .i64 3,.string et,.bool eo] 53))):=Below.onto hN3 ((Grown.refl w3).alloc _).below;have HB33 : Aside (Below (w1.setCell ⟨B,1,none⟩ (.slice (some ⟨b,off + 1,none⟩) n0 (c - 1))).heap.size (w1.setCell ⟨B,1,none⟩ (.slice (some ⟨b,off + 1,none⟩) n0 (c - 1))) w3):=hN3;clear hN3;clear c0 c1 c2 f0 f1 f2;obtain ⟨c0,c1,c2,f0,f1,f2,_⟩:=HK2.out.kept HB33.out;rw [← HN0.out] at c1;have hBw3 : B < w3.heap.size:=(HK2.out.kept HB33.out).lt)
  | (go_at_call 213;refine (hhp _ _ _ (HK2.out.kept HB3.out) (bg (aY (bV HB1.out) _ _) HB3.out)).mono ?_;clear hhp;rintro r w4 ⟨a4,p4,bs4,c4,rfl,hk4,ha4,hb4,hg4⟩;have HF : Aside (cO B he ra rn (h + 1) W (.returned (.int .i64 he)) w4):=⟨a4,p4,bs4,c4,rfl,hk4,ha4,hb4,oM (bg (aY (bV HB1.out) _ _) HB3.out) hg4⟩;clear hk4 ha4 hb4 hg4))
 go_ret
 exact HF.out
set_option maxHeartbeats 1000000 in
theorem Js (W : World) (B : Nat) (a : ByteArray) (p : Option Addr) (x : ByteArray) (c h : Nat) (ps : Option Addr) (sn sc : Nat) (k : WkAt W B a p (x :: []) c h) (l : List (List UInt8)) (hls : LsC W (.slice ps sn sc) a l 0) (ha : a.size ≤ 1000) (hcc : ¬ c = 1) (hx : ¬ x.data.toList = [46,46]) (hxs : x.size ≤ 1000) (ep et : ByteArray) (eo eb : Bool) (hgt : GtD W B (.slice ps sn sc) (joinL a.data.toList x.data.toList) ep 3 et eo eb) (he : Int) (ra : List UInt8) (rn : List (List UInt8)) (hhp : HpC W B a [] h et he ra rn) :
  Calls Tryz.prog 171 #[.pointer (some ⟨B,0,none⟩),.slice ps sn sc,.bool true] W (cO B he ra rn (h + 1) W):=by
 have K : Aside (WkAt W B a p (x :: []) c h):=k
 have hl2:=hls W (Below.refl _ _)
 have hjn:=fun X => kR a x X (by omega)
 have hx1 : (x.toList == [46,46]) = false:=beq_lit x _ _ (by simpa using hx)
 have hx2 : ¬ x.toList = [46,46]:=by rw [Lib.toList_data];exact hx
 have HGT : Aside (GtD W B (.slice ps sn sc) (joinL a.data.toList x.data.toList) ep 3 et eo eb):=hgt
 clear hgt
 rcases k.lies with h0 | ⟨b,off,rfl,hb,hcs⟩
 ·cases h0
 have hx0:=hcs 0 x rfl
 have hne : b ≠ B:=k.far (by simp) b off none rfl
 have hBW:=k.lt
 have hcap:=k.cap
 have HN0 : Aside ((0 : Nat) = ([] : List ByteArray).length):=rfl
 have hcap1 : 1 ≤ c:=hcap
 obtain ⟨c0,c1,c2,f0,f1,f2,_⟩:=k
 have c1 : W.cell? ⟨B,1,none⟩ = some (.slice (some ⟨b,off,none⟩) 1 c):=c1
 clear hls hcs hx
 go_enter Tryz.func171,Tryz.ntmps171
 go_wp2_with (first
  | (go_at_call 134;refine hl2.mono ?_;clear hl2;intro r w1 hE;obtain ⟨p1,k1,cc1,bs1,rfl,HS1,HB1⟩:=bH hE;clear hE;have HK1 : Aside (WkAt w1 B a (some ⟨b,off,none⟩) (x :: []) c h):=K.out.kept HB1.out;have HK2 : Aside (WkAt (w1.setCell ⟨B,1,none⟩ (.slice (some ⟨b,off + 1,none⟩) 0 (c - 1))) B a (some ⟨b,off + 1,none⟩) [] (c - 1) h):=HK1.out.cutN HN0.out hcc;clear c0 c1 c2 f0 f1 f2;obtain ⟨c0,c1,c2,f0,f1,f2,_⟩:=HK1.out;have c1 : w1.cell? ⟨B,1,none⟩ = some (.slice (some ⟨b,off,none⟩) 1 c):=c1;have hx3 : w1.cell? ⟨b,off,none⟩ = some (.string x):=(HB1.out.cell (p:=⟨b,off,none⟩) hb).trans hx0;have hBw1 : B < w1.heap.size:=HK1.out.lt)
  | (go_at_call 212;refine (hjn _).mono ?_;rintro r w2 ⟨⟨d,rfl,hd⟩,hw2⟩;subst w2;have hge:=HGT.out (w1.setCell ⟨B,1,none⟩ (.slice (some ⟨b,off + 1,none⟩) 0 (c - 1))) d hd (.inr ⟨w1,HB1.out,1,_,rfl⟩);have HD : Aside (d.data.toList = joinL a.data.toList x.data.toList):=hd;clear hd)
  | (go_at_call 27;refine hge.mono ?_;clear hge;rintro r w3 ⟨rfl,hN3⟩;have HB3 : Aside (Below (w1.setCell ⟨B,1,none⟩ (.slice (some ⟨b,off + 1,none⟩) 0 (c - 1))).heap.size (w1.setCell ⟨B,1,none⟩ (.slice (some ⟨b,off + 1,none⟩) 0 (c - 1))) (w3.alloc (.cells #[.string ep,.int .i64 3,.string et,.bool eo] 53))):=Below.onto hN3 ((Grown.refl w3).alloc _).below;have HB33 : Aside (Below (w1.setCell ⟨B,1,none⟩ (.slice (some ⟨b,off + 1,none⟩) 0 (c - 1))).heap.size (w1.setCell ⟨B,1,none⟩ (.slice (some ⟨b,off + 1,none⟩) 0 (c - 1))) w3):=hN3;clear hN3;clear c0 c1 c2 f0 f1 f2;obtain ⟨c0,c1,c2,f0,f1,f2,_⟩:=HK2.out.kept HB33.out;have hBw3 : B < w3.heap.size:=(HK2.out.kept HB33.out).lt)
  | (go_at_call 213;refine (hhp _ _ _ (HK2.out.kept HB3.out) (bg (aY (bV HB1.out) _ _) HB3.out)).mono ?_;clear hhp;rintro r w4 ⟨a4,p4,bs4,c4,rfl,hk4,ha4,hb4,hg4⟩;have HF : Aside (cO B he ra rn (h + 1) W (.returned (.int .i64 he)) w4):=⟨a4,p4,bs4,c4,rfl,hk4,ha4,hb4,oM (bg (aY (bV HB1.out) _ _) HB3.out) hg4⟩;clear hk4 ha4 hb4 hg4))
 go_ret
 exact HF.out
set_option maxHeartbeats 1000000 in
theorem Jv (W : World) (B : Nat) (a : ByteArray) (p : Option Addr) (x : ByteArray) (h : Nat) (ps : Option Addr) (sn sc : Nat) (k : WkAt W B a p (x :: []) 1 h) (l : List (List UInt8)) (hls : LsC W (.slice ps sn sc) a l 0) (ha : a.size ≤ 1000) (hx : ¬ x.data.toList = [46,46]) (hxs : x.size ≤ 1000) (ep et : ByteArray) (eo eb : Bool) (hgt : GtD W B (.slice ps sn sc) (joinL a.data.toList x.data.toList) ep 3 et eo eb) (he : Int) (ra : List UInt8) (rn : List (List UInt8)) (hhp : HpC W B a [] h et he ra rn) :
  Calls Tryz.prog 171 #[.pointer (some ⟨B,0,none⟩),.slice ps sn sc,.bool true] W (cO B he ra rn (h + 1) W):=by
 have K : Aside (WkAt W B a p (x :: []) 1 h):=k
 have hl2:=hls W (Below.refl _ _)
 have hjn:=fun X => kR a x X (by omega)
 have hx1 : (x.toList == [46,46]) = false:=beq_lit x _ _ (by simpa using hx)
 have hx2 : ¬ x.toList = [46,46]:=by rw [Lib.toList_data];exact hx
 have HGT : Aside (GtD W B (.slice ps sn sc) (joinL a.data.toList x.data.toList) ep 3 et eo eb):=hgt
 clear hgt
 rcases k.lies with h0 | ⟨b,off,rfl,hb,hcs⟩
 ·cases h0
 have hx0:=hcs 0 x rfl
 have hne : b ≠ B:=k.far (by simp) b off none rfl
 have hBW:=k.lt
 have hcap:=k.cap
 have HN0 : Aside ((0 : Nat) = ([] : List ByteArray).length):=rfl
 have hcap1 : 1 ≤ 1:=hcap
 obtain ⟨c0,c1,c2,f0,f1,f2,_⟩:=k
 have c1 : W.cell? ⟨B,1,none⟩ = some (.slice (some ⟨b,off,none⟩) 1 1):=c1
 clear hls hcs hx
 go_enter Tryz.func171,Tryz.ntmps171
 go_wp2_with (first
  | (go_at_call 134;refine hl2.mono ?_;clear hl2;intro r w1 hE;obtain ⟨p1,k1,cc1,bs1,rfl,HS1,HB1⟩:=bH hE;clear hE;have HK1 : Aside (WkAt w1 B a (some ⟨b,off,none⟩) (x :: []) 1 h):=K.out.kept HB1.out;have HK2 : Aside (WkAt (w1.setCell ⟨B,1,none⟩ (.slice (some ⟨b,off,none⟩) 0 0)) B a (some ⟨b,off,none⟩) [] 0 h):=HK1.out.cut1 HN0.out;clear c0 c1 c2 f0 f1 f2;obtain ⟨c0,c1,c2,f0,f1,f2,_⟩:=HK1.out;have c1 : w1.cell? ⟨B,1,none⟩ = some (.slice (some ⟨b,off,none⟩) 1 1):=c1;have hx3 : w1.cell? ⟨b,off,none⟩ = some (.string x):=(HB1.out.cell (p:=⟨b,off,none⟩) hb).trans hx0;have hBw1 : B < w1.heap.size:=HK1.out.lt)
  | (go_at_call 212;refine (hjn _).mono ?_;rintro r w2 ⟨⟨d,rfl,hd⟩,hw2⟩;subst w2;have hge:=HGT.out (w1.setCell ⟨B,1,none⟩ (.slice (some ⟨b,off,none⟩) 0 0)) d hd (.inr ⟨w1,HB1.out,1,_,rfl⟩);have HD : Aside (d.data.toList = joinL a.data.toList x.data.toList):=hd;clear hd)
  | (go_at_call 27;refine hge.mono ?_;clear hge;rintro r w3 ⟨rfl,hN3⟩;have HB3 : Aside (Below (w1.setCell ⟨B,1,none⟩ (.slice (some ⟨b,off,none⟩) 0 0)).heap.size (w1.setCell ⟨B,1,none⟩ (.slice (some ⟨b,off,none⟩) 0 0)) (w3.alloc (.cells #[.string ep,.int .i64 3,.string et,.bool eo] 53))):=Below.onto hN3 ((Grown.refl w3).alloc _).below;have HB33 : Aside (Below (w1.setCell ⟨B,1,none⟩ (.slice (some ⟨b,off,none⟩) 0 0)).heap.size (w1.setCell ⟨B,1,none⟩ (.slice (some ⟨b,off,none⟩) 0 0)) w3):=hN3;clear hN3;clear c0 c1 c2 f0 f1 f2;obtain ⟨c0,c1,c2,f0,f1,f2,_⟩:=HK2.out.kept HB33.out;have hBw3 : B < w3.heap.size:=(HK2.out.kept HB33.out).lt)
  | (go_at_call 213;refine (hhp _ _ _ (HK2.out.kept HB3.out) (bg (aY (bV HB1.out) _ _) HB3.out)).mono ?_;clear hhp;rintro r w4 ⟨a4,p4,bs4,c4,rfl,hk4,ha4,hb4,hg4⟩;have HF : Aside (cO B he ra rn (h + 1) W (.returned (.int .i64 he)) w4):=⟨a4,p4,bs4,c4,rfl,hk4,ha4,hb4,oM (bg (aY (bV HB1.out) _ _) HB3.out) hg4⟩;clear hk4 ha4 hb4 hg4))
 go_ret
 exact HF.out
set_option maxHeartbeats 1000000 in
theorem JC (W : World) (B : Nat) (a : ByteArray) (p : Option Addr) (x : ByteArray) (bs : List ByteArray) (c h : Nat) (ps : Option Addr) (sn sc : Nat) (follow : Bool) (k : WkAt W B a p (x :: bs) c h) (l : List (List UInt8)) (hls : LsC W (.slice ps sn sc) a l 0) (ha : a.size ≤ 1000) (hbl : bs.length ≤ 1000) (hcc : ¬ c = 1) (hx : ¬ x.data.toList = [46,46]) (hxs : x.size ≤ 1000) (ep et : ByteArray) (ek : Int) (eo eb : Bool) (hgt : GtD W B (.slice ps sn sc) (joinL a.data.toList x.data.toList) ep ek et eo eb) (hek : ¬ ek = 3) :
  Calls Tryz.prog 171 #[.pointer (some ⟨B,0,none⟩),.slice ps sn sc,.bool follow] W (cO B 0 (joinL a.data.toList x.data.toList) (bs.map (·.data.toList)) h W):=by
 have K : Aside (WkAt W B a p (x :: bs) c h):=k
 have hl2:=hls W (Below.refl _ _)
 have hjn:=fun X => kR a x X (by omega)
 have hx1 : (x.toList == [46,46]) = false:=beq_lit x _ _ (by simpa using hx)
 have hx2 : ¬ x.toList = [46,46]:=by rw [Lib.toList_data];exact hx
 have HGT : Aside (GtD W B (.slice ps sn sc) (joinL a.data.toList x.data.toList) ep ek et eo eb):=hgt
 clear hgt
 have hek' : (ek == 3) = false:=beq_eq_false_iff_ne.2 hek
 rcases k.lies with h0 | ⟨b,off,rfl,hb,hcs⟩
 ·cases h0
 have hx0:=hcs 0 x rfl
 have hne : b ≠ B:=k.far (by simp) b off none rfl
 have hBW:=k.lt
 have hcap:=k.cap
 rw [List.length_cons] at hcap
 obtain ⟨n0,hn0⟩ : ∃ n0,n0 = bs.length:=⟨_,rfl⟩
 have HN0 : Aside (n0 = bs.length):=hn0
 rw [← hn0] at hcap hbl
 obtain ⟨c0,c1,c2,f0,f1,f2,_⟩:=k
 rw [List.length_cons,← hn0] at c1
 clear hn0
 clear hls hcs hx
 go_enter Tryz.func171,Tryz.ntmps171
 go_wp2_with (first
  | (go_at_call 134;refine hl2.mono ?_;clear hl2;intro r w1 hE;obtain ⟨p1,k1,cc1,bs1,rfl,HS1,HB1⟩:=bH hE;clear hE;have HK1 : Aside (WkAt w1 B a (some ⟨b,off,none⟩) (x :: bs) c h):=K.out.kept HB1.out;have HK2 : Aside (WkAt (w1.setCell ⟨B,1,none⟩ (.slice (some ⟨b,off + 1,none⟩) n0 (c - 1))) B a (some ⟨b,off + 1,none⟩) bs (c - 1) h):=HK1.out.cutN HN0.out hcc;clear c0 c1 c2 f0 f1 f2;obtain ⟨c0,c1,c2,f0,f1,f2,_⟩:=HK1.out;rw [List.length_cons,← HN0.out] at c1;have hx3 : w1.cell? ⟨b,off,none⟩ = some (.string x):=(HB1.out.cell (p:=⟨b,off,none⟩) hb).trans hx0;have hBw1 : B < w1.heap.size:=HK1.out.lt)
  | (go_at_call 212;refine (hjn _).mono ?_;rintro r w2 ⟨⟨d,rfl,hd⟩,hw2⟩;subst w2;have hge:=HGT.out (w1.setCell ⟨B,1,none⟩ (.slice (some ⟨b,off + 1,none⟩) n0 (c - 1))) d hd (.inr ⟨w1,HB1.out,1,_,rfl⟩);have HD : Aside (d.data.toList = joinL a.data.toList x.data.toList):=hd;clear hd)
  | (go_at_call 27;refine hge.mono ?_;clear hge;rintro r w3 ⟨rfl,hN3⟩;have HB3 : Aside (Below (w1.setCell ⟨B,1,none⟩ (.slice (some ⟨b,off + 1,none⟩) n0 (c - 1))).heap.size (w1.setCell ⟨B,1,none⟩ (.slice (some ⟨b,off + 1,none⟩) n0 (c - 1))) (w3.alloc (.cells #[.string ep,.int .i64 ek,.string et,.bool eo] 53))):=Below.onto hN3 ((Grown.refl w3).alloc _).below;have HB33 : Aside (Below (w1.setCell ⟨B,1,none⟩ (.slice (some ⟨b,off + 1,none⟩) n0 (c - 1))).heap.size (w1.setCell ⟨B,1,none⟩ (.slice (some ⟨b,off + 1,none⟩) n0 (c - 1))) w3):=hN3;clear hN3;clear c0 c1 c2 f0 f1 f2;obtain ⟨c0,c1,c2,f0,f1,f2,_⟩:=HK2.out.kept HB33.out;rw [← HN0.out] at c1;have hBw3 : B < w3.heap.size:=(HK2.out.kept HB33.out).lt))
 go_ret
 exact ⟨d,_,_,_,rfl,((HK2.out.kept HB33.out).setA d).kept ((Grown.refl _).alloc _).below,HD.out,rfl,jX (aY (bg (aY (bV HB1.out) _ _) HB33.out) _ _) _⟩
set_option maxHeartbeats 1000000 in
theorem Jr (W : World) (B : Nat) (a : ByteArray) (p : Option Addr) (x : ByteArray) (h : Nat) (ps : Option Addr) (sn sc : Nat) (follow : Bool) (k : WkAt W B a p (x :: []) 1 h) (l : List (List UInt8)) (hls : LsC W (.slice ps sn sc) a l 0) (ha : a.size ≤ 1000) (hx : ¬ x.data.toList = [46,46]) (hxs : x.size ≤ 1000) (ep et : ByteArray) (ek : Int) (eo eb : Bool) (hgt : GtD W B (.slice ps sn sc) (joinL a.data.toList x.data.toList) ep ek et eo eb) (hek : ¬ ek = 3) :
  Calls Tryz.prog 171 #[.pointer (some ⟨B,0,none⟩),.slice ps sn sc,.bool follow] W (cO B 0 (joinL a.data.toList x.data.toList) (([] : List ByteArray).map (·.data.toList)) h W):=by
 have K : Aside (WkAt W B a p (x :: []) 1 h):=k
 have hl2:=hls W (Below.refl _ _)
 have hjn:=fun X => kR a x X (by omega)
 have hx1 : (x.toList == [46,46]) = false:=beq_lit x _ _ (by simpa using hx)
 have hx2 : ¬ x.toList = [46,46]:=by rw [Lib.toList_data];exact hx
 have HGT : Aside (GtD W B (.slice ps sn sc) (joinL a.data.toList x.data.toList) ep ek et eo eb):=hgt
 clear hgt
 have hek' : (ek == 3) = false:=beq_eq_false_iff_ne.2 hek
 rcases k.lies with h0 | ⟨b,off,rfl,hb,hcs⟩
 ·cases h0
 have hx0:=hcs 0 x rfl
 have hne : b ≠ B:=k.far (by simp) b off none rfl
 have hBW:=k.lt
 have hcap:=k.cap
 have HN0 : Aside ((0 : Nat) = ([] : List ByteArray).length):=rfl
 have hcap1 : 1 ≤ 1:=hcap
 obtain ⟨c0,c1,c2,f0,f1,f2,_⟩:=k
 have c1 : W.cell? ⟨B,1,none⟩ = some (.slice (some ⟨b,off,none⟩) 1 1):=c1
 clear hls hcs hx
 go_enter Tryz.func171,Tryz.ntmps171
 go_wp2_with (first
  | (go_at_call 134;refine hl2.mono ?_;clear hl2;intro r w1 hE;obtain ⟨p1,k1,cc1,bs1,rfl,HS1,HB1⟩:=bH hE;clear hE;have HK1 : Aside (WkAt w1 B a (some ⟨b,off,none⟩) (x :: []) 1 h):=K.out.kept HB1.out;have HK2 : Aside (WkAt (w1.setCell ⟨B,1,none⟩ (.slice (some ⟨b,off,none⟩) 0 0)) B a (some ⟨b,off,none⟩) [] 0 h):=HK1.out.cut1 HN0.out;clear c0 c1 c2 f0 f1 f2;obtain ⟨c0,c1,c2,f0,f1,f2,_⟩:=HK1.out;have c1 : w1.cell? ⟨B,1,none⟩ = some (.slice (some ⟨b,off,none⟩) 1 1):=c1;have hx3 : w1.cell? ⟨b,off,none⟩ = some (.string x):=(HB1.out.cell (p:=⟨b,off,none⟩) hb).trans hx0;have hBw1 : B < w1.heap.size:=HK1.out.lt)
  | (go_at_call 212;refine (hjn _).mono ?_;rintro r w2 ⟨⟨d,rfl,hd⟩,hw2⟩;subst w2;have hge:=HGT.out (w1.setCell ⟨B,1,none⟩ (.slice (some ⟨b,off,none⟩) 0 0)) d hd (.inr ⟨w1,HB1.out,1,_,rfl⟩);have HD : Aside (d.data.toList = joinL a.data.toList x.data.toList):=hd;clear hd)
  | (go_at_call 27;refine hge.mono ?_;clear hge;rintro r w3 ⟨rfl,hN3⟩;have HB3 : Aside (Below (w1.setCell ⟨B,1,none⟩ (.slice (some ⟨b,off,none⟩) 0 0)).heap.size (w1.setCell ⟨B,1,none⟩ (.slice (some ⟨b,off,none⟩) 0 0)) (w3.alloc (.cells #[.string ep,.int .i64 ek,.string et,.bool eo] 53))):=Below.onto hN3 ((Grown.refl w3).alloc _).below;have HB33 : Aside (Below (w1.setCell ⟨B,1,none⟩ (.slice (some ⟨b,off,none⟩) 0 0)).heap.size (w1.setCell ⟨B,1,none⟩ (.slice (some ⟨b,off,none⟩) 0 0)) w3):=hN3;clear hN3;clear c0 c1 c2 f0 f1 f2;obtain ⟨c0,c1,c2,f0,f1,f2,_⟩:=HK2.out.kept HB33.out;have hBw3 : B < w3.heap.size:=(HK2.out.kept HB33.out).lt))
 go_ret
 exact ⟨d,_,_,_,rfl,((HK2.out.kept HB33.out).setA d).kept ((Grown.refl _).alloc _).below,HD.out,rfl,jX (aY (bg (aY (bV HB1.out) _ _) HB33.out) _ _) _⟩
set_option maxHeartbeats 1000000 in
theorem JJ (W : World) (B : Nat) (a : ByteArray) (p : Option Addr) (x : ByteArray) (c h : Nat) (ps : Option Addr) (sn sc : Nat) (k : WkAt W B a p (x :: []) c h) (l : List (List UInt8)) (hls : LsC W (.slice ps sn sc) a l 0) (ha : a.size ≤ 1000) (hcc : ¬ c = 1) (hx : ¬ x.data.toList = [46,46]) (hxs : x.size ≤ 1000) (ep et : ByteArray) (eo eb : Bool) (hgt : GtD W B (.slice ps sn sc) (joinL a.data.toList x.data.toList) ep 3 et eo eb) :
  Calls Tryz.prog 171 #[.pointer (some ⟨B,0,none⟩),.slice ps sn sc,.bool false] W (cO B 0 (joinL a.data.toList x.data.toList) (([] : List ByteArray).map (·.data.toList)) h W):=by
 have K : Aside (WkAt W B a p (x :: []) c h):=k
 have hl2:=hls W (Below.refl _ _)
 have hjn:=fun X => kR a x X (by omega)
 have hx1 : (x.toList == [46,46]) = false:=beq_lit x _ _ (by simpa using hx)
 have hx2 : ¬ x.toList = [46,46]:=by rw [Lib.toList_data];exact hx
 have HGT : Aside (GtD W B (.slice ps sn sc) (joinL a.data.toList x.data.toList) ep 3 et eo eb):=hgt
 clear hgt
 rcases k.lies with h0 | ⟨b,off,rfl,hb,hcs⟩
 ·cases h0
 have hx0:=hcs 0 x rfl
 have hne : b ≠ B:=k.far (by simp) b off none rfl
 have hBW:=k.lt
 have hcap:=k.cap
 have HN0 : Aside ((0 : Nat) = ([] : List ByteArray).length):=rfl
 have hcap1 : 1 ≤ c:=hcap
 obtain ⟨c0,c1,c2,f0,f1,f2,_⟩:=k
 have c1 : W.cell? ⟨B,1,none⟩ = some (.slice (some ⟨b,off,none⟩) 1 c):=c1
 clear hls hcs hx
 go_enter Tryz.func171,Tryz.ntmps171
 go_wp2_with (first
  | (go_at_call 134;refine hl2.mono ?_;clear hl2;intro r w1 hE;obtain ⟨p1,k1,cc1,bs1,rfl,HS1,HB1⟩:=bH hE;clear hE;have HK1 : Aside (WkAt w1 B a (some ⟨b,off,none⟩) (x :: []) c h):=K.out.kept HB1.out;have HK2 : Aside (WkAt (w1.setCell ⟨B,1,none⟩ (.slice (some ⟨b,off + 1,none⟩) 0 (c - 1))) B a (some ⟨b,off + 1,none⟩) [] (c - 1) h):=HK1.out.cutN HN0.out hcc;clear c0 c1 c2 f0 f1 f2;obtain ⟨c0,c1,c2,f0,f1,f2,_⟩:=HK1.out;have c1 : w1.cell? ⟨B,1,none⟩ = some (.slice (some ⟨b,off,none⟩) 1 c):=c1;have hx3 : w1.cell? ⟨b,off,none⟩ = some (.string x):=(HB1.out.cell (p:=⟨b,off,none⟩) hb).trans hx0;have hBw1 : B < w1.heap.size:=HK1.out.lt)
  | (go_at_call 212;refine (hjn _).mono ?_;rintro r w2 ⟨⟨d,rfl,hd⟩,hw2⟩;subst w2;have hge:=HGT.out (w1.setCell ⟨B,1,none⟩ (.slice (some ⟨b,off + 1,none⟩) 0 (c - 1))) d hd (.inr ⟨w1,HB1.out,1,_,rfl⟩);have HD : Aside (d.data.toList = joinL a.data.toList x.data.toList):=hd;clear hd)
  | (go_at_call 27;refine hge.mono ?_;clear hge;rintro r w3 ⟨rfl,hN3⟩;have HB3 : Aside (Below (w1.setCell ⟨B,1,none⟩ (.slice (some ⟨b,off + 1,none⟩) 0 (c - 1))).heap.size (w1.setCell ⟨B,1,none⟩ (.slice (some ⟨b,off + 1,none⟩) 0 (c - 1))) (w3.alloc (.cells #[.string ep,.int .i64 3,.string et,.bool eo] 53))):=Below.onto hN3 ((Grown.refl w3).alloc _).below;have HB33 : Aside (Below (w1.setCell ⟨B,1,none⟩ (.slice (some ⟨b,off + 1,none⟩) 0 (c - 1))).heap.size (w1.setCell ⟨B,1,none⟩ (.slice (some ⟨b,off + 1,none⟩) 0 (c - 1))) w3):=hN3;clear hN3;clear c0 c1 c2 f0 f1 f2;obtain ⟨c0,c1,c2,f0,f1,f2,_⟩:=HK2.out.kept HB33.out;have hBw3 : B < w3.heap.size:=(HK2.out.kept HB33.out).lt))
 go_ret
 exact ⟨d,_,_,_,rfl,((HK2.out.kept HB33.out).setA d).kept ((Grown.refl _).alloc _).below,HD.out,rfl,jX (aY (bg (aY (bV HB1.out) _ _) HB33.out) _ _) _⟩
set_option maxHeartbeats 1000000 in
theorem JF (W : World) (B : Nat) (a : ByteArray) (p : Option Addr) (x : ByteArray) (h : Nat) (ps : Option Addr) (sn sc : Nat) (k : WkAt W B a p (x :: []) 1 h) (l : List (List UInt8)) (hls : LsC W (.slice ps sn sc) a l 0) (ha : a.size ≤ 1000) (hx : ¬ x.data.toList = [46,46]) (hxs : x.size ≤ 1000) (ep et : ByteArray) (eo eb : Bool) (hgt : GtD W B (.slice ps sn sc) (joinL a.data.toList x.data.toList) ep 3 et eo eb) :
  Calls Tryz.prog 171 #[.pointer (some ⟨B,0,none⟩),.slice ps sn sc,.bool false] W (cO B 0 (joinL a.data.toList x.data.toList) (([] : List ByteArray).map (·.data.toList)) h W):=by
 have K : Aside (WkAt W B a p (x :: []) 1 h):=k
 have hl2:=hls W (Below.refl _ _)
 have hjn:=fun X => kR a x X (by omega)
 have hx1 : (x.toList == [46,46]) = false:=beq_lit x _ _ (by simpa using hx)
 have hx2 : ¬ x.toList = [46,46]:=by rw [Lib.toList_data];exact hx
 have HGT : Aside (GtD W B (.slice ps sn sc) (joinL a.data.toList x.data.toList) ep 3 et eo eb):=hgt
 clear hgt
 rcases k.lies with h0 | ⟨b,off,rfl,hb,hcs⟩
 ·cases h0
 have hx0:=hcs 0 x rfl
 have hne : b ≠ B:=k.far (by simp) b off none rfl
 have hBW:=k.lt
 have hcap:=k.cap
 have HN0 : Aside ((0 : Nat) = ([] : List ByteArray).length):=rfl
 have hcap1 : 1 ≤ 1:=hcap
 obtain ⟨c0,c1,c2,f0,f1,f2,_⟩:=k
 have c1 : W.cell? ⟨B,1,none⟩ = some (.slice (some ⟨b,off,none⟩) 1 1):=c1
 clear hls hcs hx
 go_enter Tryz.func171,Tryz.ntmps171
 go_wp2_with (first
  | (go_at_call 134;refine hl2.mono ?_;clear hl2;intro r w1 hE;obtain ⟨p1,k1,cc1,bs1,rfl,HS1,HB1⟩:=bH hE;clear hE;have HK1 : Aside (WkAt w1 B a (some ⟨b,off,none⟩) (x :: []) 1 h):=K.out.kept HB1.out;have HK2 : Aside (WkAt (w1.setCell ⟨B,1,none⟩ (.slice (some ⟨b,off,none⟩) 0 0)) B a (some ⟨b,off,none⟩) [] 0 h):=HK1.out.cut1 HN0.out;clear c0 c1 c2 f0 f1 f2;obtain ⟨c0,c1,c2,f0,f1,f2,_⟩:=HK1.out;have c1 : w1.cell? ⟨B,1,none⟩ = some (.slice (some ⟨b,off,none⟩) 1 1):=c1;have hx3 : w1.cell? ⟨b,off,none⟩ = some (.string x):=(HB1.out.cell (p:=⟨b,off,none⟩) hb).trans hx0;have hBw1 : B < w1.heap.size:=HK1.out.lt)
  | (go_at_call 212;refine (hjn _).mono ?_;rintro r w2 ⟨⟨d,rfl,hd⟩,hw2⟩;subst w2;have hge:=HGT.out (w1.setCell ⟨B,1,none⟩ (.slice (some ⟨b,off,none⟩) 0 0)) d hd (.inr ⟨w1,HB1.out,1,_,rfl⟩);have HD : Aside (d.data.toList = joinL a.data.toList x.data.toList):=hd;clear hd)
  | (go_at_call 27;refine hge.mono ?_;clear hge;rintro r w3 ⟨rfl,hN3⟩;have HB3 : Aside (Below (w1.setCell ⟨B,1,none⟩ (.slice (some ⟨b,off,none⟩) 0 0)).heap.size (w1.setCell ⟨B,1,none⟩ (.slice (some ⟨b,off,none⟩) 0 0)) (w3.alloc (.cells #[.string ep,.int .i64 3,.string et,.bool eo] 53))):=Below.onto hN3 ((Grown.refl w3).alloc _).below;have HB33 : Aside (Below (w1.setCell ⟨B,1,none⟩ (.slice (some ⟨b,off,none⟩) 0 0)).heap.size (w1.setCell ⟨B,1,none⟩ (.slice (some ⟨b,off,none⟩) 0 0)) w3):=hN3;clear hN3;clear c0 c1 c2 f0 f1 f2;obtain ⟨c0,c1,c2,f0,f1,f2,_⟩:=HK2.out.kept HB33.out;have hBw3 : B < w3.heap.size:=(HK2.out.kept HB33.out).lt))
 go_ret
 exact ⟨d,_,_,_,rfl,((HK2.out.kept HB33.out).setA d).kept ((Grown.refl _).alloc _).below,HD.out,rfl,jX (aY (bg (aY (bV HB1.out) _ _) HB33.out) _ _) _⟩
theorem Gq (seen : List Ent) (W : World) (B : Nat) (a : ByteArray) (p : Option Addr) (x : ByteArray) (bs : List ByteArray) (c h : Nat) (ps : Option Addr) (sc : Nat) (follow : Bool) (m : Int) (k : WkAt W B a p (x :: bs) c h) (hL : Lies W ps seen) (hr : Right false seen) (hfar : seen = [] ∨ ∀ b off s,ps = some ⟨b,off,s⟩ → b ≠ B)
  (hw : yF a.data.toList ((x :: bs).map (·.data.toList)) h) (hB0 : B ≠ 0) (hm : W.cell? ⟨0,0,none⟩ = some (.int .i64 m)) :
  Calls Tryz.prog 171 #[.pointer (some ⟨B,0,none⟩),.slice ps seen.length sc,.bool follow] W
   (cO B (goL seen follow a.data.toList x.data.toList (bs.map (·.data.toList)) h).1 (goL seen follow a.data.toList x.data.toList (bs.map (·.data.toList)) h).2.1 (goL seen follow a.data.toList x.data.toList (bs.map (·.data.toList)) h).2.2.1 (goL seen follow a.data.toList x.data.toList (bs.map (·.data.toList)) h).2.2.2 W):=by
 have hal:=hw.len
 have hnum:=hw.num
 have hh8:=hw.hops
 have hxl : x.data.toList.length ≤ 12:=hw.each _ (by simp)
 have has : a.size = a.data.toList.length:=rfl
 have hxs : x.size = x.data.toList.length:=rfl
 rw [List.length_map,List.length_cons] at hnum
 have h81 : (h + 1) * 81 ≤ 729:=by omega
 have hfit:=gP hr
 have hn80:=hr.len
 have hls : LsC W (.slice ps seen.length sc) a (jZ seen a.data.toList).1 (jZ seen a.data.toList).2:=fun X hX => Ak seen a ps sc X (hL.kept hX) hfit hr (by unfold maxLen;omega)
 have hlist : (jZ seen a.data.toList).2 = bD seen a.data.toList:=by unfold jZ;split <;> simp [*]
 rw [hlist] at hls
 unfold goL
 by_cases h1 : bD seen a.data.toList = 0
 ·rw [if_neg (not_not_intro h1)]
  rw [h1] at hls
  have hcc : c = 1 → bs = []:=fun e => by
   have:=k.cap
   rw [List.length_cons] at this
   exact List.eq_nil_of_length_eq_zero (by omega)
  by_cases h2 : x.data.toList = [46,46]
  ·rw [if_pos h2]
   by_cases hc : c = 1
   ·obtain rfl:=hcc hc
    subst hc
    exact JU W B a p x h ps _ sc follow k _ hls (by omega) h2
   ·exact Kc W B a p x bs c h ps _ sc follow k _ hls (by omega) (by omega) hc h2
  ·rw [if_neg h2]
   have hjl:=Aa a.data.toList x.data.toList
   have hgt : ∀ (z : Ent) (bb : Bool),(getL seen (joinL a.data.toList x.data.toList)).getD zeroE = z → (getL seen (joinL a.data.toList x.data.toList)).isSome = bb → GtD W B (.slice ps seen.length sc) (joinL a.data.toList x.data.toList) z.path z.kind z.text z.opq bb:=fun z bb hz hbb X d hd hX => by
    have hds : d.size = d.data.toList.length:=rfl
    rw [hd] at hds
    have hLX : Lies X ps seen:=by
     rcases hX with hX | ⟨Y,hY,i,v,rfl⟩
     ·exact hL.kept hX
     ·rcases hfar with hf | hf
      ·exact .inl hf
      ·rcases hL.kept hY with h0 | ⟨b,off,hp,hb,hc⟩
       ·exact .inl h0
       ·refine .inr ⟨b,off,hp,by simpa [World.setCell] using hb,fun j e hj i' u hu => ?_⟩
        rw [World.cell?_setCell_other (h:=fun e => hf b off none hp (congrArg Addr.block e).symm)]
        exact hc j e hj i' u hu
    have:=nM seen d ps sc X hLX hfit (by omega) (by unfold maxLen;omega) hr.sorted z bb (by rw [hd];exact hz) (by rw [hd];exact hbb)
    exact this
   have htx:=Ie hr (joinL a.data.toList x.data.toList)
   obtain ⟨⟨ep,ek,et,eo⟩,hz⟩ : ∃ z,(getL seen (joinL a.data.toList x.data.toList)).getD zeroE = z:=⟨_,rfl⟩
   have hg:=hgt _ _ hz rfl
   simp only at hg
   rw [hz] at htx ⊢
   simp only at htx ⊢
   have hhp : ∀ bs : List ByteArray,bs.length ≤ 1000 → HpC W B a bs h et (if 8 < h + 1 then 12 else (aN et.data.toList).2) (if 8 < h + 1 then a.data.toList else if ¬ (aN et.data.toList).2 = 0 then a.data.toList else if slash et.data.toList then [] else a.data.toList)
     (if 8 < h + 1 then bs.map (·.data.toList) else if ¬ (aN et.data.toList).2 = 0 then bs.map (·.data.toList) else (aN et.data.toList).1 ++ bs.map (·.data.toList)):=fun bs hb X p' c' hk hG =>
    Ja X B a p' bs c' h et m hk hh8 hB0 hb htx (by rw [gT hG (a:=⟨0,0,none⟩) (block_lt_of_cell hm) (Ne.symm hB0)];exact hm)
   have hres : ∀ bs : List ByteArray,∀ r : Ending,∀ w' : World,cO B (if 8 < h + 1 then 12 else (aN et.data.toList).2) (if 8 < h + 1 then a.data.toList else if ¬ (aN et.data.toList).2 = 0 then a.data.toList else if slash et.data.toList then [] else a.data.toList)
     (if 8 < h + 1 then bs.map (·.data.toList) else if ¬ (aN et.data.toList).2 = 0 then bs.map (·.data.toList) else (aN et.data.toList).1 ++ bs.map (·.data.toList)) (h + 1) W r w' →
     cO B (if 8 < h + 1 then (12,a.data.toList,bs.map (·.data.toList),h + 1) else if ¬ (aN et.data.toList).2 = 0 then ((aN et.data.toList).2,a.data.toList,bs.map (·.data.toList),h + 1) else (0,if slash et.data.toList then [] else a.data.toList,(aN et.data.toList).1 ++ bs.map (·.data.toList),h + 1) : Int × List UInt8 × List (List UInt8) × Nat).1
      (if 8 < h + 1 then (12,a.data.toList,bs.map (·.data.toList),h + 1) else if ¬ (aN et.data.toList).2 = 0 then ((aN et.data.toList).2,a.data.toList,bs.map (·.data.toList),h + 1) else (0,if slash et.data.toList then [] else a.data.toList,(aN et.data.toList).1 ++ bs.map (·.data.toList),h + 1) : Int × List UInt8 × List (List UInt8) × Nat).2.1
      (if 8 < h + 1 then (12,a.data.toList,bs.map (·.data.toList),h + 1) else if ¬ (aN et.data.toList).2 = 0 then ((aN et.data.toList).2,a.data.toList,bs.map (·.data.toList),h + 1) else (0,if slash et.data.toList then [] else a.data.toList,(aN et.data.toList).1 ++ bs.map (·.data.toList),h + 1) : Int × List UInt8 × List (List UInt8) × Nat).2.2.1
      (if 8 < h + 1 then (12,a.data.toList,bs.map (·.data.toList),h + 1) else if ¬ (aN et.data.toList).2 = 0 then ((aN et.data.toList).2,a.data.toList,bs.map (·.data.toList),h + 1) else (0,if slash et.data.toList then [] else a.data.toList,(aN et.data.toList).1 ++ bs.map (·.data.toList),h + 1) : Int × List UInt8 × List (List UInt8) × Nat).2.2.2 W r w':=fun bs r w' hh => by
    by_cases g1 : 8 < h + 1
    ·simp only [if_pos g1] at hh ⊢;exact hh
    ·by_cases g2 : (aN et.data.toList).2 = 0
     ·simp only [if_neg g1,g2] at hh ⊢;exact hh
     ·simp only [if_neg g1,if_pos g2] at hh ⊢;exact hh
   by_cases h3 : ek = 3 ∧ (bs.map (·.data.toList) ≠ [] ∨ follow = true)
   ·rw [if_pos h3]
    obtain ⟨rfl,h4⟩:=h3
    by_cases hb0 : bs = []
    ·subst hb0
     obtain rfl : follow = true:=by rcases h4 with h4 | h4;exact absurd rfl h4;exact h4
     by_cases hc : c = 1
     ·subst hc
      exact (Jv W B a p x h ps _ sc k _ hls (by omega) h2 (by omega) ep et eo _ hg _ _ _ (hhp [] (by simp))).mono (hres [])
     ·exact (Js W B a p x c h ps _ sc k _ hls (by omega) hc h2 (by omega) ep et eo _ hg _ _ _ (hhp [] (by simp))).mono (hres [])
    ·have hc : ¬ c = 1:=fun e => hb0 (hcc e)
     have hb1 : 0 < bs.length:=List.length_pos_iff.2 hb0
     exact (JM W B a p x bs c h ps _ sc follow k _ hls (by omega) (by omega) hc h2 (by omega) ep et eo _ hg hb1 _ _ _ (hhp bs (by omega))).mono (hres bs)
   ·rw [if_neg h3]
    by_cases h5 : ek = 3
    ·subst h5
     have hb0 : bs = []:=by
      cases bs with
      | nil => rfl
      | cons y r => exact absurd ⟨rfl,.inl (by simp)⟩ h3
     subst hb0
     obtain rfl : follow = false:=by
      cases follow with
      | false => rfl
      | true => exact absurd ⟨rfl,.inr rfl⟩ h3
     by_cases hc : c = 1
     ·subst hc
      exact JF W B a p x h ps _ sc k _ hls (by omega) h2 (by omega) ep et eo _ hg
     ·exact JJ W B a p x c h ps _ sc k _ hls (by omega) hc h2 (by omega) ep et eo _ hg
    ·by_cases hc : c = 1
     ·obtain rfl:=hcc hc
      subst hc
      exact Jr W B a p x h ps _ sc follow k _ hls (by omega) h2 (by omega) ep et ek eo _ hg h5
     ·exact JC W B a p x bs c h ps _ sc follow k _ hls (by omega) (by omega) hc h2 (by omega) ep et ek eo _ hg h5
 ·rw [if_pos h1]
  exact go_1 W B a p (x :: bs) c h ps _ sc follow k _ _ h1 hls
end Go.Proofs.YthfeoiffoeagkaaGreatDoor
