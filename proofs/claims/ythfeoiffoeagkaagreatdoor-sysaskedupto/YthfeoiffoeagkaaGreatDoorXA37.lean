/-
  sys.Play, whole.
-/
import Derived.Test.YthfeoiffoeagkaaGreatDoorXA36
namespace Go.Proofs.YthfeoiffoeagkaaGreatDoor
open Go.RowKit PM Go.Sort
set_option linter.unusedVariables false
def Head (W : World) (S : Nat) (s0 : Sy) (l : List Cl) (k : Nat) (v : Value) (wr : World) : Prop:=∃ L row,iG W.heap.size wr S (s0.run (l.take k)).1 L v (s0.run (l.take k)).2 row ∧ Below W.heap.size W wr ∧ wr.heap[W.heap.size + 1]? = some (.cells #[.slice none 0 0,.slice none 0 0,.slice none 0 0,.int .i64 0] 29) ∧ L.ex (W.heap.size + 1)
theorem FZ (a b c : Value) : #[a,b,c] ++ Array.replicate 32 (.pointer none) = #[a,b,c,.pointer none,.pointer none,.pointer none,.pointer none,.pointer none,.pointer none,.pointer none,.pointer none,.pointer none,.pointer none,.pointer none,.pointer none,.pointer none,.pointer none,.pointer none,.pointer none,.pointer none,.pointer none,.pointer none,.pointer none,.pointer none,.pointer none,.pointer none,.pointer none,.pointer none,.pointer none,.pointer none,.pointer none,.pointer none,.pointer none,.pointer none,.pointer none]:=by kernel_rfl
set_option maxRecDepth 100000 in
set_option maxHeartbeats 4000000 in
theorem I5 (y : Lay) (lo : List Lay) (pl : Option Addr) (cl : Nat) (pc : Option Addr) (cc : Nat) (l : List Cl) (W : World) (hU : UnOK W y lo pl cl) (hg : Gl W.heap.size W) (h0 : (aA (y.es :: lo.map (·.es))).1 = 0) (hn : l.length ≤ 80) (hC : gM W pc l) (hs : ∀ c ∈ l,c.Small) (hF : ∀ k,k ≤ l.length → ((aK y.es (lo.map (·.es))).run (l.take k)).1.Fine) :
  Calls Tryz.prog 16 #[.agg #[.slice y.ad y.es.length y.cap,.slice pl lo.length cl],.slice pc l.length cc] W (mh ((aK y.es (lo.map (·.es))).run l).1 ((aK y.es (lo.map (·.es))).run l).2 W):=by
 obtain ⟨X,hX⟩ : ∃ X,(W.alloc (.cells #[.slice y.ad y.es.length y.cap,.slice pl lo.length cl] 26)).alloc (.cells #[.slice none 0 0,.slice none 0 0,.slice none 0 0,.int .i64 0] 29) = X:=⟨_,rfl⟩
 have hBX : Below W.heap.size W X:=by rw [← hX];exact ((Below.refl _ _).alloc (Nat.le_refl _) _).alloc (by simp) _
 have br:=cZ hX
 have bu:=gI hX
 have hsX : X.heap.size = W.heap.size + 2:=by rw [← hX];simp
 obtain ⟨m,hm⟩:=(hg.kept hBX).2
 have hsn:=mo y lo m pl cl X (hU.kept hBX) hm
 rw [h0] at hsn
 obtain ⟨hz5,hzm,hzr⟩:=dL.1 h0
 have h4 : lo.length ≤ 4:=by simpa using hz5
 have hcp:=fun Y (hY : Below W.heap.size W Y) => yD y lo pl cl Y (hU.kept hY) (hzr _ (by simp)).len (fun x hx => (hzr x.es (by simp;exact .inr ⟨x,hx,rfl⟩)).len) h4
 obtain ⟨s0,hs0⟩ : ∃ s0,s0 = aK y.es (lo.map (·.es)):=⟨_,rfl⟩
 have HX : Aside ((W.alloc (.cells #[.slice y.ad y.es.length y.cap,.slice pl lo.length cl] 26)).alloc (.cells #[.slice none 0 0,.slice none 0 0,.slice none 0 0,.int .i64 0] 29) = X ∧ Below W.heap.size W X ∧ X.heap[W.heap.size + 1]? = some (.cells #[.slice none 0 0,.slice none 0 0,.slice none 0 0,.int .i64 0] 29) ∧ X.heap[W.heap.size]? = some (.cells #[.slice y.ad y.es.length y.cap,.slice pl lo.length cl] 26)):=⟨hX,hBX,br,bu⟩
 have HC : Aside (gM W pc l ∧ (∀ c ∈ l,c.Small) ∧ Gl W.heap.size W ∧ (∀ k,k ≤ l.length → (s0.run (l.take k)).1.Fine) ∧ s0 = aK y.es (lo.map (·.es))):=⟨hC,hs,hg,by rw [hs0];exact hF,hs0⟩
 rw [← hs0]
 rw [← hX] at hsn
 obtain ⟨sl,hsl⟩ : ∃ sl,sl = aD (y.es :: lo.map (·.es)):=⟨_,rfl⟩
 have HSL : Aside (sl = aD (y.es :: lo.map (·.es))):=hsl
 obtain ⟨el,hel⟩ : ∃ el,el = lo.map (·.es):=⟨_,rfl⟩
 have HEL : Aside (el = lo.map (·.es)):=hel
 rw [← hsl] at hsn
 obtain ⟨sn,hsnn⟩ : ∃ sn,sn = sl.length:=⟨_,rfl⟩
 have HSN : Aside (sn = sl.length):=hsnn
 obtain ⟨yn,hyn⟩ : ∃ yn,yn = y.es.length:=⟨_,rfl⟩
 obtain ⟨ln,hln⟩ : ∃ ln,ln = lo.length:=⟨_,rfl⟩
 obtain ⟨n,hnn⟩ : ∃ n,n = l.length:=⟨_,rfl⟩
 have HN : Aside (yn = y.es.length ∧ ln = lo.length ∧ n = l.length):=⟨hyn,hln,hnn⟩
 have hsn2 : Calls Tryz.prog 21 #[.agg #[.slice y.ad yn y.cap,.slice pl ln cl]] ((W.alloc (.cells #[.slice y.ad yn y.cap,.slice pl ln cl] 26)).alloc (.cells #[.slice none 0 0,.slice none 0 0,.slice none 0 0,.int .i64 0] 29)) (fun r w' => ∃ p c,r = .returned (.tuple #[.slice p sn c,.int .i64 0]) ∧ Aside (Lies w' p sl ∧ sl.length ≤ c ∧ (p = none → c = 0) ∧ ∀ b off s,p = some ⟨b,off,s⟩ → X.heap.size ≤ b) ∧ Below X.heap.size X w'):=by
  rw [hyn,hln,hsnn]
  refine hsn.mono fun r w' ⟨p,c,e,a1,a2,a3,a4,a5⟩ => ⟨p,c,e,⟨a1,a2,a3,fun b off s e => (by have:=a5 b off s e;rw [HX.out.1] at this;exact this)⟩,by rw [HX.out.1] at a4;exact a4⟩
 rw [← hyn,← hln] at hcp HX
 rw [← hyn,← hln,← hnn]
 rw [← hnn] at hn
 have hnz : ¬ (80 : Int) < (n : Int):=by omega
 clear hU hg hBX br bu hm hX h0 hC hs hF hsn hz5 hzm hzr h4 hs0 hsl hel hsnn hyn hln hnn
 go_enter Tryz.func16,Tryz.ntmps16
 go_wp2_with (first
  | (go_at_call 21;refine hsn2.mono ?_;clear hsn2;rintro r w3 ⟨ps,sc,rfl,HS3,hB3⟩;have k3 : w3.heap[W.heap.size + 1]? = some (.cells #[.slice none 0 0,.slice none 0 0,.slice none 0 0,.int .i64 0] 29):=(hB3.block _ (Array.getElem?_eq_some_iff.1 HX.out.2.2.1).1).trans HX.out.2.2.1;have u3 : w3.heap[W.heap.size]? = _:=(hB3.block _ (Array.getElem?_eq_some_iff.1 HX.out.2.2.2).1).trans HX.out.2.2.2;have c0 : w3.cell? ⟨W.heap.size,0,none⟩ = some (.slice y.ad yn y.cap):=(by simp [World.cell?,u3]);have c1 : w3.cell? ⟨W.heap.size,1,none⟩ = some (.slice pl ln cl):=(by simp [World.cell?,u3]);have hW3 : Below W.heap.size W w3:=Below.onto HX.out.2.1 hB3;have H3 : Aside (w3.heap[W.heap.size + 1]? = some (.cells #[.slice none 0 0,.slice none 0 0,.slice none 0 0,.int .i64 0] 29)):=k3;have hX3 : X.heap.size ≤ w3.heap.size:=hB3.size;clear k3 u3 hB3)
  | (go_at_call 39;refine (hcp _ hW3).mono ?_;clear hcp;rintro r w4 ⟨u,lo4,ul,uc,un,vn,rfl,H4⟩;have H4W : Aside (Below W.heap.size W w4 ∧ w4.heap[W.heap.size + 1]? = some (.cells #[.slice none 0 0,.slice none 0 0,.slice none 0 0,.int .i64 0] 29) ∧ Lies w4 ps sl ∧ X.heap.size ≤ w3.heap.size ∧ X.heap.size ≤ w4.heap.size):=⟨Below.onto hW3 H4.out.2.2.2.2.2.1,(H4.out.2.2.2.2.2.1.block _ (Array.getElem?_eq_some_iff.1 H3.out).1).trans H3.out,HS3.out.1.kept H4.out.2.2.2.2.2.1,hX3,Nat.le_trans hX3 H4.out.2.2.2.2.2.1.size⟩))
 have HH : Aside (Head W w4.heap.size s0 l 0 (.slice none 0 0) (w4.alloc (.cells #[.slice u.ad un u.cap,.slice ul vn uc,.slice ps sn sc,.pointer none,.pointer none,.pointer none,.pointer none,.pointer none,.pointer none,.pointer none,.pointer none,.pointer none,.pointer none,.pointer none,.pointer none,.pointer none,.pointer none,.pointer none,.pointer none,.pointer none,.pointer none,.pointer none,.pointer none,.pointer none,.pointer none,.pointer none,.pointer none,.pointer none,.pointer none,.pointer none,.pointer none,.pointer none,.pointer none,.pointer none,.pointer none] 83))):=by
  obtain ⟨r1,r2,r3,r4,r5,r6,r7⟩:=H4.out
  have hbs : aD (u.es :: lo4.map (·.es)) = sl:=by rw [r3,r4,HSL.out]
  have hsys:=IZ (w:=w4) (base:=W.heap.size) u lo4 ul uc ps sc (W.heap.size + 1) X.heap.size H4W.out.1.size (by omega) (by omega) H4W.out.2.2.2.2 r5 ⟨fun b off s e => Nat.le_trans H4W.out.2.2.2.1 (r7.1 b off s e),fun b off s e => Nat.le_trans H4W.out.2.2.2.1 (r7.2.1 b off s e),fun x hx b off s e => Nat.le_trans H4W.out.2.2.2.1 (r7.2.2 x hx b off s e)⟩ (by rw [hbs];exact H4W.out.2.2.1) HS3.out.2.2.2 (by rw [hbs];exact HS3.out.2.1) HS3.out.2.2.1
  rw [hbs,← r1,← r2,← HSN.out,FZ,r3,r4,← HC.out.2.2.2.2] at hsys
  refine ⟨_,[],⟨hsys,aW.nil _ _,nofun,rfl,fun i an y h1 => by simp [Sy.run] at h1⟩,?_,?_,rfl⟩
  ·exact H4W.out.1.alloc H4W.out.1.size _
  ·exact (((Grown.refl w4).alloc _).below.block _ (Array.getElem?_eq_some_iff.1 H4W.out.2.1).1).trans H4W.out.2.1
 obtain ⟨S,hS⟩ : ∃ S,S = w4.heap.size:=⟨_,rfl⟩
 rw [← hS] at HH ⊢
 generalize w4.alloc (.cells #[.slice u.ad un u.cap,.slice ul vn uc,.slice ps sn sc,.pointer none,.pointer none,.pointer none,.pointer none,.pointer none,.pointer none,.pointer none,.pointer none,.pointer none,.pointer none,.pointer none,.pointer none,.pointer none,.pointer none,.pointer none,.pointer none,.pointer none,.pointer none,.pointer none,.pointer none,.pointer none,.pointer none,.pointer none,.pointer none,.pointer none,.pointer none,.pointer none,.pointer none,.pointer none,.pointer none,.pointer none,.pointer none] 83) = W5 at HH ⊢
 clear hS H4 H4W H3 HS3 c0 c1 hW3
 go_loopg [10,33] n (fun gg v i wr => ∃ k : Nat,k ≤ n ∧ n - k ≤ gg ∧ i = .int .i64 k ∧ Aside (Head W S s0 l k v wr))
 case atStart => exact ⟨0,Nat.zero_le _,by omega,rfl,HH.out⟩
 case round =>
  obtain ⟨k,hk,hgg,rfl,HI⟩:=hrel
  by_cases hlt : k < n
  ·have hltz : (k : Int) < (n : Int):=by omega
   obtain ⟨c,hc⟩ : ∃ c,l[k]? = some c:=⟨_,List.getElem?_eq_getElem (by have:=HN.out.2.2;omega)⟩
   have hsm:=HC.out.2.1 c (List.mem_of_getElem? hc)
   obtain ⟨L,row,hP,hBr,hbR,hxR⟩:=HI.out
   have hcells : ∃ b off,pc = some ⟨b,off,none⟩ ∧ b < W.heap.size ∧ ∀ j v,(encC c)[j]? = some v → wr.cell? ⟨b,off + k * 9 + j,none⟩ = some v:=by
    rcases HC.out.1 with e | ⟨b,off,e,hb,hh⟩
    ·rw [e] at hc;simp at hc
    ·exact ⟨b,off,e,hb,fun j v hv => (hBr.cell (p:=⟨b,off + k * 9 + j,none⟩) hb).trans (hh k c hc j v hv)⟩
   obtain ⟨b,off,rfl,hbl,hcc⟩:=hcells
   have hfine:=HC.out.2.2.2.1 k (by have:=HN.out.2.2;omega)
   have hbase : W.heap.size ≤ wr.heap.size:=hBr.size
   have HK1 : Aside (l.take (k + 1) = l.take k ++ [c]):=by show _ = _;rw [List.take_add_one,hc];rfl
   obtain ⟨ck,co,cf,cn,cm,cp,ct,cx,ca⟩:=c
   have q0 : wr.cell? ⟨b,off + k * 9,none⟩ = some (.int .i64 ck):=hcc 0 _ rfl
   have q1 : wr.cell? ⟨b,off + k * 9 + 1,none⟩ = some (.int .i64 co):=hcc 1 _ rfl
   have q2 : wr.cell? ⟨b,off + k * 9 + 2,none⟩ = some (.int .i64 cf):=hcc 2 _ rfl
   have q3 : wr.cell? ⟨b,off + k * 9 + 3,none⟩ = some (.int .i64 cn):=hcc 3 _ rfl
   have q4 : wr.cell? ⟨b,off + k * 9 + 4,none⟩ = some (.int .i64 cm):=hcc 4 _ rfl
   have q5 : wr.cell? ⟨b,off + k * 9 + 5,none⟩ = some (.string cp):=hcc 5 _ rfl
   have q6 : wr.cell? ⟨b,off + k * 9 + 6,none⟩ = some (.string ct):=hcc 6 _ rfl
   have q7 : wr.cell? ⟨b,off + k * 9 + 7,none⟩ = some (.string cx):=hcc 7 _ rfl
   have q8 : wr.cell? ⟨b,off + k * 9 + 8,none⟩ = some (.bool ca):=hcc 8 _ rfl
   have hB1 : Below wr.heap.size wr (wr.alloc (.cells #[.int .i64 ck,.int .i64 co,.int .i64 cf,.int .i64 cn,.int .i64 cm,.string cp,.string ct,.string cx,.bool ca] 50)):=((Grown.refl wr).alloc _).below
   have hP1:=hP.kept hB1
   have han:=Dl hP1.at' (HC.out.2.2.1.kept (Below.onto hBr hB1)) hfine ⟨ck,co,cf,cn,cm,cp,ct,cx,ca⟩ hsm
   simp only at han
   have HR1 : Aside (Below W.heap.size W (wr.alloc (.cells #[.int .i64 ck,.int .i64 co,.int .i64 cf,.int .i64 cn,.int .i64 cm,.string cp,.string ct,.string cx,.bool ca] 50)) ∧ (wr.alloc (.cells #[.int .i64 ck,.int .i64 co,.int .i64 cf,.int .i64 cn,.int .i64 cm,.string cp,.string ct,.string cx,.bool ca] 50)).heap[W.heap.size + 1]? = some (.cells #[.slice none 0 0,.slice none 0 0,.slice none 0 0,.int .i64 0] 29) ∧ iG W.heap.size (wr.alloc (.cells #[.int .i64 ck,.int .i64 co,.int .i64 cf,.int .i64 cn,.int .i64 cm,.string cp,.string ct,.string cx,.bool ca] 50)) S (s0.run (l.take k)).1 L _ (s0.run (l.take k)).2 row ∧ L.ex (W.heap.size + 1)):=⟨Below.onto hBr hB1,(hB1.block _ (Array.getElem?_eq_some_iff.1 hbR).1).trans hbR,hP1,hxR⟩
   have HS1 : Aside (s0.run (l.take (k + 1)) = (((s0.run (l.take k)).1.answer ⟨ck,co,cf,cn,cm,cp,ct,cx,ca⟩).1,(s0.run (l.take k)).2 ++ [((s0.run (l.take k)).1.answer ⟨ck,co,cf,cn,cm,cp,ct,cx,ca⟩).2])):=by show _ = _;rw [HK1.out,Ih]
   obtain ⟨s1,hs1⟩ : ∃ s1,s1 = ((s0.run (l.take k)).1.answer ⟨ck,co,cf,cn,cm,cp,ct,cx,ca⟩).1:=⟨_,rfl⟩
   obtain ⟨an,han2⟩ : ∃ an,an = ((s0.run (l.take k)).1.answer ⟨ck,co,cf,cn,cm,cp,ct,cx,ca⟩).2:=⟨_,rfl⟩
   rw [← hs1,← han2] at han HS1
   have hrl : row.length ≤ 80:=by
    have:=hP.len
    rw [iy] at this
    have h2 : (l.take k).length ≤ k:=by simp;omega
    omega
   clear hs1 han2 hP hP1 hBr hbR hcc hfine hsm hc hB1 hbl
   have hgo : True:=trivial
   go_wp2_with (first
    | (go_at_call 40;refine han.mono ?_;clear han;intro r w6 hD;obtain ⟨p6,c6,n6,rfl,HD⟩:=zX hD;clear hD;have hans:=HR1.out.2.2.1.answered HD.out;have HA6 : Aside (_):=hans;have HR6 : Aside (aW w6 W.heap.size _ row ∧ W.heap.size ≤ w6.heap.size ∧ Below W.heap.size W w6 ∧ w6.heap[W.heap.size + 1]? = some (.cells #[.slice none 0 0,.slice none 0 0,.slice none 0 0,.int .i64 0] 29)):=(by obtain ⟨z1,z2,z3,_⟩:=hans;obtain ⟨_,L6,_,_,_,_,_,hk6,_⟩:=HD.out;exact ⟨z3,Nat.le_trans hbase (Nat.le_trans (by simp) z2),HR1.out.1.trans z1,(hk6.block _ (Array.getElem?_eq_some_iff.1 HR1.out.2.1).1 (og HR1.out.2.2.1.at' HR1.out.2.1 (by decide) (by decide) (by decide))).trans HR1.out.2.1⟩);clear hans)
    | (at_builtin;clear hgo;refine Cc w6 ⟨an.err,an.n,an.text,p6,n6,c6⟩ rfl _ _ rfl W.heap.size _ row rfl HR6.out.1 (by omega) HR6.out.2.1 rfl ?_;intro v7 w7 hR7 hs7 hk7 hg7 hB7;have HH7 : Aside (Head W S s0 l (k + 1) v7 w7):=(by obtain ⟨z1,z2,z3,z4⟩:=HA6.out;obtain ⟨L7,hx7,hP7⟩:=z4 v7 w7 hR7 hs7 hk7 hg7;refine ⟨L7,_,by rw [HS1.out];exact hP7,HR6.out.2.2.1.trans hB7,(hk7 _ (Array.getElem?_eq_some_iff.1 HR6.out.2.2.2).1 (fun e => ?_)).trans HR6.out.2.2.2,hx7 _ HR1.out.2.2.2⟩;obtain ⟨_,cur,hh⟩:=HR6.out.1.own e;rw [HR6.out.2.2.2] at hh;injection hh with hh;injection hh with _ hh _;exact absurd hh (by decide));clear hR7 hs7 hk7 hg7 hB7 HA6 HR6))
   go_roundg (n - (k + 1))
   case measure => omega
   case rel => exact ⟨k + 1,by omega,by omega,by go_num,HH7.out⟩
  ·have hltz : ¬ (k : Int) < (n : Int):=by omega
   obtain rfl : k = n:=by omega
   have HT : Aside (l.take k = l):=by show _ = _;rw [HN.out.2.2];exact List.take_length
   have hI:=HI.out
   rw [Head,HT.out] at hI
   obtain ⟨L,row,hP,hBr,hbR,hxR⟩:=hI
   obtain ⟨pa,na,ac,hv,ha1,ha2,ha3,ha4⟩:=hP.lies
   subst hv
   have HAA : Aside (na = (s0.run l).2.length ∧ na ≤ ac ∧ (pa = none → ac = 0) ∧ dh wr pa (s0.run l).2):=⟨ha1,ha2,ha3,ha4⟩
   clear ha1 ha2 ha3 ha4
   go_wp2
   obtain ⟨ha1,ha2,ha3,ha4⟩:=HAA.out
   obtain ⟨d0,d1,d2⟩:=hP.at'.cells
   have hfl:=oN (hP.at'.kept (Below.refl _ _).drew)
   obtain ⟨sf,hsf⟩ : ∃ sf,sf = (s0.run l).1:=⟨_,rfl⟩
   obtain ⟨al,hal⟩ : ∃ al,al = (s0.run l).2:=⟨_,rfl⟩
   rw [← hsf] at hP hfl d2
   rw [← hal] at hP ha1 ha4
   have HSF : Aside (sf = (s0.run l).1 ∧ al = (s0.run l).2):=⟨hsf,hal⟩
   obtain ⟨e0,he0⟩ : ∃ e0,e0 = L.y.es.length:=⟨_,rfl⟩
   obtain ⟨e1,he1⟩ : ∃ e1,e1 = L.lo.length:=⟨_,rfl⟩
   obtain ⟨e2,he2⟩ : ∃ e2,e2 = sf.seen.length:=⟨_,rfl⟩
   rw [← he0] at d0
   rw [← he1] at d1
   rw [← he2] at d2
   have HP : Aside (iG W.heap.size wr S sf L (.slice pa na ac) al row ∧ Below W.heap.size W wr ∧ wr.heap[W.heap.size + 1]? = some (.cells #[.slice none 0 0,.slice none 0 0,.slice none 0 0,.int .i64 0] 29) ∧ na = al.length ∧ na ≤ ac ∧ (pa = none → ac = 0) ∧ dh wr pa al ∧ e0 = L.y.es.length ∧ e1 = L.lo.length ∧ e2 = sf.seen.length ∧ L.ex (W.heap.size + 1)):=⟨hP,hBr,hbR,ha1,ha2,ha3,ha4,he0,he1,he2,hxR⟩
   have hfl2 : Calls Tryz.prog 41 #[.pointer (some ⟨S,0,none⟩)] wr.drew (fun r w' => ∃ pf nf cf,r = .returned (.slice pf nf cf) ∧ nf = sf.reach.length ∧ Below wr.heap.size wr w'):=hfl.mono fun r w' ⟨⟨v,e,hr⟩,hB⟩ => by
    obtain ⟨p,c,hv,_,_,_,_⟩:=hr.form
    exact ⟨p,_,c,by rw [e,hv],by simp [bsTo,Sy.reach],((Below.refl _ _).drew).trans hB⟩
   have lS : S < wr.heap.size:=hP.at'.lt
   clear hP hBr hbR ha1 ha2 ha3 ha4 he0 he1 he2 hfl hsf hal HI hxR
   go_region_held3 (fun w' => w'.cell? ⟨S,0,none⟩ = some (.slice L.y.ad e0 L.y.cap) ∧ w'.cell? ⟨S,1,none⟩ = some (.slice L.pl e1 L.cl) ∧ w'.cell? ⟨S,2,none⟩ = some (.slice L.ps e2 L.sc)) (go_keep) (first | (go_at_call 41;refine hfl2.mono ?_;clear hfl2;rintro r w8 ⟨pf,nf,cf,rfl,hnf,hB8⟩;have z0:=(hB8.cell (p:=⟨S,0,none⟩) lS).trans d0;have z1:=(hB8.cell (p:=⟨S,1,none⟩) lS).trans d1;have z2:=(hB8.cell (p:=⟨S,2,none⟩) lS).trans d2;have k8 : w8.heap[W.heap.size + 1]? = some (.cells #[.slice none 0 0,.slice none 0 0,.slice none 0 0,.int .i64 0] 29):=(hB8.block _ (Array.getElem?_eq_some_iff.1 HP.out.2.2.1).1).trans HP.out.2.2.1;obtain ⟨⟨x0,x1,x2,x3⟩,y0,y1,y2,y3⟩:=bX k8;have H8 : Aside (Below wr.heap.size wr w8 ∧ w8.heap[W.heap.size + 1]? = some (.cells #[.slice none 0 0,.slice none 0 0,.slice none 0 0,.int .i64 0] 29) ∧ nf = sf.reach.length):=⟨hB8,k8,hnf⟩;have nS : ¬ S = W.heap.size + 1:=(fun e => (og HP.out.1.at' HP.out.2.2.1 (by decide) (by decide) (by decide)) (.inl e.symm));have nS2 : ¬ W.heap.size + 1 = S:=(fun e => nS e.symm);clear k8 hB8 hnf))
   all_goals
    obtain ⟨⟨x0,x1,x2,x3⟩,_⟩:=bX (yY H8.out.2.1 (.slice L.y.ad e0 L.y.cap) (.slice L.pl e1 L.cl) (.slice L.ps e2 L.sc) (.int .i64 nf))
    go_wp2
    refine bodyPost_ret (v:=.tuple #[.agg #[.slice L.y.ad e0 L.y.cap,.slice L.pl e1 L.cl,.slice L.ps e2 L.sc,.int .i64 nf],.slice pa na ac,.int .i64 0]) (by simp [results,Tryz.results16,go_sem,x0,x1,x2,x3]) rfl ?_
    obtain ⟨hP,hBr,hbR,ha1,ha2,ha3,ha4,he0,he1,he2,hxR⟩:=HP.out
    obtain ⟨hB8,hk8,hnf⟩:=H8.out
    have hK : Keep (fun b => b = W.heap.size + 1) w8 ((((w8.setCell ⟨W.heap.size + 1,0,none⟩ (.slice L.y.ad e0 L.y.cap)).setCell ⟨W.heap.size + 1,1,none⟩ (.slice L.pl e1 L.cl)).setCell ⟨W.heap.size + 1,2,none⟩ (.slice L.ps e2 L.sc)).setCell ⟨W.heap.size + 1,3,none⟩ (.int .i64 nf)):=(((Keep.set (sp:=fun b => b = W.heap.size + 1) rfl _ _ _).trans (Keep.set (sp:=fun b => b = W.heap.size + 1) rfl _ _ _)).trans (Keep.set (sp:=fun b => b = W.heap.size + 1) rfl _ _ _)).trans (Keep.set (sp:=fun b => b = W.heap.size + 1) rfl _ _ _)
    have hP8:=hP.kept hB8
    obtain ⟨L',hP9,f1,f2,f3,f4,f5,f6⟩:=hP8.write hxR hk8 (og hP8.at' hk8 (by decide) (by decide) (by decide)) hK
    obtain ⟨pa',na',ac',hv',b1,b2,b3,b4⟩:=hP9.lies
    injection hv' with v1 v2 v3
    subst v1 v2 v3
    have hd:=hP9.at'.data.now
    rw [← HSF.out.1,← HSF.out.2]
    rw [← f1] at he0
    rw [← f2] at he1
    refine ⟨L.y,L.lo,L.pl,L.cl,L.ps,L.sc,e0,e1,e2,nf,pa,na,ac,rfl,zB (Below.onto hBr hB8) (by omega) _ _ _ _,by rw [he0,f1],by rw [he1,f2],he2,hnf,hP.at'.up,hP.at'.low,?_,?_,?_,hP.at'.snil,b1,b2,b3,b4⟩
    ·have:=hd.un
     rw [f1,f2,f3,f4] at this
     exact this
    ·have:=hd.seen
     rw [f5] at this
     exact this
    ·rw [he2];exact hP.at'.scap
namespace PM
def ni (seen : List Ent) (p : ByteArray) : Prop:=p.data.toList = [] ∨ ∃ e,getL seen p.data.toList = some e ∧ e.kind = 1
def FlOK (seen : List Ent) (f : Fl) : Prop:=f.text.size ≤ 100 ∧ f.locks.length ≤ 40 ∧ ni seen f.path
structure Sy.Good (s : Sy) : Prop where
 un : (aA s.all).1 = 0
 num : ∀ n j,s.fds n = some j → n < 32
 v1 : ∀ n j,s.fds n = some j → j < s.opens.length
 v2 : ∀ (j : Nat) (op : Opn),s.opens[j]? = some op → op.file < s.files.length
 pos : ∀ n j op f,s.fF n j op f → 0 ≤ op.pos ∧ op.pos ≤ 1000
 fil : ∀ n j op f,s.fF n j op f → FlOK s.seen f
theorem kD (s : Sy) : ∀ (k i : Nat),i ∈ s.aZ k → ∃ n j,n < k ∧ s.fds n = some j ∧ s.fileOf j = i
 | 0,i,h => by simp [Sy.aZ] at h
 | k + 1,i,h => by
  rw [Sy.aZ] at h
  split at h
  ·obtain ⟨n,j,h1,h2⟩:=kD s k i h
   exact ⟨n,j,by omega,h2⟩
  ·rename_i j hj
   unfold addF at h
   split at h
   ·obtain ⟨n,j,h1,h2⟩:=kD s k i h
    exact ⟨n,j,by omega,h2⟩
   ·rcases List.mem_append.1 h with h | h
    ·obtain ⟨n,j,h1,h2⟩:=kD s k i h
     exact ⟨n,j,by omega,h2⟩
    ·simp at h
     exact ⟨k,j,by omega,hj,h.symm⟩
theorem uE (s : Sy) : ∀ (k : Nat) {n j : Nat},n < k → s.fds n = some j → s.fileOf j ∈ s.aZ k
 | 0,n,j,h,_ => by omega
 | k + 1,n,j,h,hj => by
  rw [Sy.aZ]
  by_cases e : n = k
  ·subst e
   rw [hj]
   simp only
   unfold addF
   split
   ·rename_i hm;exact hm
   ·simp
  ·have ih:=uE s k (n:=n) (j:=j) (by omega) hj
   split
   ·exact ih
   ·unfold addF
    split
    ·exact ih
    ·exact List.mem_append.2 (.inl ih)
theorem Sy.Good.leads {s : Sy} (h : s.Good) {i : Nat} (hi : i ∈ s.reach) {f : Fl} (hf : s.files[i]? = some f) : ∃ n j op,s.fF n j op f ∧ op.file = i:=by
 obtain ⟨n,j,_,hj,e⟩:=kD s 32 i hi
 have hl:=h.v1 n j hj
 have ho : s.opens[j]? = some s.opens[j]:=List.getElem?_eq_getElem hl
 have e : s.opens[j].file = i:=by rw [Sy.fileOf,ho] at e;simpa using e
 exact ⟨n,j,_,⟨hj,ho,by rw [e];exact hf⟩,e⟩
theorem Sy.fF.reach {s : Sy} (h : s.Good) {n j : Nat} {op : Opn} {f : Fl} (hl : s.fF n j op f) : op.file ∈ s.reach:=by
 have:=uE s 32 (h.num n j hl.hfd) hl.hfd
 rw [Sy.fileOf,hl.hop] at this
 show op.file ∈ s.aZ 32
 simpa using this
end PM
theorem AA {p : ByteArray} {l : List UInt8} (h : clean l = true) (e : p.data.toList = l) : p.size ≤ 80:=by rw [← e] at h;exact bM h
theorem Dw {e : Ent} {b : Bool} (h : aI e b = 0) : e.text.size ≤ 100:=by
 unfold aI at h
 split at h
 ·omega
 ·split at h
  ·omega
  ·split at h
   ·omega
   ·omega
theorem uH {seen : List Ent} (hr : Right false seen) {p : ByteArray} (h : ni seen p) : p.size ≤ 80:=by
 by_cases e : p.data.toList = []
 ·rw [dB (a:=p) (b:=⟨#[]⟩) e];decide
 ·rcases h with h | ⟨x,hx,_⟩
  ·exact absurd h e
  ·obtain ⟨h1,h2⟩:=aR e hx
   exact AA (hr.clean h1) h2.symm
theorem textOf_size {s : Sy} {f : Fl} (h : FlOK s.seen f) : (s.textOf f).size ≤ 100:=by
 unfold Sy.textOf
 split
 ·exact h.1
 ·rename_i e
  rcases h.2.2 with h | ⟨x,hx,_⟩
  ·exact absurd h e
  ·rw [hx]
   exact Dw ((aJ s.all).each x (aR e hx).1)
theorem PM.Sy.Good.fine {s : Sy} (h : s.Good) : s.Fine:=by
 have hr : Right false s.seen:=aJ s.all
 refine ⟨h.un,fun n j op f hl => ?_,fun i hi f hf => ?_⟩
 ·have h1:=h.pos n j op f hl
  have h2:=h.fil n j op f hl
  exact ⟨h1.1,h1.2,uH hr h2.2.2,textOf_size h2,by have:=h2.2.1;omega⟩
 ·obtain ⟨n,j,op,hl,_⟩:=h.leads hi hf
  exact uH hr (h.fil n j op f hl).2.2
section
variable {s : Sy}
theorem PM.Sy.Good.union (h : s.Good) {up : List Ent} {lows : List (List Ent)} (h0 : (aA (up :: lows)).1 = 0) (hp : ∀ p,ni s.seen p → ni (aD (up :: lows)) p) : (s.aC up lows).Good :=
 ⟨h0,h.num,h.v1,h.v2,fun n j op f hl => h.pos n j op f ⟨hl.hfd,hl.hop,hl.hfl⟩,fun n j op f hl => by
  have:=h.fil n j op f ⟨hl.hfd,hl.hop,hl.hfl⟩
  exact ⟨this.1,this.2.1,hp _ this.2.2⟩⟩
theorem Gf {seen : List Ent} (hr : Right false seen) {e : Ent} (he : e.p ≠ []) (hk : e.kind = 1 ∨ getL seen e.p = none) {p : ByteArray} (h : ni seen p) : ni (putL seen e) p:=by
 rcases h with h | ⟨x,hx,hx1⟩
 ·exact .inl h
 ·by_cases e1 : p.data.toList = e.p
  ·rcases hk with hk | hk
   ·right;rw [e1];exact ⟨e,rH hr.sorted he,hk⟩
   ·rw [e1,hk] at hx;cases hx
  ·right;rw [wQ hr.sorted e1];exact ⟨x,hx,hx1⟩
theorem PM.Sy.Good.put (h : s.Good) {e : Ent} (hc : aG (aA s.all).1 (aP s.seen e) (aF s.up e).length = 0) (hk : e.kind = 1 ∨ getL s.seen e.p = none) : (s.aC (aF s.up e) s.lows).Good ∧ aD (aF s.up e :: s.lows) = putL s.seen e:=by
 obtain ⟨h0,h1⟩:=kY (show aG (aA (s.up :: s.lows)).1 _ _ = 0 from hc)
 have hp:=(jE.1 hc).2.1
 have hne : e.p ≠ []:=dI (bA (sW hp).2.1)
 refine ⟨h.union h0 (fun p hp => ?_),h1⟩
 rw [h1]
 exact Gf (aJ s.all) hne hk hp
theorem PM.Sy.Good.add (h : s.Good) {way : ByteArray} {kind : Int} {text : ByteArray} (he : s.eB way kind text = 0) : (s.aC (aF s.up (s.dV way kind text)) s.lows).Good:=by
 unfold Sy.eB at he
 split at he
 ·rename_i h1;exact absurd he h1
 ·split at he
  ·cases he
  ·rename_i h2
   refine (h.put he (.inr ?_)).1
   have e : (s.dV way kind text).p = (aU s.seen false way.data.toList).2:=by simp [Sy.dV,Ent.p,baL]
   rw [e]
   simpa using h2
theorem PM.Sy.Good.files (h : s.Good) {g : Fl → Fl} {up : List Ent} {lows : List (List Ent)} (h0 : (aA (up :: lows)).1 = 0) (hg : ∀ f,FlOK s.seen f → (s.textOf f).size ≤ 100 → FlOK (aD (up :: lows)) (g f)) : ((s.dN g s.reach).aC up lows).Good:=by
 have hb : ∀ n j op f,((s.dN g s.reach).aC up lows).fF n j op f → ∃ f0,s.fF n j op f0 ∧ f = g f0:=fun n j op f hl => by
  have hf : (s.files.mapIdx fun i f => if i ∈ s.reach then g f else f)[op.file]? = some f:=hl.hfl
  rw [List.getElem?_mapIdx] at hf
  cases hf0 : s.files[op.file]? with
  | none => rw [hf0] at hf;cases hf
  | some f0 =>
   rw [hf0] at hf
   have hl0 : s.fF n j op f0:=⟨hl.hfd,hl.hop,hf0⟩
   simp only [Option.map_some,if_pos (hl0.reach h),Option.some.injEq] at hf
   exact ⟨f0,hl0,hf.symm⟩
 refine ⟨h0,h.num,h.v1,fun j op ho => ?_,fun n j op f hl => ?_,fun n j op f hl => ?_⟩
 ·have:=h.v2 j op ho
  simpa [Sy.dN,Sy.aC] using this
 ·obtain ⟨f0,hl0,_⟩:=hb n j op f hl
  exact h.pos n j op f0 hl0
 ·obtain ⟨f0,hl0,e⟩:=hb n j op f hl
  have h2:=h.fil n j op f0 hl0
  rw [e]
  exact hg f0 h2 (textOf_size h2)
theorem PM.Sy.Good.remove (h : s.Good) {kind : Int} {way : ByteArray} (he : s.gX kind way = 0) : (s.rmDo way).Good:=by
 unfold Sy.gX at he
 split at he
 ·rename_i h1;exact absurd he h1
 split at he
 ·cases he
 split at he
 ·cases he
 split at he
 ·cases he
 split at he
 ·cases he
 rename_i hq
 have hbd : (baL (s.rmQ way)).data.toList = s.rmQ way:=by simp [baL]
 have he2 : aG (aA (s.up :: s.lows)).1 (bC (aD (s.up :: s.lows)) (baL (s.rmQ way)).data.toList) (aM s.up (ay s.lows).2 (baL (s.rmQ way))).length = 0:=by rw [hbd];exact he
 obtain ⟨h0,h1⟩:=jV he2
 have hr : Right false s.seen:=aJ s.all
 unfold Sy.rmDo Sy.release
 refine h.files h0 (fun f hf ht => ?_)
 rw [h1,Sy.relF]
 split
 ·exact ⟨ht,hf.2.1,.inl rfl⟩
 ·rename_i hn
  refine ⟨hf.1,hf.2.1,?_⟩
  rcases hf.2.2 with e | ⟨x,hx,hx1⟩
  ·exact .inl e
  ·right
   rw [show aD (s.up :: s.lows) = s.seen from rfl,wM hr.sorted hn]
   exact ⟨x,hx,hx1⟩
end
theorem GX (a p : ByteArray) (k : Nat) : (a ++ p.extract k p.size).data.toList = a.data.toList ++ p.data.toList.drop k:=by
 rw [show (a ++ p.extract k p.size).data.toList = a.data.toList ++ (p.extract k p.size).data.toList from by simp,Lib.extract_to_end]
theorem D5 {a b p : ByteArray} (e : a.data.toList = b.data.toList) (ha : a.data.toList ≠ []) (h : p.data.toList = a.data.toList ∨ under p.data.toList a.data.toList = true) : b ++ p.extract a.size p.size = p:=by
 apply dB
 have hs : a.size = a.data.toList.length:=szl a
 rw [GX,← e,hs]
 rcases h with h | h
 ·rw [h];simp
 ·obtain ⟨r,hr⟩:=(aX _ _ ha).1 h
  rw [hr];simp
theorem Em {a : List UInt8} (h : a ≠ []) : under [] a = false:=by
 cases hu : under [] a with
 | false => rfl
 | true => obtain ⟨r,hr⟩:=(aX _ _ h).1 hu;simp at hr
section
variable {s : Sy}
theorem PM.Sy.Good.rename (h : s.Good) {a b : ByteArray} (he : s.fQ a b = 0) : (s.gW a b).Good:=by
 unfold Sy.fQ at he
 split at he
 ·rename_i h1;exact absurd he h1
 split at he
 ·rename_i h1;exact absurd he h1
 split at he
 ·cases he
 rename_i hq
 have ha : s.rmQ a ≠ []:=fun e => hq (.inl e)
 have hb : s.rmQ b ≠ []:=fun e => hq (.inr e)
 obtain ⟨h0,h1,h2⟩:=pq he
 have hm:=(jE.1 he).2.1
 have da : (baL (s.rmQ a)).data.toList = s.rmQ a:=by simp [baL]
 have db : (baL (s.rmQ b)).data.toList = s.rmQ b:=by simp [baL]
 have hr : Right false s.seen:=aJ s.all
 unfold Sy.gW Sy.renamed
 by_cases e : (baL (s.rmQ a)).data.toList = (baL (s.rmQ b)).data.toList
 ·rw [if_pos e]
  unfold Sy.carry
  refine h.files h0 (fun f hf ht => ?_)
  rw [h1 e]
  have : carF (baL (s.rmQ a)) (baL (s.rmQ b)) f = f:=by
   unfold carF
   split
   ·rename_i hc
    rw [D5 e (by rw [da];exact ha) hc]
   ·rfl
  rw [this]
  exact hf
 ·rw [if_neg e]
  obtain ⟨hp,hw⟩:=h2 e
  have hok:=tH hm e
  have hR:=hok.yQ hp hw
  have hcomb : ((s.release (baL (s.rmQ b))).carry (baL (s.rmQ a)) (baL (s.rmQ b))) = s.dN (fun f => carF (baL (s.rmQ a)) (baL (s.rmQ b)) (s.relF (baL (s.rmQ b)) f)) s.reach:=by
   have hrr : (s.release (baL (s.rmQ b))).reach = s.reach:=qQ rfl rfl 32
   unfold Sy.carry
   rw [hrr]
   unfold Sy.release Sy.dN
   simp only [List.mapIdx_mapIdx]
   congr 1
   apply List.ext_getElem?
   intro k
   rw [List.getElem?_mapIdx,List.getElem?_mapIdx]
   cases s.files[k]? with
   | none => rfl
   | some x =>
    simp only [Option.map_some,Function.comp]
    by_cases hk : k ∈ s.reach
    ·simp [hk]
    ·simp [hk]
  rw [hcomb]
  refine h.files h0 (fun f hf ht => ?_)
  have hnil : ∀ g : Fl,g.path.data.toList = [] → carF (baL (s.rmQ a)) (baL (s.rmQ b)) g = g:=fun g hg => by
   unfold carF
   rw [if_neg]
   rintro (h | h)
   ·rw [hg,da] at h;exact ha h.symm
   ·rw [hg,da,Em ha] at h;cases h
  unfold Sy.relF
  split
  ·rw [hnil _ rfl]
   exact ⟨ht,hf.2.1,.inl rfl⟩
  ·rename_i hn
   rcases hf.2.2 with e0 | ⟨x,hx,hx1⟩
   ·rw [hnil _ e0];exact ⟨hf.1,hf.2.1,.inl e0⟩
   ·by_cases e0 : f.path.data.toList = []
    ·rw [hnil _ e0];exact ⟨hf.1,hf.2.1,.inl e0⟩
    ·obtain ⟨hx2,hx3⟩:=aR e0 hx
     have hxp : x.path = f.path:=dB hx3
     unfold carF
     split
     ·rename_i hc
      refine ⟨hf.1,hf.2.1,.inr ⟨mvE (baL (s.rmQ a)) (baL (s.rmQ b)) x,?_,hx1⟩⟩
      have hi : inM (baL (s.rmQ a)).data.toList x = true:=by
       unfold inM
       rcases hc with hc | hc
       ·simp [hx3,hc]
       ·simp [hx3,hc]
      have hg:=hok.goes hp hx2 hi
      have hpp : (mvE (baL (s.rmQ a)) (baL (s.rmQ b)) x).p = (baL (s.rmQ b) ++ f.path.extract (baL (s.rmQ a)).size f.path.size).data.toList:=by
       rw [← hxp];rfl
      rw [← hpp]
      exact iw hR.sorted hg (hR.ne hg)
     ·rename_i hc
      refine ⟨hf.1,hf.2.1,.inr ⟨x,?_,hx1⟩⟩
      have hi : inM (baL (s.rmQ a)).data.toList x = false:=by
       unfold inM
       rw [hx3]
       cases hd : (decide (f.path.data.toList = (baL (s.rmQ a)).data.toList) || under f.path.data.toList (baL (s.rmQ a)).data.toList) with
       | false => rfl
       | true =>
        rcases Bool.or_eq_true_iff.1 hd with hd | hd
        ·exact absurd (.inl (by simpa using hd)) hc
        ·exact absurd (.inr hd) hc
      have hg:=hok.stays hp hx2 (by rw [hx3];exact hn) hi
      rw [← hx3]
      exact iw hR.sorted hg (hR.ne hg)
end
theorem DT {seen : List Ent} (hr : Right false seen) {a n : List UInt8} {r : List (List UInt8)} {h : Nat} (ha : ((getL seen a).getD zeroE).kind ≠ 3) : ((getL seen (goL seen true a n r h).2.1).getD zeroE).kind ≠ 3:=by
 unfold goL
 split
 ·exact ha
 ·rename_i hd
  split
  ·show ((getL seen (aB a)).getD zeroE).kind ≠ 3
   have hd : bD seen a = 0:=by simpa using hd
   rcases jI.1 hd with e | ⟨d,hd1,hd2,_,_⟩
   ·rw [e,show aB [] = [] from by decide,dW];decide
   ·rcases hr.dir d hd1 with e | ⟨d',h1,h2,h3⟩
    ·rw [← hd2,e,dW];decide
    ·rw [← hd2,← h2,iw hr.sorted h1 (hr.ne h1)]
     show d'.kind ≠ 3
     rw [h3];decide
  ·split
   ·split
    ·exact ha
    ·split
     ·exact ha
     ·show ((getL seen (if _ then [] else a)).getD zeroE).kind ≠ 3
      split
      ·rw [dW];decide
      ·exact ha
   ·rename_i hk
    intro e
    exact hk ⟨e,.inr rfl⟩
theorem sQ {seen : List Ent} (hr : Right false seen) : ∀ (g : Nat) (a : List UInt8) (l : List (List UInt8)) (h : Nat),((getL seen a).getD zeroE).kind ≠ 3 → ((getL seen (iD seen true g a l h).2).getD zeroE).kind ≠ 3
 | 0,a,l,h,ha => by rw [iD];exact ha
 | g + 1,a,[],h,ha => by rw [iD];exact ha
 | g + 1,a,n :: r,h,ha => by
  rw [iD]
  split
  ·exact sQ hr g _ _ _ (DT hr ha)
  ·rw [dW];decide
theorem Au {seen : List Ent} (hr : Right false seen) (way : List UInt8) : ((getL seen (aU seen true way).2).getD zeroE).kind ≠ 3:=by
 unfold aU
 split
 ·rw [dW];decide
 split
 ·rw [dW];decide
 split
 ·rw [dW];decide
 ·exact sQ hr _ _ _ _ (by rw [dW];decide)
theorem Cz {seen : List Ent} (hr : Right false seen) {e : Ent} (he : e ∈ seen) : e.kind = 1 ∨ e.kind = 2 ∨ e.kind = 3:=by
 have h:=hr.each e he
 unfold aI at h
 split at h
 ·omega
 ·rename_i h1
  simp at h1
  by_cases a : e.kind = 1
  ·exact .inl a
  by_cases b : e.kind = 2
  ·exact .inr (.inl b)
  by_cases c : e.kind = 3
  ·exact .inr (.inr c)
  exact absurd (h1 a c) b
section
variable {s : Sy}
theorem PM.Sy.Good.ready (h : s.Good) {cn : Int} {cp : ByteArray} (he : s.gH (s.opL cn cp).2 cn = 0) : (s.aC (s.iq (s.opL cn cp).2 cn) s.lows).Good ∧ ni (s.aC (s.iq (s.opL cn cp).2 cn) s.lows).seen (baL (s.opL cn cp).2):=by
 have hr : Right false s.seen:=aJ s.all
 have hl : (bits BinOp.and IntKind.i64 cn 16 == 0) = true → ((getL s.seen (s.opL cn cp).2).getD zeroE).kind ≠ 3:=fun h16 => by
  unfold Sy.opL;rw [h16];exact Au hr _
 generalize (s.opL cn cp).2 = q at he hl ⊢
 have hbd : (baL q).data.toList = q:=by simp [baL]
 unfold Sy.gH at he
 split at he
 ·cases he
 split at he
 ·cases he
 rename_i h1 h2
 split at he
 ·cases he
 rename_i h3
 unfold Sy.iq
 split at he
 ·rename_i has
  rw [if_pos has]
  refine ⟨h,?_⟩
  have h16 : (bits BinOp.and IntKind.i64 cn 16 == 0) = true:=by
   cases hb : (bits BinOp.and IntKind.i64 cn 16 == 0) with
   | true => rfl
   | false => exact absurd ⟨has.1,by simpa [bne] using hb⟩ h2
  cases hg : getL s.seen q with
  | none => have:=has.1;rw [hg] at this;cases this
  | some e =>
   have hl:=hl h16
   rw [hg] at hl h3
   have hl : e.kind ≠ 3:=hl
   have h3 : ¬ e.kind = 2:=fun e2 => h3 ⟨rfl,e2⟩
   by_cases hq : q = []
   ·rw [hq,dW] at hg;cases hg;exact absurd rfl h3
   ·right
    rw [hbd]
    refine ⟨e,hg,?_⟩
    rcases Cz hr (aR hq hg).1 with k | k | k
    ·exact k
    ·exact absurd k h3
    ·exact absurd k hl
 ·rename_i has
  rw [if_neg has]
  obtain ⟨g1,g2⟩:=h.put he (.inl rfl)
  refine ⟨g1,.inr ⟨⟨baL q,1,⟨#[]⟩,false⟩,?_,rfl⟩⟩
  have hne : (⟨baL q,1,⟨#[]⟩,false⟩ : Ent).p ≠ []:=dI (bA (sW (jE.1 he).2.1).2.1)
  show getL (aD (aF s.up ⟨baL q,1,⟨#[]⟩,false⟩ :: s.lows)) (baL q).data.toList = _
  rw [g2]
  exact rH hr.sorted hne
theorem PM.Sy.Good.opened (h : s.Good) {q : ByteArray} {use : Int} {n : Nat} (hn : n < 32) (hq : ni s.seen q) : (s.opened q use n).Good:=by
 have key : ∀ (s1 : Sy) (i : Nat),s1.Good → (∃ f,s1.files[i]? = some f ∧ FlOK s1.seen f) → ((s1.kI ⟨i,use,0⟩).gY n (some s1.opens.length)).Good:=fun s1 i g ⟨f0,hf0,hk0⟩ => by
  have hi:=(List.getElem?_eq_some_iff.1 hf0).1
  have hb : ∀ m j op f,((s1.kI ⟨i,use,0⟩).gY n (some s1.opens.length)).fF m j op f → (op = ⟨i,use,0⟩ ∧ f = f0) ∨ s1.fF m j op f:=fun m j op f hl => by
   have h1 : (if m = n then some s1.opens.length else s1.fds m) = some j:=hl.hfd
   have h2 : (s1.opens ++ [⟨i,use,0⟩])[j]? = some op:=hl.hop
   have h3 : s1.files[op.file]? = some f:=hl.hfl
   by_cases e : m = n
   ·rw [if_pos e] at h1
    cases h1
    rcases iL h2 with ⟨_,e2⟩ | ⟨hl,_⟩
    ·left
     subst e2
     exact ⟨rfl,by rw [hf0] at h3;cases h3;rfl⟩
    ·omega
   ·rw [if_neg e] at h1
    have hj:=g.v1 m j h1
    rcases iL h2 with ⟨e2,_⟩ | ⟨_,h2⟩
    ·omega
    ·exact .inr ⟨h1,h2,h3⟩
  refine ⟨g.un,fun m j hm => ?_,fun m j hm => ?_,fun j op ho => ?_,fun m j op f hl => ?_,fun m j op f hl => ?_⟩
  ·have h1 : (if m = n then some s1.opens.length else s1.fds m) = some j:=hm
   by_cases e : m = n
   ·omega
   ·rw [if_neg e] at h1;exact g.num m j h1
  ·have h1 : (if m = n then some s1.opens.length else s1.fds m) = some j:=hm
   show j < (s1.opens ++ [_]).length
   simp
   by_cases e : m = n
   ·rw [if_pos e] at h1;cases h1;omega
   ·rw [if_neg e] at h1;have:=g.v1 m j h1;omega
  ·rcases iL (show (s1.opens ++ [⟨i,use,0⟩])[j]? = some op from ho) with ⟨_,e⟩ | ⟨_,ho⟩
   ·rw [e];exact hi
   ·exact g.v2 j op ho
  ·rcases hb m j op f hl with ⟨e,_⟩ | hl
   ·rw [e];exact ⟨Int.le_refl _,by show (0 : Int) ≤ 1000;decide⟩
   ·exact g.pos m j op f hl
  ·rcases hb m j op f hl with ⟨_,e⟩ | hl
   ·rw [e];exact hk0
   ·exact g.fil m j op f hl
 unfold Sy.opened Sy.fileAt
 cases ho : s.oh q with
 | some i =>
  have hi : i ∈ s.reach:=List.mem_of_find?_eq_some ho
  have hlt : i < s.files.length:=by
   obtain ⟨m,j,_,hj,e⟩:=kD s 32 i hi
   have hl:=h.v1 m j hj
   have h2:=h.v2 j _ (List.getElem?_eq_getElem hl)
   rw [Sy.fileOf,List.getElem?_eq_getElem hl] at e
   simp at e
   omega
  obtain ⟨m,j,op,hl,_⟩:=h.leads hi (List.getElem?_eq_getElem hlt)
  exact key s i h ⟨_,List.getElem?_eq_getElem hlt,h.fil m j op _ hl⟩
 | none =>
  have g : (s.kC ⟨q,⟨#[]⟩,[]⟩).Good:=by
   have hb : ∀ m j op f,(s.kC ⟨q,⟨#[]⟩,[]⟩).fF m j op f → s.fF m j op f:=fun m j op f hl => by
    refine ⟨hl.hfd,hl.hop,?_⟩
    have h2:=h.v2 j op hl.hop
    rcases iL (show (s.files ++ [_])[op.file]? = some f from hl.hfl) with ⟨e,_⟩ | ⟨_,h3⟩
    ·omega
    ·exact h3
   exact ⟨h.un,h.num,h.v1,fun j op ho => by have:=h.v2 j op ho;show op.file < (s.files ++ [_]).length;simp;omega,fun m j op f hl => h.pos m j op f (hb m j op f hl),fun m j op f hl => h.fil m j op f (hb m j op f hl)⟩
  refine key (s.kC ⟨q,⟨#[]⟩,[]⟩) s.files.length g ⟨⟨q,⟨#[]⟩,[]⟩,?_,⟨by show (ByteArray.mk #[]).size ≤ 100;decide,Nat.zero_le _,hq⟩⟩
  show (s.files ++ [_])[s.files.length]? = _
  simp
theorem PM.Sy.Good.open (h : s.Good) {o : Nat} {cn : Int} {cp : ByteArray} (ho : o < 4) (he : s.gu o cn cp = 0) : (s.iY o cn cp).Good:=by
 unfold Sy.gu at he
 split at he
 ·cases he
 split at he
 ·cases he
 rename_i hfr
 split at he
 ·rename_i h1;exact absurd he h1
 obtain ⟨g1,g2⟩:=h.ready he
 unfold Sy.iY
 refine g1.opened ?_ g2
 rcases tF s o with e | ⟨k,hk,e,_⟩
 ·omega
 ·rw [e];show o * 8 + k < 32;omega
theorem PM.Sy.Good.number (h : s.Good) {n : Nat} {j : Option Nat} (hn : n < 32) (hj : ∀ x,j = some x → ∃ m,s.fds m = some x) : (s.gY n j).Good:=by
 have hb : ∀ m x,(s.gY n j).fds m = some x → ∃ m',s.fds m' = some x:=fun m x hm => by
  have h1 : (if m = n then j else s.fds m) = some x:=hm
  by_cases e : m = n
  ·rw [if_pos e] at h1;exact hj x h1
  ·rw [if_neg e] at h1;exact ⟨m,h1⟩
 refine ⟨h.un,fun m x hm => ?_,fun m x hm => ?_,h.v2,fun m x op f hl => ?_,fun m x op f hl => ?_⟩
 ·have h1 : (if m = n then j else s.fds m) = some x:=hm
  by_cases e : m = n
  ·omega
  ·rw [if_neg e] at h1;exact h.num m x h1
 ·obtain ⟨m',h'⟩:=hb m x hm
  exact h.v1 m' x h'
 ·obtain ⟨m',h'⟩:=hb m x hl.hfd
  exact h.pos m' x op f ⟨h',hl.hop,hl.hfl⟩
 ·obtain ⟨m',h'⟩:=hb m x hl.hfd
  exact h.fil m' x op f ⟨h',hl.hop,hl.hfl⟩
theorem PM.Sy.Good.file (h : s.Good) {i : Nat} {f' : Fl} (hf : FlOK s.seen f') : (s.setF i f').Good:=by
 have hb : ∀ m j op f,(s.setF i f').fF m j op f → (∃ f0,s.fF m j op f0) ∧ (f = f' ∨ s.fF m j op f):=fun m j op f hl => by
  have h3 : (s.files.set i f')[op.file]? = some f:=hl.hfl
  have hlt : op.file < s.files.length:=by simpa using (List.getElem?_eq_some_iff.1 h3).1
  refine ⟨⟨_,hl.hfd,hl.hop,List.getElem?_eq_getElem hlt⟩,?_⟩
  rcases mK h3 with ⟨_,e,_⟩ | ⟨_,h3⟩
  ·exact .inl e
  ·exact .inr ⟨hl.hfd,hl.hop,h3⟩
 refine ⟨h.un,h.num,h.v1,fun j op ho => by simpa [Sy.setF] using h.v2 j op ho,fun m j op f hl => ?_,fun m j op f hl => ?_⟩
 ·obtain ⟨⟨f0,h0⟩,_⟩:=hb m j op f hl
  exact h.pos m j op f0 h0
 ·rcases (hb m j op f hl).2 with e | hl
  ·rw [e];exact hf
  ·exact h.fil m j op f hl
theorem PM.Sy.Good.place (h : s.Good) {j : Nat} {op : Opn} {p : Int} (ho : s.opens[j]? = some op) (hp : 0 ≤ p ∧ p ≤ 1000) : (s.setO j { op with pos:=p }).Good:=by
 have hb : ∀ m j2 op2 f,(s.setO j { op with pos:=p }).fF m j2 op2 f → (op2.pos = p ∧ s.fF m j2 op f) ∨ s.fF m j2 op2 f:=fun m j2 op2 f hl => by
  have h2 : (s.opens.set j { op with pos:=p })[j2]? = some op2:=hl.hop
  rcases mK h2 with ⟨e1,e2,_⟩ | ⟨_,h2⟩
  ·left
   subst e1 e2
   exact ⟨rfl,hl.hfd,ho,hl.hfl⟩
  ·exact .inr ⟨hl.hfd,h2,hl.hfl⟩
 refine ⟨h.un,h.num,fun m x hm => by simpa [Sy.setO] using h.v1 m x hm,fun j2 op2 ho2 => ?_,fun m j2 op2 f hl => ?_,fun m j2 op2 f hl => ?_⟩
 ·rcases mK (show (s.opens.set j { op with pos:=p })[j2]? = some op2 from ho2) with ⟨_,e,_⟩ | ⟨_,h2⟩
  ·rw [e];exact h.v2 j op ho
  ·exact h.v2 j2 op2 h2
 ·rcases hb m j2 op2 f hl with ⟨e,_⟩ | hl
  ·rw [e];exact hp
  ·exact h.pos m j2 op2 f hl
 ·rcases hb m j2 op2 f hl with ⟨_,hl⟩ | hl
  ·exact h.fil m j2 op f hl
  ·exact h.fil m j2 op2 f hl
theorem PM.Sy.Good.keep (h : s.Good) {n j : Nat} {op : Opn} {f : Fl} {t : ByteArray} (hl : s.fF n j op f) (ht : t.size ≤ 100) (he : s.bq f t = 0) : (s.eO op.file f t).Good:=by
 have hf:=h.fil n j op f hl
 unfold Sy.bq at he
 unfold Sy.eO
 split
 ·exact h
 ·rename_i h1
  rw [if_neg h1] at he
  split
  ·exact h.file ⟨ht,hf.2.1,hf.2.2⟩
  ·rename_i h2
   rw [if_neg h2] at he
   exact (h.put he (.inl rfl)).1
theorem Fz {free : Bool} {l : List LK.Lk} {x : LK.Lk} (hw : ∃ r : Int × List LK.Lk,LK.KM.jF free l x r.1 r.2) (h : (fC free l x).1 = 0) : (fC free l x).2.length ≤ 40:=by
 obtain ⟨r,hr⟩:=hw
 obtain ⟨e1,e2⟩:=wB hr
 rw [← e1] at h
 rw [← e2]
 rcases hr with ⟨a,b,c⟩ | ⟨_,_,_,b,c⟩ | ⟨_,_,m',_,_,⟨_,b,c⟩ | ⟨b,_,c⟩⟩
 ·rw [c];simp
 ·rw [c];simp
 ·rw [c];simp
 ·rw [c];exact b
theorem vN {free : Bool} {l : List LK.Lk} {x : LK.Lk} (h : (fC free l x).1 = 0) : (fC free l x).2.length ≤ 40:=by
 by_cases hw : ∃ r : Int × List LK.Lk,LK.KM.jF free l x r.1 r.2
 ·exact Fz hw h
 ·rw [fC,dif_neg hw];simp
theorem PM.Sy.Good.on (h : s.Good) {ow k : Nat} {ck cn cm : Int} {cx : ByteArray} {ca : Bool} {j : Nat} {op : Opn} {f : Fl} (ho : ow < 4) (hk : k < 8) (hl : s.fF (ow * 8 + k) j op f) (he : (s.onR ow k ck cn cm cx ca j op f).1 = 0) : (s.onR ow k ck cn cm cx ca j op f).2.1.Good:=by
 have hf:=h.fil _ _ _ _ hl
 have hp:=h.pos _ _ _ _ hl
 have ht:=textOf_size hf
 unfold Sy.onR at he ⊢
 split
 ·refine (h.number (by omega) (fun x hx => by cases hx)).file ⟨hf.1,Nat.le_trans (List.length_filter_le _ _) hf.2.1,hf.2.2⟩
 rename_i e2
 rw [if_neg e2] at he
 split
 ·rename_i e13
  rw [if_pos e13] at he
  have hR : ¬ s.aQ ow < 0:=by
   intro hR;simp only [if_pos hR] at he;cases he
  refine h.number ?_ (fun x hx => by cases hx;exact ⟨_,hl.hfd⟩)
  rcases tF s ow with e | ⟨k',hk',e,_⟩
  ·omega
  ·rw [e];show ow * 8 + k' < 32;omega
 rename_i e13
 rw [if_neg e13] at he
 split
 ·rename_i e5
  rw [if_pos e5] at he
  have he : qB cn = 0:=he
  unfold qB at he
  split at he
  ·cases he
  ·exact h.place hl.hop (by omega)
 rename_i e5
 rw [if_neg e5] at he
 split
 ·rename_i e14
  rw [if_pos e14] at he
  exact h.file ⟨hf.1,vN he,hf.2.2⟩
 rename_i e14
 rw [if_neg e14] at he
 split
 ·rename_i e15
  rw [if_pos e15] at he
  exact h.file ⟨hf.1,vN he,hf.2.2⟩
 rename_i e15
 rw [if_neg e15] at he
 split
 ·refine h.place hl.hop ⟨by omega,?_⟩
  unfold jM
  simp only [ByteArray.size_extract]
  omega
 rename_i e3
 rw [if_neg e3] at he
 split
 ·rename_i e4
  rw [if_pos e4] at he
  have he : s.lX op f cx = 0:=he
  have hat : 0 ≤ s.wrAt op f ∧ s.wrAt op f ≤ 1000:=by unfold Sy.wrAt;split <;> omega
  unfold Sy.lX at he
  split at he
  ·cases he
  split at he
  ·cases he
  rename_i hm
  show (s.wrDo j op f cx).Good
  unfold Sy.wrDo
  have htw : (eF (s.textOf f) cx (s.wrAt op f)).size ≤ 100:=by
   unfold eF
   split
   ·exact ht
   ·rename_i hx
    have h1:=iQ (s.textOf f) (s.wrAt op f) hat.1
    have h2 : ¬ 100 < s.wrAt op f + cx.size:=fun h2 => hm ⟨hx,h2⟩
    rw [ByteArray.size_append,ByteArray.size_append,ByteArray.size_extract]
    omega
  refine (h.keep hl htw he).place (by rw [lK];exact hl.hop) ⟨by omega,?_⟩
  by_cases hx : cx.data.toList = []
  ·have : cx.size = 0:=by have h9:=szl cx;rw [hx,List.length_nil] at h9;omega
   omega
  ·have h2 : ¬ 100 < s.wrAt op f + cx.size:=fun h2 => hm ⟨hx,h2⟩
   omega
 rename_i e4
 rw [if_neg e4] at he
 have he : s.jO op f cn = 0:=he
 unfold Sy.jO at he
 split at he
 ·cases he
 split at he
 ·cases he
 rename_i hn
 have:=iQ (s.textOf f) cn (by omega)
 exact h.keep hl (by omega) he
theorem PM.Sy.Good.num' (h : s.Good) {ow : Nat} {ck cf cn cm : Int} {cx : ByteArray} {ca : Bool} (ho : ow < 4) (he : (s.numR ow ck cf cn cm cx ca).1 = 0) : (s.numR ow ck cf cn cm cx ca).2.1.Good:=by
 unfold Sy.numR at he ⊢
 split
 ·exact h
 ·rename_i hf
  rw [if_neg hf] at he
  split
  ·exact h
  ·rename_i j hj
   simp only [hj] at he
   split
   ·exact h
   ·rename_i op hop
    simp only [hop] at he
    split
    ·exact h
    ·rename_i f hfl
     simp only [hfl] at he
     exact h.on ho (by omega) ⟨hj,hop,hfl⟩ he
theorem PM.Sy.Good.step (h : s.Good) {c : Cl} (he : (s.eT c).1 = 0) : (s.eT c).2.1.Good:=by
 unfold Sy.eT at he ⊢
 split
 ·exact h
 rename_i e
 rw [if_neg e] at he
 split
 ·exact h
 rename_i hw
 rw [if_neg hw] at he
 have ho : c.owner.toNat < 4:=by omega
 split
 ·rename_i e
  rw [if_pos e] at he
  exact h.open ho he
 rename_i e
 rw [if_neg e] at he
 split
 ·rename_i e
  rw [if_pos e] at he
  exact h.add he
 rename_i e
 rw [if_neg e] at he
 split
 ·rename_i e
  rw [if_pos e] at he
  exact h.add he
 rename_i e
 rw [if_neg e] at he
 split
 ·rename_i e
  rw [if_pos e] at he
  exact h.remove he
 rename_i e
 rw [if_neg e] at he
 split
 ·rename_i e
  rw [if_pos e] at he
  exact h.rename he
 rename_i e
 rw [if_neg e] at he
 split
 ·exact h
 rename_i e
 rw [if_neg e] at he
 split
 ·exact h
 rename_i e
 rw [if_neg e] at he
 exact h.num' ho he
theorem PM.Sy.Good.answer (h : s.Good) (c : Cl) : (s.answer c).1.Good:=by
 unfold Sy.answer
 split
 ·rename_i e;exact h.step e
 ·exact h
end
theorem uN : ∀ (l : List Cl) {s : Sy},s.Good → (s.run l).1.Good
 | [],s,h => h
 | c :: r,s,h => uN r (h.answer c)
theorem good_start {up : List Ent} {lows : List (List Ent)} (h : (aA (up :: lows)).1 = 0) : (aK up lows).Good :=
 ⟨h,fun n j hj => by simp [aK] at hj,fun n j hj => by simp [aK] at hj,fun j op ho => by simp [aK] at ho,fun n j op f hl => by have:=hl.hfd;simp [aK] at this,fun n j op f hl => by have:=hl.hfd;simp [aK] at this⟩
theorem nV (y : Lay) (lo : List Lay) (pl : Option Addr) (cl : Nat) (pc : Option Addr) (cc : Nat) (l : List Cl) (W : World) (hU : UnOK W y lo pl cl) (hg : Gl W.heap.size W) (h0 : (aA (y.es :: lo.map (·.es))).1 = 0) (hn : l.length ≤ 80) (hC : gM W pc l) (hs : ∀ c ∈ l,c.Small) :
  Calls Tryz.prog 16 #[.agg #[.slice y.ad y.es.length y.cap,.slice pl lo.length cl],.slice pc l.length cc] W (mh ((aK y.es (lo.map (·.es))).run l).1 ((aK y.es (lo.map (·.es))).run l).2 W) :=
 I5 y lo pl cl pc cc l W hU hg h0 hn hC hs (fun k _ => (uN _ (good_start h0)).fine)
end Go.Proofs.YthfeoiffoeagkaaGreatDoor
