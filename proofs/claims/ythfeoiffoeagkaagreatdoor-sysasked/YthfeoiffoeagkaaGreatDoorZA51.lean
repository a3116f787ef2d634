/-
  The statement UnionLower: it answers true, and writes nothing that was there.
-/
import Derived.Test.YthfeoiffoeagkaaGreatDoorZA21
namespace Go.Proofs.YthfeoiffoeagkaaGreatDoor
open Go.RowKit PM Go.Sort
set_option linter.unusedVariables false
set_option maxHeartbeats 2000000 in
set_option maxRecDepth 100000 in
theorem Kt (es:List Ent) (els:List (List Ent)) (a a':Option Addr) (c c':Nat) (ls ls':List Lay) (pl pl':Option Addr) (cl cl':Nat) (w:World) (hL:Lies w a es) (hL':Lies w a' es) (h80:es.length<4611686018427387904) (hT:dw w pl ls) (hT':dw w pl' ls') (hO:∀ x∈ls,fQ w x) (hO':∀ x∈ls',fQ w x) (h1:ls.map (·.es)=els) (h2:ls'.map (·.es)=els) (hn:els.length≤80) :
  sH 25 #[.agg #[.slice a es.length c,.slice pl ls.length cl],.agg #[.slice a' es.length c',.slice pl' ls'.length cl']] w:=by
 have hsu:=fun W (hB:Below w.heap.size w W)=>Kc es a a' c c' W (hL.kept hB) (hL'.kept hB) h80
 obtain ⟨k,hk⟩:∃ k,k=es.length:=⟨_,rfl⟩
 have hl1:ls.length=els.length:=by rw [← h1,List.length_map]
 have hl2:ls'.length=els.length:=by rw [← h2,List.length_map]
 rw [← hk] at hsu ⊢
 rw [hl1,hl2]
 obtain ⟨n,hn'⟩:∃ n,n=els.length:=⟨_,rfl⟩
 rw [← hn'] at hn ⊢
 have HT:Aside (dw w pl ls∧dw w pl' ls'∧(∀ x∈ls,fQ w x)∧(∀ x∈ls',fQ w x)∧ls.map (·.es)=els∧ls'.map (·.es)=els∧n=els.length):=⟨hT,hT',hO,hO',h1,h2,hn'⟩
 have HB0:Aside (Below (w.heap.size+2) ((w.alloc (.cells #[.slice a k c,.slice pl n cl] 26)).alloc (.cells #[.slice a' k c',.slice pl' n cl'] 26)) ((w.alloc (.cells #[.slice a k c,.slice pl n cl] 26)).alloc (.cells #[.slice a' k c',.slice pl' n cl'] 26))):=Below.refl _ _
 clear hL hL' hT hT' hO hO' h1 h2 hn' hk hl1 hl2
 go_enter Tryz.func25,Tryz.ntmps25
 go_wp2_with (go_at_call 23;refine (hsu _ (gG HB0.out)).mono ?_;clear hsu;rintro r w1 ⟨rfl,hN1⟩;have HB1:Aside (Below (w.heap.size+2) ((w.alloc (.cells #[.slice a k c,.slice pl n cl] 26)).alloc (.cells #[.slice a' k c',.slice pl' n cl'] 26)) w1):=up2 HB0.out hN1;obtain ⟨⟨u0,u1⟩,_⟩:=box2 HB1.out;obtain ⟨⟨v0,v1⟩,_⟩:=res2 HB1.out;clear hN1)
 go_loopg [24] n (fun gg s24 wr=>∃ j:Nat,j≤n∧n-j≤gg∧s24=.int .i64 j∧Aside (Below (w.heap.size+2) ((w.alloc (.cells #[.slice a k c,.slice pl n cl] 26)).alloc (.cells #[.slice a' k c',.slice pl' n cl'] 26)) wr))
 case atStart=>exact ⟨0,Nat.zero_le _,by omega,rfl,HB1.out⟩
 case round =>
  obtain ⟨j,hj,hgg,rfl,BW⟩:=hrel
  by_cases hlt:j<n
  ·have hltz:(j:Int)<(n:Int):=by omega
   have hjw:IntKind.i64.wrap (j:Int)=(j:Int):=by rw [IntKind.wrap_i64];omega
   clear u0 u1 v0 v1
   obtain ⟨⟨u0,u1⟩,_⟩:=box2 BW.out
   obtain ⟨⟨v0,v1⟩,_⟩:=res2 BW.out
   have hBw:=gG BW.out
   obtain ⟨x,hx⟩:∃ x,ls[j]?=some x:=⟨_,List.getElem?_eq_getElem (by have h:=HT.out;have:=congrArg List.length h.2.2.2.2.1;rw [List.length_map] at this;omega)⟩
   obtain ⟨y,hy⟩:∃ y,ls'[j]?=some y:=⟨_,List.getElem?_eq_getElem (by have h:=HT.out;have:=congrArg List.length h.2.2.2.2.2.1;rw [List.length_map] at this;omega)⟩
   have hxy:y.es=x.es:=by
    have g1:els[j]?=some x.es:=by rw [← HT.out.2.2.2.2.1,List.getElem?_map,hx];rfl
    have g2:els[j]?=some y.es:=by rw [← HT.out.2.2.2.2.2.1,List.getElem?_map,hy];rfl
    rw [g1] at g2
    exact (Option.some.inj g2).symm
   have hox:=HT.out.2.2.1 x (List.mem_of_getElem? hx)
   have hoy:=HT.out.2.2.2.1 y (List.mem_of_getElem? hy)
   have hsm:=fun W (hB:Below w.heap.size w W)=>Kc x.es x.ad y.ad x.cap y.cap W (hox.lies.kept hB) (hxy ▸ hoy.lies.kept hB) hox.small
   rcases HT.out.1 with h0 | ⟨b,off,rfl,hb,hc⟩
   ·rw [h0] at hx;simp at hx
   rcases HT.out.2.1 with h0 | ⟨b',off',rfl,hb',hc'⟩
   ·rw [h0] at hy;simp at hy
   have c0:wr.cell? ⟨b,off+j,none⟩=some (.slice x.ad x.es.length x.cap):=(hBw.cell (p:=⟨b,off+j,none⟩) hb).trans (hc j x hx)
   have c1:wr.cell? ⟨b',off'+j,none⟩=some (.slice y.ad x.es.length y.cap):=by rw [← hxy];exact (hBw.cell (p:=⟨b',off'+j,none⟩) hb').trans (hc' j y hy)
   have hl0:=block_lt_of_cell u1
   simp only at hl0
   have hl1:=block_lt_of_cell v1
   simp only at hl1
   have hl2:=block_lt_of_cell c0
   simp only at hl2
   have hl3:=block_lt_of_cell c1
   simp only at hl3
   clear hc hc' hx hy hox hoy hxy u0 v0 HT
   generalize x.es.length=xn at c0 c1 hsm
   go_wp2
   go_region_held3 (fun w'=>w'.cell? ⟨w.heap.size,1,none⟩=some (.slice (some ⟨b,off,none⟩) n cl)∧w'.cell? ⟨w.heap.size+1,1,none⟩=some (.slice (some ⟨b',off',none⟩) n cl')∧w'.cell? ⟨b,off+j,none⟩=some (.slice x.ad xn x.cap)∧w'.cell? ⟨b',off'+j,none⟩=some (.slice y.ad xn y.cap)) (go_keep) (first
    | (go_at_call 23;refine (hsm _ hBw.drew).mono ?_;clear hsm;rintro r w2 ⟨rfl,hN2⟩;have BW2:Aside (Below (w.heap.size+2) ((w.alloc (.cells #[.slice a k c,.slice (some ⟨b,off,none⟩) n cl] 26)).alloc (.cells #[.slice a' k c',.slice (some ⟨b',off',none⟩) n cl'] 26)) w2):=up2 BW.out (((Below.refl _ _).drew).trans hN2);have t0:=(hN2.cell (p:=⟨w.heap.size,1,none⟩) hl0).trans u1;have t1:=(hN2.cell (p:=⟨w.heap.size+1,1,none⟩) hl1).trans v1;have t2:=(hN2.cell (p:=⟨b,off+j,none⟩) hl2).trans c0;have t3:=(hN2.cell (p:=⟨b',off'+j,none⟩) hl3).trans c1;clear hN2))
   go_wp2
   go_roundg (n-(j+1))
   case measure=>omega
   case rel=>exact ⟨j+1,by omega,by omega,by go_num,BW2.out⟩
  ·obtain rfl:j=n:=by omega
   have hltz:¬ (j:Int)<(j:Int):=by omega
   go_wp2
   go_ret
   exact ⟨rfl,gG BW.out⟩
end Go.Proofs.YthfeoiffoeagkaaGreatDoor
