/-
  TopAnew: the law.
-/
import Derived.Test.YthfeoiffoeagkaaGreatDoorVA53
namespace Go.Proofs.YthfeoiffoeagkaaGreatDoor
open Go.RowKit PM Go.Sort
set_option linter.unusedVariables false
theorem anew_play (t : ByteArray) (hn : named t.data.toList = true) (W : World) (b b' H cc : Nat) (hU : UnOK W ⟨none,0,[]⟩ [⟨some ⟨b,0,none⟩,3,base6⟩] (some ⟨b',0,none⟩) 1) (hG : Gl W.heap.size W) (hC : LiesC W (some ⟨H,0,none⟩) (anewL t)) :
  Calls Tryz.prog 16 #[.agg #[.slice none 0 0,.slice (some ⟨b',0,none⟩) 1 1],.slice (some ⟨H,0,none⟩) 6 cc] W (fun r w' => ∃ a0 k0 c0 a1 k1 c1 ps sc op b ac g off c,r = .returned (.tuple #[.agg #[.slice a0 k0 c0,.slice a1 k1 c1,.slice ps 2 sc,.int .i64 op],.slice (some ⟨b,0,none⟩) 6 ac,.int .i64 0]) ∧ w'.cell? ⟨b,23,none⟩ = some (.slice (some ⟨g,off,none⟩) 1 c) ∧ w'.cell? ⟨g,off,none⟩ = some (.string t) ∧ Aside (∀ k : Nat,k < 6 → ∃ v1 v2 q3 m3 c3,w'.cell? ⟨b,k * 4,none⟩ = some (.int .i64 0) ∧ w'.cell? ⟨b,k * 4 + 1,none⟩ = some (.int .i64 v1) ∧ w'.cell? ⟨b,k * 4 + 2,none⟩ = some (.string v2) ∧ w'.cell? ⟨b,k * 4 + 3,none⟩ = some (.slice q3 m3 c3)) ∧ Below W.heap.size W w'):=by
 have ht : t.size ≤ 12:=by have:=(named_free hn).2.2;rwa [szl] at this
 refine (top_play (anewL t) 6 rfl (by show 6 ≤ 80;decide) (by simp [anewL]) (fun c hc => by
  simp only [anewL,anew4,List.cons_append,List.nil_append,List.mem_cons,List.not_mem_nil,or_false] at hc
  rcases hc with rfl | rfl | rfl | rfl | rfl | rfl
  ·exact ⟨Nat.le_of_ble_eq_true rfl,Nat.le_of_ble_eq_true rfl,Nat.le_of_ble_eq_true rfl⟩
  ·exact ⟨Nat.le_of_ble_eq_true rfl,Nat.le_of_ble_eq_true rfl,Nat.le_of_ble_eq_true rfl⟩
  ·exact ⟨Nat.le_of_ble_eq_true rfl,Nat.le_of_ble_eq_true rfl,Nat.le_of_ble_eq_true rfl⟩
  ·exact ⟨Nat.le_of_ble_eq_true rfl,Nat.le_of_ble_eq_true rfl,Nat.le_of_ble_eq_true rfl⟩
  ·exact ⟨by show ((⟨#[100,105,114,47]⟩ : ByteArray) ++ t).size ≤ _;rw [ByteArray.size_append];show 4 + t.size ≤ _;omega,Nat.le_of_ble_eq_true rfl,Nat.le_of_ble_eq_true rfl⟩
  ·exact ⟨Nat.le_of_ble_eq_true rfl,Nat.le_of_ble_eq_true rfl,Nat.le_of_ble_eq_true rfl⟩) W b b' H cc hU hG hC).mono fun r w' ⟨y,pl,cl,ps,sc,yn,ln,sn,op,b1,ac,e,hB,hh⟩ => ?_
 obtain ⟨_,e2,_,e4⟩:=hh.out
 obtain ⟨h1,h2,h3⟩:=anew_run hn
 have hsn : sn = 2:=by rw [e2,h3]
 rw [hsn] at e
 cases h5 : (runB (anewL t)).2[5]? with
 | none => rw [h5] at h2;cases h2
 | some a =>
  rw [h5] at h2
  have hna : a.names = [t.data.toList]:=by simpa using h2
  obtain ⟨q,c,bs,_,_,_,g3,hm,hL⟩:=e4 5 a h5
  rw [hna] at hm
  obtain ⟨x,rfl⟩ : ∃ x,bs = [x]:=List.length_eq_one_iff.1 (by have:=congrArg List.length hm;simpa using this)
  have hx : x = t:=ba_ext (by simpa using hm)
  subst hx
  rcases hL with hL | ⟨g,off,hq,_,hc⟩
  ·cases hL
  ·subst hq
   refine ⟨_,_,_,_,_,_,_,_,_,_,_,g,off,c,e,g3,hc 0 x rfl,fun k hk => ?_,hB⟩
   cases ha : (runB (anewL x)).2[k]? with
   | none =>
    rw [List.getElem?_eq_none_iff] at ha
    have:=congrArg List.length h1
    rw [List.length_map] at this
    rw [this] at ha
    exact absurd ha (by show ¬ 6 ≤ k;omega)
   | some y =>
    obtain ⟨_,_,_,d0,d1,d2,d3,_⟩:=e4 k y ha
    have hy : y.err = 0:=by
     have h6 : ((runB (anewL x)).2.map (·.err))[k]? = some y.err:=by rw [List.getElem?_map,ha];rfl
     rw [h1] at h6
     have:=List.mem_of_getElem? h6
     simpa using this
    rw [hy] at d0
    exact ⟨_,_,_,_,_,d0,d1,d2,d3⟩
theorem topAnew_out (t : ByteArray) (hm : t.size ≤ maxLen) (h : named t.data.toList = false) (w : World) (hg : Gl w.heap.size w) : TrueC 12 #[.string t] w:=by
 have hal:=topAlive_any w hg
 have hnd:=fun w => named_any t w hm
 rw [h] at hnd
 clear hg h hm
 go_enter Tryz.func12,Tryz.ntmps12
 go_wp2_with (first
  | (go_at_call 32;refine hal.mono ?_;clear hal;rintro r w2 ⟨rfl,hB2⟩;have H2 : Aside (Below w.heap.size w w2):=hB2;clear hB2)
  | (go_at_call 37;refine (hnd _).mono ?_;clear hnd;rintro r w3 ⟨rfl,rfl⟩))
 all_goals go_ret
 all_goals exact ⟨rfl,H2.out⟩
set_option maxRecDepth 100000 in
set_option maxHeartbeats 1000000 in
theorem topAnew_in (t : ByteArray) (hm : t.size ≤ maxLen) (hn : named t.data.toList = true) (w : World) (hg : Gl w.heap.size w) : TrueC 12 #[.string t] w:=by
 have hal:=topAlive_any w hg
 have hpl:=anew_play t hn
 have HG : Aside (Gl w.heap.size w):=hg
 have ht : t.size ≤ 12:=by have:=(named_free hn).2.2;rwa [szl] at this
 have z1 : (9223372036854775807 < 4 + t.size) = False:=by simp;omega
 have hnd:=fun w => named_any t w hm
 rw [hn] at hnd
 clear hg hn hm ht
 go_enter Tryz.func12,Tryz.ntmps12
 go_wp2_with (first
  | (go_at_call 32;refine hal.mono ?_;clear hal;rintro r w2 ⟨rfl,hB2⟩;have H4 : Aside (Below w.heap.size w w2):=hB2;clear hB2)
  | (go_at_call 37;refine (hnd _).mono ?_;clear hnd;rintro r w3 ⟨rfl,rfl⟩)
  | (go_at_call 33;refine (open_call _ _ _).mono ?_;rintro r w4 ⟨rfl,hB4⟩;replace H4 : Aside (Below w.heap.size w w4):=Below.onto H4.out hB4;clear hB4)
  | (go_at_call 35;refine (at_call _ _ _ _).mono ?_;rintro r w4 ⟨rfl,hB4⟩;replace H4 : Aside (Below w.heap.size w w4):=Below.onto H4.out hB4;clear hB4)
  | (go_at_call 36;refine (base_any _).mono ?_;rintro r w5 ⟨b,b',rfl,hU,hB5⟩;have H5 : Aside (UnOK w5 ⟨none,0,[]⟩ [⟨some ⟨b,0,none⟩,3,base6⟩] (some ⟨b',0,none⟩) 1 ∧ Below w.heap.size w w5 ∧ LiesC w5 (some ⟨w4.heap.size,0,none⟩) (anewL t)):=⟨hU,Below.onto (H4.out.alloc H4.out.size _) hB5,(liesC_new w4 (anewL t) _ rfl).kept hB5⟩;clear hU hB5 H4)
  | (go_at_call 16;refine (hpl w5 b b' _ _ H5.out.1 (HG.out.up H5.out.2.1) H5.out.2.2).mono ?_;clear hpl;rintro r w6 ⟨a0,k0,c0,a1,k1,c1,ps,sc,op,b1,ac,g,off,c,rfl,q3,q4,HC,hB6⟩;have H6 : Aside (Below w.heap.size w w6):=Below.onto H5.out.2.1 hB6;clear hB6 H5))
 have hB7 : Below w6.heap.size w6 (w6.alloc (.cells #[.slice a0 k0 c0,.slice a1 k1 c1,.slice ps 2 sc,.int .i64 op] 29)):=((Grown.refl w6).alloc _).below
 have t2 : (w6.alloc (.cells #[.slice a0 k0 c0,.slice a1 k1 c1,.slice ps 2 sc,.int .i64 op] 29)).cell? ⟨w6.heap.size,2,none⟩ = some (.slice ps 2 sc):=by simp
 have lb:=block_lt_of_cell q3
 have lg:=block_lt_of_cell q4
 have l7 : w6.heap.size < (w6.alloc (.cells #[.slice a0 k0 c0,.slice a1 k1 c1,.slice ps 2 sc,.int .i64 op] 29)).heap.size:=by simp
 have H7 : Aside (Below w.heap.size w (w6.alloc (.cells #[.slice a0 k0 c0,.slice a1 k1 c1,.slice ps 2 sc,.int .i64 op] 29))):=Below.onto H6.out hB7
 generalize w6.alloc (.cells #[.slice a0 k0 c0,.slice a1 k1 c1,.slice ps 2 sc,.int .i64 op] 29) = W7 at hB7 t2 l7 H7 ⊢
 replace q3:=(hB7.cell (p:=⟨b1,23,none⟩) lb).trans q3
 replace q4:=(hB7.cell (p:=⟨g,off,none⟩) lg).trans q4
 have HC7 : Aside (∀ k : Nat,k < 6 → ∃ v1 v2 q3 m3 c3,W7.cell? ⟨b1,k * 4,none⟩ = some (.int .i64 0) ∧ W7.cell? ⟨b1,k * 4 + 1,none⟩ = some (.int .i64 v1) ∧ W7.cell? ⟨b1,k * 4 + 2,none⟩ = some (.string v2) ∧ W7.cell? ⟨b1,k * 4 + 3,none⟩ = some (.slice q3 m3 c3)):=fun k hk => by
  obtain ⟨v1,v2,q5,m5,c5,d0,d1,d2,d3⟩:=HC.out k hk
  exact ⟨v1,v2,q5,m5,c5,(hB7.cell (p:=⟨b1,k * 4,none⟩) lb).trans d0,(hB7.cell (p:=⟨b1,k * 4 + 1,none⟩) lb).trans d1,(hB7.cell (p:=⟨b1,k * 4 + 2,none⟩) lb).trans d2,(hB7.cell (p:=⟨b1,k * 4 + 3,none⟩) lb).trans d3⟩
 replace lb:=block_lt_of_cell q3
 replace lg:=block_lt_of_cell q4
 clear HC hB7 H6
 generalize w6.heap.size = S7 at t2 l7 ⊢
 go_loopg [34] 6 (fun gg i wr => ∃ k : Nat,k ≤ 6 ∧ 6 - k ≤ gg ∧ i = .int .i64 k ∧ Aside (Below W7.heap.size W7 wr))
 case atStart => exact ⟨0,by omega,by omega,rfl,Below.refl _ _⟩
 case round =>
  obtain ⟨k,hk,hgg,rfl,HI⟩:=hrel
  by_cases hlt : k < 6
  ·have hltz : (k : Int) < 6:=by omega
   obtain ⟨v1,v2,q5,m5,c5,d0,d1,d2,d3⟩:=HC7.out k hlt
   have e0:=(HI.out.cell (p:=⟨b1,k * 4,none⟩) lb).trans d0
   have e1:=(HI.out.cell (p:=⟨b1,k * 4 + 1,none⟩) lb).trans d1
   have e2:=(HI.out.cell (p:=⟨b1,k * 4 + 2,none⟩) lb).trans d2
   have e3:=(HI.out.cell (p:=⟨b1,k * 4 + 3,none⟩) lb).trans d3
   clear d0 d1 d2 d3 q3 q4 t2
   go_wp2
   go_roundg (6 - (k + 1))
   case measure => omega
   case rel => exact ⟨k + 1,by omega,by omega,by go_num,HI.out.alloc HI.out.size _⟩
  ·have hltz : ¬ (k : Int) < 6:=by omega
   obtain rfl : k = 6:=by omega
   have x3:=(HI.out.cell (p:=⟨b1,23,none⟩) lb).trans q3
   have x4:=(HI.out.cell (p:=⟨g,off,none⟩) lg).trans q4
   have x2:=(HI.out.cell (p:=⟨S7,2,none⟩) l7).trans t2
   clear q3 q4 t2
   go_wp2
   go_ret
   exact ⟨by simp,Below.onto H7.out HI.out⟩
theorem topAnew_law (t : ByteArray) (hm : t.size ≤ maxLen) (w : World) (hg : Gl w.heap.size w) : TrueC 12 #[.string t] w:=by
 cases hn : named t.data.toList with
 | false => exact topAnew_out t hm hn w hg
 | true => exact topAnew_in t hm hn w hg
end Go.Proofs.YthfeoiffoeagkaaGreatDoor
