/-
  What (*sys.system).lead answers: the path to which a way leads.
-/
import Derived.Test.YthfeoiffoeagkaaGreatDoorXA17
namespace Go.Proofs.YthfeoiffoeagkaaGreatDoor
open Go.RowKit PM Go.Sort
set_option linter.unusedVariables false
def mM (e : Int) (l : List UInt8) (W : World) (r : Ending) (W' : World) : Prop:=∃ q : ByteArray,r = .returned (.tuple #[.string q,.int .i64 e]) ∧ q.data.toList = l ∧ Below W.heap.size W W'
theorem Jw (W : World) (p : Option Addr) (bs : List ByteArray) (k c : Nat) (hk : k = bs.length) (hL : dR W p bs) (hc : bs.length ≤ c) (hn : p = none → c = 0) : WkAt (W.alloc (.cells #[.string ⟨#[]⟩,.slice p k c,.int .i64 0] 200)) W.heap.size ⟨#[]⟩ p bs c 0:=by
 subst hk
 have hb : (W.alloc (.cells #[.string ⟨#[]⟩,.slice p bs.length c,.int .i64 0] 200)).heap[W.heap.size]? = some (.cells #[.string ⟨#[]⟩,.slice p bs.length c,.int .i64 0] 200):=by show (W.heap.push _)[W.heap.size]? = _;simp
 refine ⟨by simp,by simp,by simp,by simp,by simp,by simp,hL.kept ((Grown.refl W).alloc _).below,fun h0 b off s e => ?_,hc,hn⟩
 rcases hL with h | ⟨b',off',hp,hb',_⟩
 ·exact absurd h h0
 ·rw [hp] at e;cases e;omega
theorem F6 (seen : List Ent) (follow : Bool) (g : Nat) (a : List UInt8) (h : Nat) : iD seen follow g a [] h = (0,a):=by cases g <;> rfl
theorem vL (seen : List Ent) (follow : Bool) (g : Nat) (a n : List UInt8) (r : List (List UInt8)) (h : Nat) : iD seen follow (g + 1) a (n :: r) h = if (goL seen follow a n r h).1 = 0 then iD seen follow g (goL seen follow a n r h).2.1 (goL seen follow a n r h).2.2.1 (goL seen follow a n r h).2.2.2 else ((goL seen follow a n r h).1,[]):=rfl
structure oU (seen : List Ent) (follow : Bool) (W : World) (B : Nat) (R : Int × List UInt8) (a : ByteArray) (p : Option Addr) (bs : List ByteArray) (c h : Nat) (X : World) : Prop where
 at' : WkAt X B a p bs c h
 ok : yF a.data.toList (bs.map (·.data.toList)) h
 eq : ∃ g,(9 - h) * 100 + bs.length ≤ g ∧ R = iD seen follow g a.data.toList (bs.map (·.data.toList)) h
 below : Below W.heap.size W X
theorem BA {W X Y : World} {B : Nat} (h : Below W.heap.size W X) (hG : X.grownBy Y (some B)) (hB : W.heap.size ≤ B) : Below W.heap.size W Y:=h.grown hG h.size (fun k hk => by cases hk;exact hB)
theorem oU.next {seen : List Ent} (hr : Right false seen) {follow : Bool} {W : World} {B : Nat} {R : Int × List UInt8} {a : ByteArray} {p : Option Addr} {x : ByteArray} {bs : List ByteArray} {c h : Nat} {X Y : World} (I : oU seen follow W B R a p (x :: bs) c h X) (hB : W.heap.size ≤ B)
  {a' : ByteArray} {p' : Option Addr} {bs' : List ByteArray} {c' : Nat} (hk : WkAt Y B a' p' bs' c' (goL seen follow a.data.toList x.data.toList (bs.map (·.data.toList)) h).2.2.2) (ha : a'.data.toList = (goL seen follow a.data.toList x.data.toList (bs.map (·.data.toList)) h).2.1) (hb : bs'.map (·.data.toList) = (goL seen follow a.data.toList x.data.toList (bs.map (·.data.toList)) h).2.2.1) (hG : X.grownBy Y (some B))
  (hz : (goL seen follow a.data.toList x.data.toList (bs.map (·.data.toList)) h).1 = 0) :
  oU seen follow W B R a' p' bs' c' (goL seen follow a.data.toList x.data.toList (bs.map (·.data.toList)) h).2.2.2 Y ∧ (9 - (goL seen follow a.data.toList x.data.toList (bs.map (·.data.toList)) h).2.2.2) * 100 + bs'.length < (9 - h) * 100 + (bs.length + 1):=by
 obtain ⟨o1,o2⟩:=go_ok hr (follow:=follow) I.ok hz
 have hl : bs'.length = (goL seen follow a.data.toList x.data.toList (bs.map (·.data.toList)) h).2.2.1.length:=by rw [← hb,List.length_map]
 rw [← hl] at o2
 simp only [List.length_cons,List.length_map] at o2
 obtain ⟨g,hg,hR⟩:=I.eq
 rw [List.length_cons] at hg
 refine ⟨⟨hk,?_,?_,BA I.below hG hB⟩,o2⟩
 ·rw [ha,hb];exact o1
 ·obtain ⟨g',rfl⟩ : ∃ g',g = g' + 1:=⟨g - 1,by omega⟩
  rw [List.map_cons,vL,if_pos hz] at hR
  exact ⟨g',by omega,by rw [ha,hb];exact hR⟩
theorem oU.bad {seen : List Ent} {follow : Bool} {W : World} {B : Nat} {R : Int × List UInt8} {a : ByteArray} {p : Option Addr} {x : ByteArray} {bs : List ByteArray} {c h : Nat} {X : World} (I : oU seen follow W B R a p (x :: bs) c h X) (hz : ¬ (goL seen follow a.data.toList x.data.toList (bs.map (·.data.toList)) h).1 = 0) : R.1 = (goL seen follow a.data.toList x.data.toList (bs.map (·.data.toList)) h).1:=by
 obtain ⟨g,hg,hR⟩:=I.eq
 rw [List.length_cons] at hg
 obtain ⟨g',rfl⟩ : ∃ g',g = g' + 1:=⟨g - 1,by omega⟩
 rw [List.map_cons,vL,if_neg hz] at hR
 rw [hR]
theorem Gh {W : World} {ps : Option Addr} {seen : List Ent} (hL : Lies W ps seen) {B : Nat} (hB : W.heap.size ≤ B) : seen = [] ∨ ∀ b off s,ps = some ⟨b,off,s⟩ → b ≠ B:=by
 rcases hL with h | ⟨b,off,hp,hb,_⟩
 ·exact .inl h
 ·exact .inr (fun b' off' s e => by rw [hp] at e;cases e;omega)
theorem Ia (seen : List Ent) (way : ByteArray) (follow : Bool) (W : World) (S : Nat) (e : Int) (he : ¬ e = 0) (l : List (List UInt8)) (hps : Calls Tryz.prog 170 #[.string way] W (dJ W l e)) :
  Calls Tryz.prog 121 #[.pointer (some ⟨S,0,none⟩),.string way,.bool follow] W (mM e [] W):=by
 have he' : (e == 0) = false:=beq_eq_false_iff_ne.2 he
 go_enter Tryz.func121,Tryz.ntmps121
 go_wp2_with (go_at_call 170;refine hps.mono ?_;clear hps;intro e w1 hE;obtain ⟨p1,k1,cc1,bs1,rfl,HS1,HB1⟩:=bH hE;clear hE)
 go_loopg [9] 1 (fun gg s9 wr => s9 = .int .i64 e ∧ Aside (Below W.heap.size W wr))
 case atStart => exact ⟨rfl,Below.onto HB1.out ((Grown.refl w1).alloc _).below⟩
 case round =>
  obtain ⟨rfl,BW⟩:=hrel
  go_wp2
  go_ret2
  exact ⟨⟨#[]⟩,rfl,rfl,BW.out⟩
def LdSt (seen : List Ent) (follow : Bool) (W : World) (B : Nat) (R : Int × List UInt8) (gg : Nat) (s9 : Value) (X : World) : Prop :=
 ∃ e : Int,s9 = .int .i64 e ∧ ((¬ e = 0 ∧ Aside (R.1 = e ∧ Below W.heap.size W X)) ∨ (e = 0 ∧ ∃ (a : ByteArray) (p : Option Addr) (bs : List ByteArray) (c h : Nat),(9 - h) * 100 + bs.length + 1 ≤ gg ∧ Aside (oU seen follow W B R a p bs c h X)))
set_option maxHeartbeats 1000000 in
theorem I9 (seen : List Ent) (way : ByteArray) (follow : Bool) (W : World) (S : Nat) (ps : Option Addr) (sn sc : Nat) (hsn : sn = seen.length) (m : Int) (hS : W.cell? ⟨S,2,none⟩ = some (.slice ps sn sc)) (hL : Lies W ps seen) (hr : Right false seen) (hm : W.cell? ⟨0,0,none⟩ = some (.int .i64 m))
  (l : List (List UInt8)) (hl81 : l.length ≤ 81) (hl12 : ∀ n ∈ l,n.length ≤ 12) (hps : Calls Tryz.prog 170 #[.string way] W (dJ W l 0)) (R : Int × List UInt8) (hR : R = iD seen follow 1100 [] l 0) :
  Calls Tryz.prog 121 #[.pointer (some ⟨S,0,none⟩),.string way,.bool follow] W (mM (if ¬ R.1 = 0 then R.1 else if 80 < R.2.length then 4 else 0) (if ¬ R.1 = 0 then [] else if 80 < R.2.length then [] else R.2) W):=by
 have HL : Aside (Lies W ps seen ∧ Right false seen ∧ sn = seen.length ∧ W.cell? ⟨0,0,none⟩ = some (.int .i64 m)):=⟨hL,hr,hsn,hm⟩
 have H0 : Aside (R = iD seen follow 1100 [] l 0 ∧ l.length ≤ 81 ∧ ∀ n ∈ l,n.length ≤ 12):=⟨hR,hl81,hl12⟩
 have hSlt:=block_lt_of_cell hS
 simp only at hSlt
 have HS : Aside (W.cell? ⟨S,2,none⟩ = some (.slice ps sn sc)):=hS
 clear hL hr hsn hm hR hl81 hl12 hS
 obtain ⟨re,hre⟩ : ∃ re,re = if ¬ R.1 = 0 then R.1 else if 80 < R.2.length then 4 else 0:=⟨_,rfl⟩
 obtain ⟨rl,hrl⟩ : ∃ rl,rl = if ¬ R.1 = 0 then [] else if 80 < R.2.length then [] else R.2:=⟨_,rfl⟩
 have HRE : Aside ((re = if ¬ R.1 = 0 then R.1 else if 80 < R.2.length then 4 else 0) ∧ (rl = if ¬ R.1 = 0 then [] else if 80 < R.2.length then [] else R.2)):=⟨hre,hrl⟩
 rw [← hre,← hrl]
 clear hre hrl
 go_enter Tryz.func121,Tryz.ntmps121
 go_wp2_with (go_at_call 170;refine hps.mono ?_;clear hps;intro e w1 hE;obtain ⟨p1,k1,cc1,bs1,rfl,HS1,HB1⟩:=bH hE;clear hE)
 have HI0 : Aside (oU seen follow W w1.heap.size R ⟨#[]⟩ p1 bs1 cc1 0 (w1.alloc (.cells #[.string ⟨#[]⟩,.slice p1 k1 cc1,.int .i64 0] 200))):=by
  obtain ⟨h1,h2,h3⟩:=HS1.out
  obtain ⟨p',c',e,hL',hc',hn',_⟩:=h2.vZ
  injection e with e1 e2 e3
  subst e1 e3
  have hlen : bs1.length = l.length:=by rw [← h3,List.length_map]
  refine ⟨Jw w1 p1 bs1 k1 cc1 h1 hL' hc' hn',⟨by decide,fun n hn => H0.out.2.2 n (by rw [← h3];exact hn),by rw [List.length_map];have:=H0.out.2.1;omega,by omega⟩,⟨1100,by have:=H0.out.2.1;omega,by rw [h3];exact H0.out.1⟩,Below.onto HB1.out ((Grown.refl w1).alloc _).below⟩
 have hBw:=HB1.out.size
 have hb81 : bs1.length ≤ 81:=by
  have h3:=congrArg List.length HS1.out.2.2
  rw [List.length_map] at h3
  have:=H0.out.2.1
  omega
 clear HS1 HB1
 go_loopg [9] 1200 (fun gg s9 wr => LdSt seen follow W w1.heap.size R gg s9 wr)
 case atStart => exact ⟨0,rfl,.inr ⟨rfl,⟨#[]⟩,p1,bs1,cc1,0,by omega,HI0.out⟩⟩
 case round =>
  obtain ⟨e,rfl,⟨he,HE⟩ | ⟨rfl,a,p,bs,c,h,hgg,HI⟩⟩:=hrel
  ·have he' : (e == 0) = false:=beq_eq_false_iff_ne.2 he
   go_wp2
   go_ret2
   refine ⟨⟨#[]⟩,?_,?_,HE.out.2⟩
   ·rw [HRE.out.1,HE.out.1,if_pos he];rfl
   ·rw [HRE.out.2,HE.out.1,if_pos he]
  ·cases bs with
   | nil =>
    have HR : Aside (R = (0,a.data.toList)):=by obtain ⟨g,_,hR⟩:=HI.out.eq;show _ = _;rw [hR];exact F6 _ _ _ _ _
    obtain ⟨c0,c1,c2,f0,f1,f2,_⟩:=HI.out.at'
    have c1 : wr.cell? ⟨w1.heap.size,1,none⟩ = some (.slice p 0 c):=c1
    have HB : Aside (Below W.heap.size W wr):=HI.out.below
    have HSZ : Aside (a.size = a.data.toList.length):=rfl
    have ha100 : a.size ≤ 100:=HI.out.ok.len
    clear hgg
    by_cases h80 : (80 : Int) < (a.size : Int)
    ·go_wp2
     go_ret2
     refine ⟨⟨#[]⟩,?_,?_,HB.out⟩
     ·rw [HRE.out.1,HR.out,if_neg (by simp),if_pos (by simp only;have:=HSZ.out;omega)];rfl
     ·rw [HRE.out.2,HR.out,if_neg (by simp),if_pos (by simp only;have:=HSZ.out;omega)]
    ·go_wp2
     go_ret2
     refine ⟨a,?_,?_,HB.out⟩
     ·rw [HRE.out.1,HR.out,if_neg (by simp),if_neg (by simp only;have:=HSZ.out;omega)];rfl
     ·rw [HRE.out.2,HR.out,if_neg (by simp),if_neg (by simp only;have:=HSZ.out;omega)]
   | cons x bs =>
    have hgo:=Gq seen wr w1.heap.size a p x bs c h ps sc follow m HI.out.at' (HL.out.1.kept HI.out.below) HL.out.2.1 (Gh HL.out.1 hBw) HI.out.ok (by have:=block_lt_of_cell HL.out.2.2.2;simp only at this;omega) ((HI.out.below.cell (p:=⟨0,0,none⟩) (block_lt_of_cell HL.out.2.2.2)).trans HL.out.2.2.2)
    rw [← HL.out.2.2.1] at hgo
    obtain ⟨c0,c1,c2,f0,f1,f2,_⟩:=HI.out.at'
    rw [List.length_cons] at c1
    have hs2 : wr.cell? ⟨S,2,none⟩ = some (.slice ps sn sc):=(HI.out.below.cell (p:=⟨S,2,none⟩) hSlt).trans HS.out
    rw [List.length_cons] at hgg
    obtain ⟨b1,hb1⟩ : ∃ b1,b1 = bs.length:=⟨_,rfl⟩
    rw [← hb1] at c1 hgg
    have HB1 : Aside (b1 = bs.length):=hb1
    clear hb1
    have hpos : (0 : Int) < (b1 : Int) + 1:=by omega
    by_cases hz : (goL seen follow a.data.toList x.data.toList (bs.map (·.data.toList)) h).1 = 0
    ·have HZ : Aside ((goL seen follow a.data.toList x.data.toList (bs.map (·.data.toList)) h).1 = 0):=hz
     rw [hz] at hgo
     clear hz
     go_wp2_with (go_at_call 171;refine hgo.mono ?_;clear hgo;rintro r w2 ⟨a2,p2,bs2,c2',rfl,hk2,ha2,hb2,hg2⟩;have HN:=oU.next HL.out.2.1 HI.out hBw hk2 ha2 hb2 hg2 HZ.out;have HN2 : Aside _:=HN;clear HN hk2 ha2 hb2 hg2)
     go_roundg ((9 - (goL seen follow a.data.toList x.data.toList (bs.map (·.data.toList)) h).2.2.2) * 100 + bs2.length + 1)
     case measure => have:=HN2.out.2;have:=HB1.out;omega
     case rel => exact ⟨0,rfl,.inr ⟨rfl,a2,p2,bs2,c2',_,Nat.le_refl _,HN2.out.1⟩⟩
    ·have HZ : Aside (R.1 = (goL seen follow a.data.toList x.data.toList (bs.map (·.data.toList)) h).1):=HI.out.bad hz
     generalize (goL seen follow a.data.toList x.data.toList (bs.map (·.data.toList)) h).1 = e2 at hgo hz HZ
     go_wp2_with (go_at_call 171;refine hgo.mono ?_;clear hgo;rintro r w2 ⟨a2,p2,bs2,c2',rfl,hk2,ha2,hb2,hg2⟩;have HN2 : Aside (Below W.heap.size W w2):=BA HI.out.below hg2 hBw;clear hk2 ha2 hb2 hg2)
     go_roundg 0
     case measure => omega
     case rel => exact ⟨e2,rfl,.inl ⟨hz,HZ.out,HN2.out⟩⟩
theorem kQ (seen : List Ent) (way : ByteArray) (follow : Bool) (W : World) (S : Nat) (ps : Option Addr) (sc : Nat) (m : Int) (hS : W.cell? ⟨S,2,none⟩ = some (.slice ps seen.length sc)) (hL : Lies W ps seen) (hr : Right false seen) (hw : way.size ≤ maxLen) (hm : W.cell? ⟨0,0,none⟩ = some (.int .i64 m)) :
  Calls Tryz.prog 121 #[.pointer (some ⟨S,0,none⟩),.string way,.bool follow] W (mM (aU seen follow way.data.toList).1 (aU seen follow way.data.toList).2 W):=by
 have hps:=xG way m W hw hm
 obtain ⟨p1,p2⟩:=rM way.data.toList
 unfold aU
 by_cases h1 : (aN way.data.toList).2 = 0
 ·rw [if_neg (not_not_intro h1)]
  rw [h1] at hps
  have:=I9 seen way follow W S ps _ sc rfl m hS hL hr hm _ p1 p2 hps _ rfl
  by_cases h2 : (iD seen follow 1100 [] (aN way.data.toList).1 0).1 = 0
  ·rw [if_neg (not_not_intro h2)] at this ⊢
   rw [if_neg (not_not_intro h2)] at this
   by_cases h3 : 80 < (iD seen follow 1100 [] (aN way.data.toList).1 0).2.length
   ·rw [if_pos h3] at this ⊢
    rw [if_pos h3] at this
    exact this
   ·rw [if_neg h3] at this ⊢
    rw [if_neg h3] at this
    exact this
  ·rw [if_pos h2] at this ⊢
   rw [if_pos h2] at this
   exact this
 ·rw [if_pos h1]
  exact Ia seen way follow W S _ h1 _ hps
end Go.Proofs.YthfeoiffoeagkaaGreatDoor
