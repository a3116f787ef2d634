/-
  tree.List of a right tree: the names of what lies right in a directory.
-/
import Derived.Test.YthfeoiffoeagkaaGreatDoorZA6
namespace Go.Proofs.YthfeoiffoeagkaaGreatDoor
open Go.RowKit PM Go.Sort
set_option linter.unusedVariables false
def nJ (t:List Ent) (q:List UInt8):List (List UInt8):=(t.filter fun e=>decide (aA e.p=q)).map fun e=>(cutL e.p).2
def kW (t:List Ent) (q:List UInt8):List (List UInt8) × Int:=if aW t q=0 then (nJ t q,0) else ([],aW t q)
theorem vO {t:List Ent} {k:Nat} {y:Ent} {q:List UInt8} (hy:t[k]?=some y):nJ (t.take (k+1)) q=nJ (t.take k) q++(if aA y.p=q then [(cutL y.p).2] else []):=by
 rw [dh hy]
 unfold nJ
 rw [List.filter_append,List.map_append]
 by_cases h:aA y.p=q <;> simp [h]
theorem D9 (s:ByteArray) (w:World) (hs:s.size<4611686018427387904):Calls Tryz.prog 162 #[.string s] w fun e w'=>(∃ d n:ByteArray,e=.returned (.tuple #[.string d,.string n])∧d.data.toList=(cutL s.data.toList).1∧n.data.toList=(cutL s.data.toList).2)∧Grown w w' :=
 (Kj s w hs).mono fun e w' ⟨h,n,hw⟩=>⟨h,by rw [hw];exact (Grown.refl w).drewN n⟩
theorem zZ {w wr w3 w1:World} {o:Obj} {base:Nat} {r:Option Nat} (hB:Below base w wr) (hb:base≤wr.heap.size) (hG:Grown (wr.alloc o) w3) (o2:Obj) (hg:(w3.alloc o2).grownBy w1 r) (hr:∀ k,r=some k→base≤k):Below base w w1:=by
 have h1:Below base w w3:=(hB.alloc hb o).trans (hG.below.mono (by simp;omega))
 have h3:=hG.size
 simp at h3
 exact (h1.alloc (by omega) o2).grown hg (by simp;omega) hr
theorem Gb (d q:ByteArray):((d.toList == q.toList)=true∧Aside (d.data.toList=q.data.toList))∨((d.toList == q.toList)=false∧Aside (¬ d.data.toList=q.data.toList)):=by
 by_cases h:d.data.toList=q.data.toList
 ·exact .inl ⟨(jJ h).1,h⟩
 ·exact .inr ⟨(ji h).1,h⟩
set_option maxHeartbeats 4000000 in
set_option maxRecDepth 100000 in
theorem za (t:List Ent) (q:ByteArray) (p:Option Addr) (cap:Nat) (w:World) (hL:Lies w p t) (hF:Fits t) (hr:Right false t) (hq:q.size≤maxLen) :
  Calls Tryz.prog 134 #[.slice p t.length cap,.string q] w (dG w (kW t q.data.toList).1 (kW t q.data.toList).2):=by
 have hn80:=hr.len
 have hnd:=xu t q p cap w hL hF (by omega) hq
 have HR:Aside (Right false t):=hr
 have HL:Aside (Lies w p t):=hL
 have HLL:Aside (kW t q.data.toList=if aW t q.data.toList=0 then (nJ t q.data.toList,0) else ([],aW t q.data.toList)):=rfl
 obtain ⟨i0,hi,hz0,hz1,hz2⟩:=Ct
 obtain ⟨n,hnl⟩:∃ n,n=t.length:=⟨_,rfl⟩
 have HN:Aside (n=t.length):=hnl
 rw [← hnl] at hnd hn80 ⊢
 clear hnl hr hL hF
 go_enter Tryz.func134,Tryz.ntmps134
 go_wp2_with (go_at_call 163;refine hnd.mono ?_;clear hnd;rintro e w1 ⟨r,rfl,hrr,hB⟩;have HD:Aside (r=aW t q.data.toList):=hrr HR.out.sorted;clear hrr;by_cases hr0:r=0)
 ·subst hr0
  go_loopg [7,20] n (fun gg v i wr=>∃ (k:Nat) (bs:List ByteArray),k≤n∧n-k≤gg∧i=.int .i64 k∧bs.length≤k∧Aside (Strs wr w.heap.size v bs)∧Aside (Below w.heap.size w wr)∧Aside (bs.map (·.data.toList)=nJ (t.take k) q.data.toList))
  case atStart=>exact ⟨0,[],Nat.zero_le _,by omega,rfl,Nat.le_refl _,Strs.nil _ _,hB,by simp [nJ,Aside]⟩
  case round =>
   obtain ⟨k,bs,hk,hgg,rfl,hbl,ST,BW,NM⟩:=hrel
   by_cases hlt:k<n
   ·have hltz:(k:Int)<(n:Int):=by omega
    obtain ⟨y,hy⟩:∃ y,t[k]?=some y:=⟨_,List.getElem?_eq_getElem (by have:=HN.out;omega)⟩
    have HY:Aside (t[k]?=some y):=hy
    have hy80:=bL (HR.out.clean (List.mem_of_getElem? hy))
    rcases HL.out with h0 | ⟨b,off,rfl,hb,hc⟩
    ·rw [h0] at hy;simp at hy
    obtain ⟨c0,c1,c2,c3⟩:=Lies.cells hc hb BW.out hy
    clear hc hy
    have hcu:=fun W=>D9 y.path W (by omega)
    go_wp2_with (first
     | (go_at_call 162;refine (hcu _).mono ?_;clear hcu;rintro e w3 ⟨⟨d,nm,rfl,hd,hnm⟩,hG⟩;have HDN:Aside (d.data.toList=aA y.p∧nm.data.toList=(cutL y.p).2):=⟨hd,hnm⟩;clear hd hnm;have hS3:w3.ownsRow w.heap.size 9 1 u7 bs.length (bs.map Value.string):=ST.out.below (((Grown.refl wr).alloc _).trans hG).below;rcases Gb d q with ⟨hdq,HDQ⟩ | ⟨hdq,HDQ⟩)
     | (at_builtin;refine wpList_append_own _ rfl _ _ 36 rfl w.heap.size 9 i0 (.string ByteArray.empty) 1 16 Tryz.underlying36 hi hz0 hz1 hz2 rfl (by decide) _ _ _ rfl (hS3.alloc _) ⟨w3.heap.size,0,none⟩ 1 1 [.string nm] rfl rfl ?c1 ?c2 ?c3 ?c4 ?c5 ?_))
    case c1=>exact cell_one_new _ _ _
    case c2=>intro u hu;simp at hu;subst hu;rfl
    case c3=>unfold maxLen;omega
    case c4=>omega
    case c5=>have:=hG.size;have:=BW.out.size;simp at *;omega
    ·intro v' w4 hown hgrow _
     have HB4:Aside (Below w.heap.size w w4):=zZ BW.out BW.out.size hG _ hgrow (fun j hj=>(hS3.lt j hj).1)
     have HS4:Aside (Strs w4 w.heap.size v' (bs++[nm])):=by simpa [Strs,Aside] using hown
     clear hown hgrow
     go_wp2
     go_roundg (n-(k+1))
     case measure=>omega
     case rel=>exact ⟨k+1,bs++[nm],by omega,by omega,by go_num,by simp;omega,HS4.out,HB4.out,by
       show _=_
       rw [vO HY.out,if_pos (HDN.out.1.symm.trans HDQ.out),← NM.out,← HDN.out.2];simp⟩
    ·go_roundg (n-(k+1))
     case measure=>omega
     case rel=>exact ⟨k+1,bs,by omega,by omega,by go_num,by omega,hS3,(BW.out.alloc BW.out.size _).trans (hG.below.mono (by have:=BW.out.size;simp;omega)),by
       show _=_
       rw [vO HY.out,if_neg (fun h=>HDQ.out (HDN.out.1.trans h)),NM.out];simp⟩
   ·have hltz:¬ (k:Int)<(n:Int):=by omega
    have HE:Aside (kW t q.data.toList=(bs.map (·.data.toList),0)):=by
     show _=_
     rw [HLL.out,if_pos HD.out.symm,NM.out,List.take_of_length_le (by have:=HN.out;omega)]
    go_wp2
    go_ret2
    exact dG.mk HE.out rfl rfl ST.out rfl BW.out
 ·have HE:Aside (kW t q.data.toList=([],r)):=by show _=_;rw [HLL.out,if_neg (by rw [← HD.out];exact hr0),HD.out]
  go_ret2
  exact dG.mk HE.out rfl rfl (Strs.nil _ _) rfl hB
theorem Ar {l m:List Ent} (hp:l.Perm m) (hd:m.Pairwise fun a b=>a.p≠b.p) (hs:l.Pairwise fun a b=>¬ cmp b.p a.p<0):Sorted l:=by
 have hd':l.Pairwise fun a b=>a.p≠b.p:=(hp.pairwise_iff (fun h=>h.symm)).2 hd
 refine (hd'.and hs).imp ?_
 rintro a b ⟨h1,h2⟩
 exact yI h2 (fun e=>h1 e.symm)
theorem JW (frm to:ByteArray) (e:Ent):(mvE frm to e).p=to.data.toList++e.p.drop frm.data.toList.length:=by
 show (to++e.path.extract frm.size e.path.size).data.toList=_
 rw [data_append,Lib.extract_to_end,szl];rfl
theorem jg {f:List UInt8} {e:Ent} (hf:f≠[]) (h:inM f e=true):∃ r,e.p=f++r∧(r=[]∨∃ s,r=47::s):=by
 unfold inM at h
 rcases Bool.or_eq_true_iff.1 h with h | h
 ·exact ⟨[],by simpa using of_decide_eq_true h,.inl rfl⟩
 ·obtain ⟨r,hr⟩:=(aS _ _ hf).1 h
  exact ⟨47::r,hr,.inr ⟨r,rfl⟩⟩
theorem Ey {f:List UInt8} {e:Ent} (hf:f≠[]) {r:List UInt8} (h:e.p=f++r) (hr:r=[]∨∃ s,r=47::s):inM f e=true:=by
 unfold inM
 rcases hr with rfl | ⟨s,rfl⟩
 ·simp [h]
 ·rw [(aS _ _ hf).2 ⟨s,h⟩];simp
theorem wU {f:List UInt8} {e:Ent} (h:inM f e=false):e.p≠f∧under e.p f=false:=by
 unfold inM at h
 have:=Bool.or_eq_false_iff.1 h
 exact ⟨of_decide_eq_false this.1,this.2⟩
theorem iL {frm to:ByteArray} {e:Ent} {r:List UInt8} (h:e.p=frm.data.toList++r):(mvE frm to e).p=to.data.toList++r:=by
 rw [JW,h,List.drop_left'];rfl
theorem zP {a b c:List UInt8} (hb:b≠[]) (hc:c≠[]) (h1:under a b=true) (h2:under b c=true):under a c=true:=by
 obtain ⟨r,rfl⟩:=(aS _ _ hb).1 h1
 obtain ⟨s,rfl⟩:=(aS _ _ hc).1 h2
 exact (aS _ _ hc).2 ⟨s++47::r,by simp⟩
structure MvOK (t:List Ent) (frm to:ByteArray):Prop where
 right:Right false t
 src:∃ a∈t,a.p=frm.data.toList
 tocl:clean to.data.toList=true
 ne:frm.data.toList≠to.data.toList
 nund:under to.data.toList frm.data.toList=false
 dir:aA to.data.toList=[]∨∃ d∈t,d.p=aA to.data.toList∧d.kind=2
 free:∀ x∈t,under x.p to.data.toList=false
 cl:∀ x∈t,x.p≠to.data.toList→inM frm.data.toList x=true→clean (mvE frm to x).p=true
section
variable {t:List Ent} {frm to:ByteArray} (h:MvOK t frm to)
include h
theorem MvOK.fne:frm.data.toList≠[]:=by obtain ⟨a,ha,hp⟩:=h.src;rw [← hp];exact h.right.ne ha
theorem MvOK.tne:to.data.toList≠[]:=bX h.tocl
theorem MvOK.inj {x y:Ent} (hx:x∈t) (hy:y∈t) (hxT:x.p≠to.data.toList) (hyT:y.p≠to.data.toList) (hne:x.p≠y.p):(mvF frm to x).p≠(mvF frm to y).p:=by
 have key:∀ {x y:Ent},inM frm.data.toList x=true→y∈t→y.p≠to.data.toList→(mvE frm to x).p≠y.p:=by
  intro x y hx hy hyT e
  obtain ⟨r,hr,hr'⟩:=jg h.fne hx
  rw [iL hr] at e
  rcases hr' with rfl | ⟨s,rfl⟩
  ·exact hyT (by rw [← e];simp)
  ·have:=h.free y hy
   rw [(aS _ _ h.tne).2 ⟨s,e.symm⟩] at this
   cases this
 unfold mvF
 cases h1:inM frm.data.toList x <;> cases h2:inM frm.data.toList y <;> simp only [if_true,if_false,Bool.false_eq_true]
 ·exact hne
 ·exact fun e=>key h2 hx hxT e.symm
 ·exact key h1 hy hyT
 ·obtain ⟨r,hr,_⟩:=jg h.fne h1
  obtain ⟨s,hs,_⟩:=jg h.fne h2
  rw [iL hr,iL hs]
  intro e
  rw [List.append_cancel_left e] at hr
  exact hne (hr.trans hs.symm)
theorem MvOK.distinct:(bE t frm to).Pairwise fun a b=>a.p≠b.p:=by
 unfold bE
 rw [List.pairwise_map]
 have h1:(remL t to.data.toList).Pairwise fun a b=>a.p≠b.p:=(oO h.right.sorted _).imp fun hh=>iT hh
 refine h1.imp_of_mem fun {a b} ha hb hab=>?_
 exact h.inj (eX.1 ha).1 (eX.1 hb).1 (eX.1 ha).2 (eX.1 hb).2 hab
theorem MvOK.mem {l:List Ent} (hp:l.Perm (bE t frm to)) {x:Ent}:x∈l↔∃ y∈t,y.p≠to.data.toList∧mvF frm to y=x:=by
 have _:=h.fne
 rw [hp.mem_iff]
 unfold bE
 simp only [List.mem_map,eX]
 constructor
 ·rintro ⟨y,⟨h1,h2⟩,h3⟩;exact ⟨y,h1,h2,h3⟩
 ·rintro ⟨y,h1,h2,h3⟩;exact ⟨y,⟨h1,h2⟩,h3⟩
theorem MvOK.stays {l:List Ent} (hp:l.Perm (bE t frm to)) {y:Ent} (hy:y∈t) (hT:y.p≠to.data.toList) (hi:inM frm.data.toList y=false):y∈l:=(h.mem hp).2 ⟨y,hy,hT,by rw [mvF,hi];rfl⟩
theorem MvOK.goes {l:List Ent} (hp:l.Perm (bE t frm to)) {y:Ent} (hy:y∈t) (hi:inM frm.data.toList y=true):mvE frm to y∈l:=by
 refine (h.mem hp).2 ⟨y,hy,fun e=>?_,by rw [mvF,hi];rfl⟩
 obtain ⟨r,hr,hr'⟩:=jg h.fne hi
 rcases hr' with rfl | ⟨s,rfl⟩
 ·exact h.ne (by rw [← e,hr];simp)
 ·have:=h.nund
  rw [(aS _ _ h.fne).2 ⟨s,by rw [← e,hr]⟩] at this
  cases this
theorem MvOK.zx {l:List Ent} (hp:l.Perm (bE t frm to)) (hs:l.Pairwise fun a b=>¬ cmp b.p a.p<0):Right false l:=by
 refine ⟨?_,fun x hx=>?_,Ar hp h.distinct hs,fun x hx=>?_⟩
 ·rw [hp.length_eq,bE,List.length_map]
  exact Nat.le_trans (List.length_filter_le _ _) h.right.len
 ·obtain ⟨y,hy,hT,rfl⟩:=(h.mem hp).1 hx
  unfold mvF
  split
  ·rename_i hi;exact uE (h.right.each y hy) rfl rfl rfl (h.cl y hy hT hi)
  ·exact h.right.each y hy
 ·obtain ⟨y,hy,hT,rfl⟩:=(h.mem hp).1 hx
  cases hi:inM frm.data.toList y with
  | false =>
   have e1:mvF frm to y=y:=by rw [mvF,hi];rfl
   rw [e1]
   rcases h.right.dir y hy with hd | ⟨d,hd,hdp,hdk⟩
   ·exact .inl hd
   ·by_cases hd0:aA y.p=[]
    ·exact .inl hd0
    have hu:=fJ (h.right.ne hy) hd0
    refine .inr ⟨d,h.stays hp hd (fun e=>?_) ?_,hdp,hdk⟩
    ·have:=h.free y hy
     rw [← e,hdp,hu] at this;cases this
    ·cases hdi:inM frm.data.toList d with
     | false=>rfl
     | true =>
      have hyu:under y.p frm.data.toList=true:=by
       unfold inM at hdi
       rcases Bool.or_eq_true_iff.1 hdi with g | g
       ·rw [← of_decide_eq_true g,hdp];exact hu
       ·rw [hdp] at g;exact zP hd0 h.fne hu g
      rw [(wU hi).2] at hyu;cases hyu
  | true =>
   have e1:mvF frm to y=mvE frm to y:=by rw [mvF,hi];rfl
   rw [e1]
   obtain ⟨r,hr,hr'⟩:=jg h.fne hi
   rw [iL hr]
   rcases hr' with rfl | ⟨s,rfl⟩
   ·rw [List.append_nil]
    rcases h.dir with hd | ⟨d,hd,hdp,hdk⟩
    ·exact .inl hd
    ·by_cases hd0:aA to.data.toList=[]
     ·exact .inl hd0
     have hu:=fJ h.tne hd0
     refine .inr ⟨d,h.stays hp hd (fun e=>?_) ?_,hdp,hdk⟩
     ·have:=cO h.tne;rw [← hdp,e] at this;omega
     ·cases hdi:inM frm.data.toList d with
      | false=>rfl
      | true =>
       have:under to.data.toList frm.data.toList=true:=by
        unfold inM at hdi
        rcases Bool.or_eq_true_iff.1 hdi with g | g
        ·rw [← of_decide_eq_true g,hdp];exact hu
        ·rw [hdp] at g;exact zP hd0 h.fne hu g
       rw [h.nund] at this;cases this
   ·have hdy:∃ a,aA y.p=frm.data.toList++a∧aA (to.data.toList++47::s)=to.data.toList++a∧(a=[]∨∃ b,a=47::b):=by
     rw [hr]
     rcases je s with hf | ⟨a,b,rfl,hb⟩
     ·exact ⟨[],by rw [aA,dM _ s hf];simp,by rw [aA,dM _ s hf];simp,.inl rfl⟩
     ·refine ⟨47::a,?_,?_,.inr ⟨a,rfl⟩⟩
      ·rw [aA,show frm.data.toList++47::(a++47::b)=(frm.data.toList++47::a)++47::b by simp,dM _ b hb]
      ·rw [aA,show to.data.toList++47::(a++47::b)=(to.data.toList++47::a)++47::b by simp,dM _ b hb]
    obtain ⟨a,ha1,ha2,ha3⟩:=hdy
    rcases h.right.dir y hy with hd | ⟨d,hd,hdp,hdk⟩
    ·rw [hd] at ha1
     have:=congrArg List.length ha1
     have h0:=h.fne
     cases hff:frm.data.toList with
     | nil=>exact absurd hff h0
     | cons=>rw [hff] at this;simp at this
    ·have hdi:inM frm.data.toList d=true:=Ey h.fne (hdp.trans ha1) ha3
     exact .inr ⟨mvE frm to d,h.goes hp hd hdi,by rw [iL (hdp.trans ha1),ha2],hdk⟩
theorem MvOK.gone {l:List Ent} (hp:l.Perm (bE t frm to)) (hnf:under frm.data.toList to.data.toList=false) {x:Ent} (hx:x∈l):x.p≠frm.data.toList:=by
 obtain ⟨y,hy,hT,rfl⟩:=(h.mem hp).1 hx
 cases hi:inM frm.data.toList y with
 | false=>rw [mvF,hi];exact (wU hi).1
 | true =>
  rw [mvF,hi]
  obtain ⟨r,hr,hr'⟩:=jg h.fne hi
  intro e
  rw [if_pos rfl,iL hr] at e
  rcases hr' with rfl | ⟨s,rfl⟩
  ·exact h.ne (by rw [← e];simp)
  ·rw [(aS _ _ h.tne).2 ⟨s,e.symm⟩] at hnf;cases hnf
theorem MvOK.Gw:under frm.data.toList to.data.toList=false:=by
 obtain ⟨a,ha,hp⟩:=h.src
 rw [← hp];exact h.free a ha
end
theorem sO {t:List Ent} {frm to:ByteArray} (h0:bg t frm to=0) (hne:frm.data.toList≠to.data.toList):MvOK t frm to:=by
 unfold bg at h0
 split at h0
 ·rename_i ha
  obtain ⟨hr,hsrc⟩:=rJ ha
  split at h0
  ·rename_i hc
   split at h0
   ·cases h0
   ·rename_i hu
    have hu':under to.data.toList frm.data.toList=false:=by simpa using hu
    split at h0
    ·rename_i ha2
     split at h0
     ·cases h0
     ·rename_i hb
      unfold kI at ha2
      obtain ⟨hnd,hx⟩:=iM.1 ha2
      obtain ⟨hrm,_⟩:=iM.1 hx
      refine ⟨hr,hsrc,hc,hne,hu',?_,?_,?_⟩
      ·rcases dJ.1 hnd with g | ⟨d,h1,h2,h3,_⟩
       ·exact .inl g
       ·exact .inr ⟨d,h1,h2,h3⟩
      ·intro x hx
       cases hux:under x.p to.data.toList with
       | false=>rfl
       | true =>
        obtain ⟨d,hd,hdp,_⟩:=hr.below (bX hc) x.p.length (Nat.le_refl _) hx hux
        have hg:=dU hr.sorted hd (hr.ne hd)
        rw [hdp] at hg
        unfold nk at hrm
        rw [hg] at hrm
        simp only at hrm
        split at hrm
        ·cases hrm
        ·split at hrm
         ·cases hrm
         ·unfold jS at hrm
          rw [if_pos (List.any_eq_true.2 ⟨x,hx,hux⟩)] at hrm
          cases hrm
      ·intro x hx hT hi
       cases hcl:clean (mvE frm to x).p with
       | true=>rfl
       | false=>exact absurd (DT (eX.2 ⟨hx,hT⟩) hi hcl) (by unfold kL at hb;exact hb)
    ·rename_i ha2;exact absurd h0 ha2
  ·cases h0
 ·rename_i ha;exact absurd h0 ha
theorem qC {t:List Ent} (h:Right false t):Fits t:=fun e he=>by
 have hw:=h.each e he
 have h1:=bL (bq hw)
 have h2:e.text.size≤100:=by
  unfold aG at hw
  split at hw
  ·cases hw
  ·split at hw
   ·cases hw
   ·split at hw
    ·cases hw
    ·omega
 unfold maxLen
 omega
end Go.Proofs.YthfeoiffoeagkaaGreatDoor
