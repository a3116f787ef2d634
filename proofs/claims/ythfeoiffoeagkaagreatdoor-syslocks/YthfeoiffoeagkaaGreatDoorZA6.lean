/-
  tree.Move: what it answers, and the tree that comes of it.
-/
import Derived.Test.YthfeoiffoeagkaaGreatDoorZA5
import Derived.RangeFuncNested
import Derived.RangeFuncBound
import Derived.RangeFuncCalls
import Derived.RangeFuncLeaves
import Derived.RangeFuncFrom
import Derived.RangeFuncBox
import Derived.Shelf.Abstract
import Derived.Shelf.RegionOpen
import Derived.WalkKit
import Derived.OwnWalkIn
import Derived.TacticsInMore
import Derived.LoopNIn
import Derived.LoopIn
import Derived.Laws.StructEq
import Derived.Shelf.SlicesE.Equal
namespace Go.Proofs.YthfeoiffoeagkaaGreatDoor
open Go.RowKit PM Go.Sort
set_option linter.unusedVariables false
def iV (t:List Ent) (f:List UInt8):Int:=orL [(aD false t).1,kY t f]
def kI (t:List Ent) (f to:List UInt8):Int:=orL [aW t (aA to),nk t f to]
def bg (t:List Ent) (frm to:ByteArray):Int :=
 if iV t frm.data.toList=0 then
  if clean to.data.toList=true then
   if frm.data.toList=to.data.toList then 0
   else if under to.data.toList frm.data.toList=true then 8
   else if kI t frm.data.toList to.data.toList=0 then (if kL t frm to=true then 4 else 0)
   else kI t frm.data.toList to.data.toList
  else 7
 else iV t frm.data.toList
def ko (t:List Ent) (frm to:ByteArray) (w:World) (r:Ending) (w':World):Prop :=
 ∃ l,dn (bg t frm to) l w r w'∧(bg t frm to≠0→l=[]) ∧
  (bg t frm to=0→(frm.data.toList=to.data.toList→l=t)∧(frm.data.toList≠to.data.toList→l.Perm (bE t frm to)∧l.Pairwise fun a b=>¬ cmp b.p a.p<0))
theorem CS (t:List Ent) (f:List UInt8) (r:Int) (hr:Sorted t→r=kY t f):orL [(aD false t).1,r]=iV t f:=by
 unfold iV
 by_cases h:(aD false t).1=0
 ·rw [hr (bM.1 h).sorted]
 ·simp [orL,h]
theorem rJ {t:List Ent} {f:List UInt8} (h:iV t f=0):Right false t∧∃ e∈t,e.p=f:=by
 unfold iV at h
 obtain ⟨h1,h⟩:=iM.1 h
 obtain ⟨h2,_⟩:=iM.1 h
 refine ⟨bM.1 h1,?_⟩
 unfold kY at h2
 split at h2
 ·assumption
 ·omega
theorem ko.err {t:List Ent} {frm to:ByteArray} {w w':World} {er:Int} (he:er=bg t frm to) (h0:er≠0) (hB:Below w.heap.size w w'):ko t frm to w (.returned (.tuple #[.slice none 0 0,.int .i64 er])) w':=by
 subst he
 exact ⟨[],dn.none hB,fun _=>rfl,fun h=>absurd h h0⟩
set_option maxHeartbeats 8000000 in
set_option maxRecDepth 100000 in
theorem Gu (t:List Ent) (frm to:ByteArray) (m:Int) (p:Option Addr) (cap:Nat) (w:World) (hL:Lies w p t) (hF:Fits t) (hn:t.length<4611686018427387904) (hcap:t.length≤cap) (hnil:p=none→cap=0)
  (hf:frm.size≤maxLen) (ht:to.size≤maxLen) (hm:w.cell? ⟨0,0,none⟩=some (.int .i64 m)) :
  Calls Tryz.prog 183 #[.slice p t.length cap,.string frm,.string to] w (ko t frm to w):=by
 have hwr:=fun W (hB:Below w.heap.size w W)=>iZ t m p cap W (hL.kept hB) hF hn hcap (held hB hm)
 have hms:=fun W (hB:Below w.heap.size w W)=>tT t frm p cap W (hL.kept hB) hF hn hf
 have hcl:=fun W (hB:Below w.heap.size w W)=>nX to m W ht (held hB hm)
 have HA:Aside (∀ r:Int,(Sorted t→r=kY t frm.data.toList)→orL [(aD false t).1,r]=iV t frm.data.toList):=CS t frm.data.toList
 have hB:Below w.heap.size w w:=Below.refl _ _
 have hfld:=lQ
 have HER:Aside (bg t frm to=if iV t frm.data.toList=0 then
  if clean to.data.toList=true then
   if frm.data.toList=to.data.toList then 0
   else if under to.data.toList frm.data.toList=true then 8
   else if kI t frm.data.toList to.data.toList=0 then (if kL t frm to=true then 4 else 0)
   else kI t frm.data.toList to.data.toList
  else 7
 else iV t frm.data.toList):=rfl
 have HZ:Aside (iV t frm.data.toList=0→Right false t∧∃ e∈t,e.p=frm.data.toList):=rJ
 obtain ⟨n,hnl⟩:∃ n,n=t.length:=⟨_,rfl⟩
 have HN:Aside (n=t.length):=hnl
 generalize (aD false t).1=f at hwr HA
 generalize ((aD false t).2:Int)=fa at hwr
 generalize iV t frm.data.toList=ask at HA HER HZ
 by_cases hask:ask=0
 ·subst hask
  have HRT:=HZ.out rfl
  have HR:Aside (Right false t∧∃ e∈t,e.p=frm.data.toList):=HRT
  have hf80:frm.size≤80:=by
   obtain ⟨hr,x,hx,hxp⟩:=HRT
   have:=hr.clean hx
   rw [hxp] at this
   exact bL this
  have HL:Aside (Lies w p t):=hL
  have HFt:Aside (Fits t):=hF
  rw [if_pos rfl] at HER
  cases hct:clean to.data.toList with
  | false =>
   have HE7:Aside (7=bg t frm to):=by show _=_;rw [HER.out,hct];rfl
   rw [hct] at hcl
   rw [← hnl] at hwr hms ⊢
   clear hnl HRT hL hF hn hcap
   go_enter Tryz.func183,Tryz.ntmps183
   go_wp2_with (first
    | (go_at_call 24;refine (hwr _ hB).mono ?_;clear hwr;rintro e w1 ⟨rfl,hN⟩;replace hB:=Below.onto hB hN;clear hN)
    | (go_at_call 217;refine (hms _ hB).mono ?_;clear hms;rintro e w2 ⟨r,rfl,hr,hN⟩;have HE:Aside (orL [f,r]=0):=HA.out r hr;clear hr HA;replace hB:=Below.onto hB hN;clear hN)
    | (go_at_call 157;refine (gW _ _ _).mono ?_;rintro e w4 ⟨rfl,hw⟩;subst hw;replace hB:=hB.alloc hB.size (.cells #[.int .i64 f,.int .i64 r] 31);rw [HE.out])
    | (go_at_call 26;refine (hcl _ hB).mono ?_;clear hcl;rintro e w5 ⟨rfl,hN⟩;replace hB:=Below.onto hB hN;clear hN))
   go_ret2
   exact ko.err HE7.out (by decide) hB
  | true =>
   have ht80:to.size≤80:=bL hct
   rw [hct,if_pos rfl] at HER
   rw [hct] at hcl
   have hn80:n≤80:=by rw [hnl];exact HRT.1.len
   have hun:=fun W=>kR to frm W ht hf
   have hnd:∀ W,Below w.heap.size w W→Calls Tryz.prog 114 #[.slice p t.length cap,.string to] W fun r w'=>r=.returned (.int .i64 (aW t (aA to.data.toList)))∧Below W.heap.size W w':=fun W hB=>(nK t to p cap W (hL.kept hB) hF hn ht (by omega)).mono fun r w' ⟨x,h1,h2,h3⟩=>⟨by rw [h1,h2 HRT.1.sorted],h3⟩
   have hro:=fun W (hB:Below w.heap.size w W)=>CV t frm to p cap W (hL.kept hB) hF hn hf ht HRT.1.sorted
   have hmo:=fun W (hB:Below w.heap.size w W)=>EP t frm to m p cap W (hL.kept hB) hnil HRT.1 hf80 ht80 (held hB hm)
   have HA2:Aside (orL [aW t (aA to.data.toList),nk t frm.data.toList to.data.toList]=kI t frm.data.toList to.data.toList):=rfl
   generalize aW t (aA to.data.toList)=nd at hnd HA2
   generalize nk t frm.data.toList to.data.toList=rm at hro HA2
   generalize kI t frm.data.toList to.data.toList=ask2 at HA2 HER
   rw [← hnl] at hwr hms hnd hro hmo ⊢
   clear hnl HRT hL hF hn hcap
   by_cases hft:frm.data.toList=to.data.toList
   ·have HE0:Aside (bg t frm to=0):=by show _=_;rw [HER.out,if_pos hft]
    obtain ⟨e1,e2⟩:=jJ hft
    have HFT:Aside (frm.data.toList=to.data.toList):=hft
    clear hft hun hnd hro hmo HER HA2
    go_enter Tryz.func183,Tryz.ntmps183
    go_wp2_with (first
    | (go_at_call 24;refine (hwr _ hB).mono ?_;clear hwr;rintro e w1 ⟨rfl,hN⟩;replace hB:=Below.onto hB hN;clear hN)
    | (go_at_call 217;refine (hms _ hB).mono ?_;clear hms;rintro e w2 ⟨r,rfl,hr,hN⟩;have HE:Aside (orL [f,r]=0):=HA.out r hr;clear hr HA;replace hB:=Below.onto hB hN;clear hN)
    | (go_at_call 157;refine (gW _ _ _).mono ?_;rintro e w4 ⟨rfl,hw⟩;subst hw;replace hB:=hB.alloc hB.size (.cells #[.int .i64 f,.int .i64 r] 31);rw [HE.out];clear HE)
    | (go_at_call 26;refine (hcl _ hB).mono ?_;clear hcl;rintro e w5 ⟨rfl,hN⟩;replace hB:=Below.onto hB hN;clear hN)
    | (at_builtin;refine iH _ rfl _ _ rfl w5.heap.size rfl ?_ p n cap t rfl HN.out ?_ hnil hn80 ?_ ?_))
    ·exact iY w5 _ rfl
    ·exact (HL.out.kept hB).grown ((Grown.refl _).alloc _)
    ·simp
    ·intro g c w6 hO hg hB6
     have hX:Below w5.heap.size w5 w6:=((Below.refl _ _).alloc (Nat.le_refl _) _).trans hB6
     have H6:Aside (Own w6 g c t∧Below w.heap.size w w6):=⟨hO,Below.onto hB hX⟩
     clear hO hB6 hX
     go_wp2
     go_ret2
     refine ⟨t,?_,fun h=>absurd HE0.out h,fun _=>⟨fun _=>rfl,fun h=>absurd HFT.out h⟩⟩
     rw [HE0.out]
     exact ⟨some ⟨g,0,none⟩,c,by rw [← HN.out];rfl,H6.out.1.lies,H6.out.1.len,nofun,H6.out.2⟩
   ·rw [if_neg hft] at HER
    obtain ⟨e1,e2⟩:=ji hft
    have HFT:Aside (frm.data.toList≠to.data.toList):=hft
    clear hft
    cases hut:under to.data.toList frm.data.toList with
    | true =>
     have HE8:Aside (8=bg t frm to):=by show _=_;rw [HER.out,hut];rfl
     rw [hut] at hun
     clear hnd hro hmo HER HA2
     go_enter Tryz.func183,Tryz.ntmps183
     go_wp2_with (first
    | (go_at_call 24;refine (hwr _ hB).mono ?_;clear hwr;rintro e w1 ⟨rfl,hN⟩;replace hB:=Below.onto hB hN;clear hN)
    | (go_at_call 217;refine (hms _ hB).mono ?_;clear hms;rintro e w2 ⟨r,rfl,hr,hN⟩;have HE:Aside (orL [f,r]=0):=HA.out r hr;clear hr HA;replace hB:=Below.onto hB hN;clear hN)
    | (go_at_call 157;refine (gW _ _ _).mono ?_;rintro e w4 ⟨rfl,hw⟩;subst hw;replace hB:=hB.alloc hB.size (.cells #[.int .i64 f,.int .i64 r] 31);rw [HE.out];clear HE)
    | (go_at_call 26;refine (hcl _ hB).mono ?_;clear hcl;rintro e w5 ⟨rfl,hN⟩;replace hB:=Below.onto hB hN;clear hN)
    | (go_at_call 186;refine (hun _).mono ?_;rintro rr wx ⟨rfl,hwx⟩;subst wx))
     go_ret2
     exact ko.err HE8.out (by decide) hB
    | false =>
     rw [hut] at hun HER
     rw [if_neg (by decide)] at HER
     by_cases hask2:ask2=0
     ·rw [if_pos hask2] at HER
      subst hask2
      go_enter Tryz.func183,Tryz.ntmps183
      go_wp2_with (first
    | (go_at_call 24;refine (hwr _ hB).mono ?_;clear hwr;rintro e w1 ⟨rfl,hN⟩;replace hB:=Below.onto hB hN;clear hN)
    | (go_at_call 217;refine (hms _ hB).mono ?_;clear hms;rintro e w2 ⟨r,rfl,hr,hN⟩;have HE:Aside (orL [f,r]=0):=HA.out r hr;clear hr HA;replace hB:=Below.onto hB hN;clear hN)
    | (go_at_call 157;refine (gW _ _ _).mono ?_;rintro e w4 ⟨rfl,hw⟩;subst hw;replace hB:=hB.alloc hB.size (.cells #[.int .i64 f,.int .i64 r] 31);rw [HE.out];clear HE)
    | (go_at_call 26;refine (hcl _ hB).mono ?_;clear hcl;rintro e w5 ⟨rfl,hN⟩;replace hB:=Below.onto hB hN;clear hN)
    | (go_at_call 186;refine (hun _).mono ?_;rintro rr wx ⟨rfl,hwx⟩;subst wx)
    | (go_at_call 114;refine (hnd _ hB).mono ?_;clear hnd;rintro rr w6 ⟨rfl,hN⟩;replace hB:=Below.onto hB hN;clear hN)
    | (go_at_call 223;refine (hro _ hB).mono ?_;clear hro;rintro rr w7 ⟨rfl,hN⟩;replace hB:=Below.onto hB hN;clear hN)
    | (go_at_call 157;refine (gW _ _ _).mono ?_;rintro rr w8 ⟨rfl,hw⟩;subst hw;replace hB:=hB.alloc hB.size (.cells #[.int .i64 nd,.int .i64 rm] 31);rw [HA2.out])
    | (go_at_call 224;refine (hmo _ hB).mono ?_;clear hmo;rintro rr w9 (⟨hbad,p9,c9,rfl,hl9,hc9,hn9,hB9⟩ | ⟨hbad,l9,hp9,hs9,p9,c9,rfl,hl9,hc9,hn9,hB9⟩)))
      ·go_ret2
       have h4:bg t frm to=4:=by rw [HER.out,if_pos hbad]
       refine ⟨[],?_,fun _=>rfl,fun h=>by rw [h4] at h;cases h⟩
       rw [h4]
       exact ⟨p9,c9,rfl,hl9,hc9,hn9,Below.onto hB hB9⟩
      ·go_ret2
       have h0:bg t frm to=0:=by rw [HER.out,if_neg (by rw [hbad];decide)]
       refine ⟨l9,?_,fun h=>absurd h0 h,fun _=>⟨fun h=>absurd h HFT.out,fun _=>⟨hp9,hs9.imp (fun h=>by omega)⟩⟩⟩
       rw [h0]
       exact ⟨p9,c9,rfl,hl9,hc9,hn9,Below.onto hB hB9⟩
     ·rw [if_neg hask2] at HER
      clear hmo
      go_enter Tryz.func183,Tryz.ntmps183
      go_wp2_with (first
    | (go_at_call 24;refine (hwr _ hB).mono ?_;clear hwr;rintro e w1 ⟨rfl,hN⟩;replace hB:=Below.onto hB hN;clear hN)
    | (go_at_call 217;refine (hms _ hB).mono ?_;clear hms;rintro e w2 ⟨r,rfl,hr,hN⟩;have HE:Aside (orL [f,r]=0):=HA.out r hr;clear hr HA;replace hB:=Below.onto hB hN;clear hN)
    | (go_at_call 157;refine (gW _ _ _).mono ?_;rintro e w4 ⟨rfl,hw⟩;subst hw;replace hB:=hB.alloc hB.size (.cells #[.int .i64 f,.int .i64 r] 31);rw [HE.out];clear HE)
    | (go_at_call 26;refine (hcl _ hB).mono ?_;clear hcl;rintro e w5 ⟨rfl,hN⟩;replace hB:=Below.onto hB hN;clear hN)
    | (go_at_call 186;refine (hun _).mono ?_;rintro rr wx ⟨rfl,hwx⟩;subst wx)
    | (go_at_call 114;refine (hnd _ hB).mono ?_;clear hnd;rintro rr w6 ⟨rfl,hN⟩;replace hB:=Below.onto hB hN;clear hN)
    | (go_at_call 223;refine (hro _ hB).mono ?_;clear hro;rintro rr w7 ⟨rfl,hN⟩;replace hB:=Below.onto hB hN;clear hN)
    | (go_at_call 157;refine (gW _ _ _).mono ?_;rintro rr w8 ⟨rfl,hw⟩;subst hw;replace hB:=hB.alloc hB.size (.cells #[.int .i64 nd,.int .i64 rm] 31);rw [HA2.out]))
      go_ret2
      exact ko.err HER.out.symm hask2 hB
 ·have HEA:Aside (ask=bg t frm to):=by show _=_;rw [HER.out,if_neg hask]
  rw [← hnl] at hwr hms ⊢
  clear hnl hL hF hn hcap hcl
  go_enter Tryz.func183,Tryz.ntmps183
  go_wp2_with (first
   | (go_at_call 24;refine (hwr _ hB).mono ?_;clear hwr;rintro e w1 ⟨rfl,hN⟩;replace hB:=Below.onto hB hN;clear hN)
   | (go_at_call 217;refine (hms _ hB).mono ?_;clear hms;rintro e w2 ⟨r,rfl,hr,hN⟩;have HE:Aside (orL [f,r]=ask):=HA.out r hr;clear hr HA;replace hB:=Below.onto hB hN;clear hN)
   | (go_at_call 157;refine (gW _ _ _).mono ?_;rintro e w4 ⟨rfl,hw⟩;subst hw;replace hB:=hB.alloc hB.size (.cells #[.int .i64 f,.int .i64 r] 31);rw [HE.out]))
  go_ret2
  exact ko.err HEA.out hask hB
theorem vD {a b:List Ent} {q:List UInt8} (ha:Sorted a) (hb:Sorted b) (h:∀ x,x.p=q→(x∈a↔x∈b)):getL a q=getL b q:=by
 by_cases hq:q=[]
 ·rw [hq,bU,bU]
 cases h1:getL a q with
 | none =>
  have:=(dQ h1).2
  exact (bn hq fun e he hp=>this e ((h e hp).2 he) hp).symm
 | some x =>
  obtain ⟨hx,hp⟩:=aM hq h1
  have:=dU hb ((h x hp).1 hx) (by rw [hp];exact hq)
  rw [hp] at this;exact this.symm
theorem qJ {t:List Ent} {e:Ent} (hs:Sorted t) (he:e.p≠[]):getL (putL t e) e.p=some e:=dU (eF hs e) (dZ.2 (.inl rfl)) he
theorem wE {t:List Ent} {e:Ent} {q:List UInt8} (hs:Sorted t) (hq:q≠e.p):getL (putL t e) q=getL t q :=
 vD (eF hs e) hs fun x hx=>by
  rw [dZ]
  constructor
  ·rintro (rfl | ⟨h,_⟩)
   ·exact absurd hx.symm hq
   ·exact h
  ·intro h;exact .inr ⟨h,by rw [hx];exact hq⟩
theorem wF {t:List Ent} {p q:List UInt8} (hs:Sorted t) (hq:q≠p):getL (remL t p) q=getL t q :=
 vD (oO hs p) hs fun x hx=>by
  rw [eX]
  exact ⟨fun h=>h.1,fun h=>⟨h,by rw [hx];exact hq⟩⟩
theorem ny (t:List Ent) (q:ByteArray) (p:Option Addr) (cap:Nat) (w:World) (hL:Lies w p t) (hF:Fits t) (hn:t.length<4611686018427387904) (hq:q.size≤maxLen) (hs:Sorted t) (x:Ent) (b:Bool) (hx:(getL t q.data.toList).getD zeroE=x) (hb:(getL t q.data.toList).isSome=b) :
  Calls Tryz.prog 27 #[.slice p t.length cap,.string q] w fun r w'=>r=.returned (.tuple #[.agg #[.string x.path, .int .i64 x.kind, .string x.text, .bool x.opq],.bool b])∧Below w.heap.size w w':=by
 refine (lV t q p cap w hL hF hn hq).mono ?_
 rintro r w' ⟨x',b',rfl,hg,hz,_,hB⟩
 have h1:=Bh (hg hs) hz
 have h2:(getL t q.data.toList).isSome=b':=by rw [hg hs];cases b' <;> rfl
 rw [← hx,h1,← hb,h2]
 exact ⟨rfl,hB⟩
theorem upA {w W:World} {o o2:Obj} (h:Below (w.heap.size+1) (w.alloc o) W):Below (w.heap.size+1) (w.alloc o) (W.alloc o2):=h.alloc (by have:=h.size;simpa using this) _
theorem zi {t:List Ent} {k:Nat} {y:Ent} (hy:t[k]?=some y):ownL (t.take (k+1))=ownL (t.take k)++(if y.kind=4 then [] else [fF y]):=by
 unfold ownL
 rw [dh hy,List.filter_append,List.map_append]
 by_cases h1:y.kind=4 <;> simp [h1]
theorem zk (t:List Ent) (k:Nat):(ownL (t.take k)).length≤k:=by
 unfold ownL
 rw [List.length_map]
 refine Nat.le_trans (List.length_filter_le _ _) ?_
 rw [List.length_take];exact Nat.min_le_left _ _
set_option maxHeartbeats 4000000 in
set_option maxRecDepth 100000 in
theorem IL (t:List Ent) (p:Option Addr) (cap:Nat) (w:World) (hL:Lies w p t) (hn80:t.length≤80) :
  Calls Tryz.prog 158 #[.slice p t.length cap] w (uH (ownL t) w):=by
 have HL:Aside (Lies w p t):=hL
 obtain ⟨n,hnl⟩:∃ n,n=t.length:=⟨_,rfl⟩
 have HN:Aside (n=t.length):=hnl
 rw [← hnl] at hn80 ⊢
 clear hnl hL
 go_enter Tryz.func158,Tryz.ntmps158
 go_wp2
 go_loopg [3,8] n (fun gg v i wr=>∃ (k:Nat) (l:List Ent),k≤n∧n-k≤gg∧i=.int .i64 k∧l.length≤k∧Aside (Rows wr w.heap.size v l)∧Aside (Below w.heap.size w wr)∧Aside (l=ownL (t.take k)))
 case atStart=>exact ⟨0,[],Nat.zero_le _,by omega,rfl,Nat.le_refl _,Rows.nil _ _,Below.refl _ _,rfl⟩
 case round =>
  obtain ⟨k,l,hk,hgg,rfl,hbl,ST,BW,NM⟩:=hrel
  by_cases hlt:k<n
  ·have hltz:(k:Int)<(n:Int):=by omega
   obtain ⟨y,hy⟩:∃ y,t[k]?=some y:=⟨_,List.getElem?_eq_getElem (by have:=HN.out;omega)⟩
   have HY:Aside (t[k]?=some y):=hy
   rcases HL.out with h0 | ⟨b,off,rfl,hb,hc⟩
   ·rw [h0] at hy;simp at hy
   obtain ⟨c0,c1,c2,c3⟩:=Lies.cells hc hb BW.out hy
   clear hc hy
   have hws:w.heap.size≤wr.heap.size:=BW.out.size
   by_cases hk4:y.kind=4
   ·have HS:Aside (ownL (t.take (k+1))=l):=by show _=_;rw [zi HY.out,if_pos hk4,List.append_nil,NM.out]
    go_wp2
    go_roundg (n-(k+1))
    case measure=>omega
    case rel=>exact ⟨k+1,l,by omega,by omega,by go_num,by omega,ST.out.below ((Grown.refl wr).alloc _).below,BW.out.alloc BW.out.size _,HS.out.symm⟩
   ·have HS:Aside (ownL (t.take (k+1))=l++[fF y]):=by show _=_;rw [zi HY.out,if_neg hk4,NM.out]
    have HA:Aside (Below wr.heap.size wr (wr.alloc (.cells #[.string y.path,.int .i64 y.kind,.string y.text,.bool false] 53))):=((Grown.refl wr).alloc _).below
    have hR1:=ST.out.below HA.out
    go_wp2_with (at_builtin;refine jR (wr.alloc (.cells #[.string y.path,.int .i64 y.kind,.string y.text,.bool false] 53)) (fF y) rfl _ _ rfl w.heap.size _ l rfl hR1 (by omega) (by simp;omega) _ (by simp) rfl ?_;clear hR1;intro v4 w4 hR4 hB4 hC4 hs4;have HR4:Aside (Rows w4 w.heap.size v4 (l++[fF y])):=hR4;have HB4:Aside (Below w.heap.size w w4):=(Below.onto BW.out HA.out).trans hB4;clear hR4 hB4 hC4)
    go_roundg (n-(k+1))
    case measure=>omega
    case rel=>exact ⟨k+1,l++[fF y],by omega,by omega,by go_num,by simp;omega,HR4.out,HB4.out,HS.out.symm⟩
  ·have hltz:¬ (k:Int)<(n:Int):=by omega
   have HE:Aside (ownL t=l):=by
    show _=_
    rw [NM.out,List.take_of_length_le (by have:=HN.out;omega)]
   go_wp2
   go_ret
   exact ⟨⟨_,rfl,by rw [HE.out];exact ST.out⟩,BW.out⟩
theorem FQ {l t:List Ent} {k:Nat} {y:Ent} (hy:t[k]?=some y):bP l (t.take (k+1))=bP l (t.take k)++(if kJ l y then [y] else []):=by
 unfold bP
 rw [dh hy,List.filter_append]
 cases h1:kJ l y <;> simp [h1]
theorem xV (l t:List Ent) (k:Nat):(bP l (t.take k)).length≤k:=by
 unfold bP
 refine Nat.le_trans (List.length_filter_le _ _) ?_
 rw [List.length_take];exact Nat.min_le_left _ _
set_option maxHeartbeats 4000000 in
set_option maxRecDepth 100000 in
theorem AO (l t:List Ent) (pl p:Option Addr) (capl cap:Nat) (w:World) (hLl:Lies w pl l) (hL:Lies w p t) (hFl:Fits l) (hF:Fits t) (hs:Sorted l) (hl80:l.length≤80) (hn80:t.length≤80) :
  Calls Tryz.prog 159 #[.slice pl l.length capl,.slice p t.length cap] w (uH (bP l t) w):=by
 have HL:Aside (Lies w p t):=hL
 have HFt:Aside (Fits t):=hF
 have HGE:Aside (∀ (y:Ent) W,y∈t→Below w.heap.size w W→∀ x b,(getL l y.p).getD zeroE=x→(getL l y.p).isSome=b→Calls Tryz.prog 27 #[.slice pl l.length capl,.string y.path] W fun r w'=>r=.returned (.tuple #[.agg #[.string x.path, .int .i64 x.kind, .string x.text, .bool x.opq],.bool b])∧Below W.heap.size W w') :=
  fun y W hy hB x b hx hb=>ny l y.path pl capl W (hLl.kept hB) hFl (by omega) (hF y hy).1 hs x b hx hb
 have HHI:Aside (∀ (y:Ent) W,y∈t→Below w.heap.size w W→Calls Tryz.prog 203 #[.slice pl l.length capl,.string y.path] W fun r w'=>r=.returned (.bool (bI l y.p))∧Grown W w') :=
  fun y W hy hB=>rC l y.path pl capl W (hLl.kept hB) hFl (by omega) (hF y hy).1
 obtain ⟨n,hnl⟩:∃ n,n=t.length:=⟨_,rfl⟩
 have HN:Aside (n=t.length):=hnl
 rw [← hnl] at hn80 ⊢
 obtain ⟨nl,hnll⟩:∃ nl,nl=l.length:=⟨_,rfl⟩
 rw [← hnll] at HGE HHI hl80 ⊢
 clear hnl hnll hL hF hLl hFl
 go_enter Tryz.func159,Tryz.ntmps159
 go_wp2
 go_loopg [5,12] n (fun gg v i wr=>∃ (k:Nat) (r:List Ent),k≤n∧n-k≤gg∧i=.int .i64 k∧r.length≤k∧Aside (Rows wr w.heap.size v r)∧Aside (Below w.heap.size w wr)∧Aside (r=bP l (t.take k)))
 case atStart=>exact ⟨0,[],Nat.zero_le _,by omega,rfl,Nat.le_refl _,Rows.nil _ _,Below.refl _ _,rfl⟩
 case round =>
  obtain ⟨k,r,hk,hgg,rfl,hbl,ST,BW,NM⟩:=hrel
  by_cases hlt:k<n
  ·have hltz:(k:Int)<(n:Int):=by omega
   obtain ⟨y,hy⟩:∃ y,t[k]?=some y:=⟨_,List.getElem?_eq_getElem (by have:=HN.out;omega)⟩
   have HY:Aside (t[k]?=some y):=hy
   have HM:Aside (y∈t):=List.mem_of_getElem? hy
   rcases HL.out with h0 | ⟨b,off,rfl,hb,hc⟩
   ·rw [h0] at hy;simp at hy
   obtain ⟨c0,c1,c2,c3⟩:=Lies.cells hc hb BW.out hy
   clear hc hy
   have hws:w.heap.size≤wr.heap.size:=BW.out.size
   obtain ⟨⟨xp,xk,xt,xo⟩,hxx⟩:∃ x,(getL l y.p).getD zeroE=x:=⟨_,rfl⟩
   obtain ⟨bb,hbb⟩:∃ bb,(getL l y.p).isSome=bb:=⟨_,rfl⟩
   have HSE:Aside (kJ l y=(!bb && !bI l y.p)):=by
    show _=_
    rw [kJ,← hbb]
    cases getL l y.p <;> rfl
   have hge:=HGE.out y (wr.alloc (.cells #[.string y.path, .int .i64 y.kind, .string y.text, .bool y.opq] 53)) HM.out (BW.out.alloc BW.out.size _) _ bb hxx hbb
   clear hxx hbb
   have HST:Aside (bP l (t.take (k+1))=r++(if kJ l y then [y] else [])):=by show _=_;rw [FQ HY.out,NM.out]
   cases bb with
   | true =>
    have HS:Aside (bP l (t.take (k+1))=r):=by show _=_;rw [HST.out,HSE.out];simp
    go_wp2_with (go_at_call 27;refine hge.mono ?_;clear hge;rintro rr w2 ⟨rfl,hB2⟩;have HB2:Aside (Below wr.heap.size wr (w2.alloc (.cells #[.string xp,.int .i64 xk,.string xt,.bool xo] 53))):=nW (hB2.alloc hB2.size _);clear hB2)
    go_roundg (n-(k+1))
    case measure=>omega
    case rel=>exact ⟨k+1,r,by omega,by omega,by go_num,by omega,ST.out.below HB2.out,Below.onto BW.out HB2.out,HS.out.symm⟩
   | false =>
    have hhi:=fun W=>HHI.out y W HM.out
    generalize bI l y.p=hd at hhi HSE
    cases hd with
    | true =>
     have HS:Aside (bP l (t.take (k+1))=r):=by show _=_;rw [HST.out,HSE.out];simp
     go_wp2_with (first
      | (go_at_call 27;refine hge.mono ?_;clear hge;rintro rr w2 ⟨rfl,hB2⟩;obtain ⟨⟨d0,d1,d2,d3⟩,_⟩:=new4 (by simp) hB2;have hs2:=hB2.size;simp at hs2;have hne2 : wr.heap.size ≠ w2.heap.size:=by omega
         have hlt2:wr.heap.size<w2.heap.size:=by omega
         have HB2:Aside (Below wr.heap.size wr (w2.alloc (.cells #[.string xp,.int .i64 xk,.string xt,.bool xo] 53))):=nW (hB2.alloc hB2.size _);clear hB2)
      | (go_at_call 203;refine (hhi _ (Below.onto BW.out HB2.out)).mono ?_;clear hhi;rintro rr w3 ⟨rfl,hG3⟩;have HB3:Aside (Below wr.heap.size wr w3):=Below.onto HB2.out hG3.below;clear hG3))
     go_roundg (n-(k+1))
     case measure=>omega
     case rel=>exact ⟨k+1,r,by omega,by omega,by go_num,by omega,ST.out.below HB3.out,Below.onto BW.out HB3.out,HS.out.symm⟩
    | false =>
     have HS:Aside (bP l (t.take (k+1))=r++[y]):=by show _=_;rw [HST.out,HSE.out];simp
     go_wp2_with (first
      | (go_at_call 27;refine hge.mono ?_;clear hge;rintro rr w2 ⟨rfl,hB2⟩;obtain ⟨⟨d0,d1,d2,d3⟩,_⟩:=new4 (by simp) hB2;have hs2:=hB2.size;simp at hs2;have hne2 : wr.heap.size ≠ w2.heap.size:=by omega
         have hlt2:wr.heap.size<w2.heap.size:=by omega
         have HB2:Aside (Below (wr.alloc (.cells #[.string y.path, .int .i64 y.kind, .string y.text, .bool y.opq] 53)).heap.size (wr.alloc (.cells #[.string y.path, .int .i64 y.kind, .string y.text, .bool y.opq] 53)) (w2.alloc (.cells #[.string xp,.int .i64 xk,.string xt,.bool xo] 53))):=hB2.alloc hB2.size _;clear hB2)
      | (go_at_call 203;refine (hhi _ (Below.onto BW.out (nW HB2.out))).mono ?_;clear hhi;rintro rr w3 ⟨rfl,hG3⟩;have hB3:=HB2.out.trans (hG3.below.mono HB2.out.size);clear hG3 d0 d1 d2 d3;obtain ⟨⟨d0,d1,d2,d3⟩,_⟩:=new4 (by simp) hB3;have HB3:Aside (Below wr.heap.size wr w3):=nW hB3;have hs3:=hB3.size;simp at hs3;clear hB3;have hR1:=ST.out.below HB3.out)
      | (at_builtin;refine jR w3 y rfl _ _ rfl w.heap.size _ r rfl hR1 (by omega) (by omega) _ (by simp) rfl ?_;clear hR1;intro v4 w4 hR4 hB4 hC4 hs4;have HR4:Aside (Rows w4 w.heap.size v4 (r++[y])):=hR4;have HB4:Aside (Below w.heap.size w w4):=(Below.onto BW.out HB3.out).trans hB4;clear hR4 hB4 hC4))
     go_roundg (n-(k+1))
     case measure=>omega
     case rel=>exact ⟨k+1,r++[y],by omega,by omega,by go_num,by simp;omega,HR4.out,HB4.out,HS.out.symm⟩
  ·have hltz:¬ (k:Int)<(n:Int):=by omega
   have HE:Aside (bP l t=r):=by
    show _=_
    rw [NM.out,List.take_of_length_le (by have:=HN.out;omega)]
   go_wp2
   go_ret
   exact ⟨⟨_,rfl,by rw [HE.out];exact ST.out⟩,BW.out⟩
theorem wM (t:List Ent) (m:Int) (p:Option Addr) (cap:Nat) (w:World) (hL:Lies w p t) (hF:Fits t) (hn:t.length<4611686018427387904) (hcap:t.length≤cap) (hm:w.cell? ⟨0,0,none⟩=some (.int .i64 m)) :
  Calls Tryz.prog 110 #[.slice p t.length cap] w fun r w'=>r=.returned (.agg #[.int .i64 (aD true t).1,.int .i64 ((aD true t).2:Nat)])∧Below w.heap.size w w':=by
 have hs:=fun W (hB:Below w.heap.size w W)=>pq t true m p cap W (hL.kept hB) hF hn hcap (held hB hm)
 generalize (aD true t).1=a at hs ⊢
 generalize ((aD true t).2:Int)=b at hs ⊢
 go_enter Tryz.func110,Tryz.ntmps110
 go_wp2_with (go_at_call 49;refine (hs _ ((Below.refl _ _).alloc (Nat.le_refl _) _)).mono ?_;clear hs;rintro rr w1 ⟨rfl,hB1⟩;obtain ⟨⟨r0,r1⟩,⟨f0,f1⟩⟩:=new2 (by simp) hB1)
 refine bodyPost_ret (v:=.agg #[.int .i64 a,.int .i64 b]) (by simp [results,Tryz.results110,go_sem,r0,r1]) rfl ?_
 exact ⟨rfl,jl (hB1.mono (by simp)) _ _⟩
theorem pF (t:List Ent) (m:Int) (p:Option Addr) (cap:Nat) (w:World) (hL:Lies w p t) (hF:Fits t) (hn:t.length<4611686018427387904) (hcap:t.length≤cap) (hm:w.cell? ⟨0,0,none⟩=some (.int .i64 m)) :
  Calls Tryz.prog 76 #[.slice p t.length cap] w fun r w'=>r=.returned (.agg #[.int .i64 (aD true t).1,.int .i64 ((aD true t).2:Nat)])∧Below w.heap.size w w':=by
 have hs:=fun W (hB:Below w.heap.size w W)=>wM t m p cap W (hL.kept hB) hF hn hcap (held hB hm)
 generalize (aD true t).1=a at hs ⊢
 generalize ((aD true t).2:Int)=b at hs ⊢
 go_enter Tryz.func76,Tryz.ntmps76
 go_wp2_with (go_at_call 110;refine (hs _ ((Below.refl _ _).alloc (Nat.le_refl _) _)).mono ?_;clear hs;rintro rr w1 ⟨rfl,hB1⟩;obtain ⟨⟨r0,r1⟩,⟨f0,f1⟩⟩:=new2 (by simp) hB1)
 refine bodyPost_ret (v:=.agg #[.int .i64 a,.int .i64 b]) (by simp [results,Tryz.results76,go_sem,r0,r1]) rfl ?_
 exact ⟨rfl,jl (hB1.mono (by simp)) _ _⟩
theorem sW {ops:Array Oper} {rest:List Oper} {o:Oper} {a:Act} {Q:Exit→Act→World→Prop} (X:World) (hgd:o.guard=none) (s x:Operand)
  (ho:o.op=.call { callee:=.builtin .append,args:=#[s,x],argTypes:=#[23,23] }) (base:Nat) (v:Value) (l:List Ent) (hs:a.eval s=v) (hrow:Rows X base v l) (hlen:l.length≤80) (hbase:base≤X.heap.size)
  (p:Option Addr) (n cap:Nat) (t:List Ent) (hx:a.eval x=.slice p n cap) (hn:n=t.length) (hL:Lies X p t) (hnil:p=none→cap=0) (h80:n≤80)
  (h:∀ v' w',Rows w' base v' (l++t)→Below base X w'→wpList Tryz.prog ops Q rest (a.put o.dst v') w') :
  wpList Tryz.prog ops Q (o::rest) a X:=by
 obtain ⟨i0,hi,hz0,hz1,hz2⟩:=nI
 cases p with
 | none =>
  obtain rfl:cap=0:=hnil rfl
  have ht:t=[]:=by
   rcases hL with h | ⟨b,off,he,_⟩
   ·exact h
   ·cases he
  subst ht
  obtain rfl:n=0:=hn
  refine wpList_append_own_none hgd s x 23 ho base 53 i0 4 Tryz.underlying23 hi v l.length (l.flatMap encE) hs hrow hx ?_
  exact h v X (by rw [List.append_nil];exact hrow) (Below.refl _ _)
 | some ad =>
  refine wpList_append_own X hgd s x 23 ho base 53 i0 _ 4 48 Tryz.underlying23 hi hz0 hz1 hz2 rfl (by decide) v l.length (l.flatMap encE) hs hrow ad n cap (t.flatMap encE) hx (by rw [dH,hn]) (hL.flat (Below.refl _ _)) (fun u hu=>gq hu) (by unfold maxLen;omega) (by omega) hbase ?_
  intro v' w' hown hg _
  refine h v' w' ?_ ((Below.refl base X).grown hg hbase (fun j hj=>(World.ownsRow.lt hrow j hj).1))
  unfold Rows
  rw [List.length_append,List.flatMap_append,← hn]
  exact hown
def eZ (err:Int) (l:List Ent) (w:World) (e:Ending) (w':World):Prop :=
 ∃ p c,e=.returned (.tuple #[.slice p l.length c,.int .i64 err])∧Lies w' p l∧l.length≤c∧(p=none→c=0)∧Below w.heap.size w w'∧∀ b off s,p=some ⟨b,off,s⟩→w.heap.size≤b
theorem eZ.none {err:Int} {w w':World} (hB:Below w.heap.size w w'):eZ err [] w (.returned (.tuple #[.slice .none 0 0,.int .i64 err])) w':=⟨.none,0,rfl,Lies.nil _ _,Nat.le_refl _,fun _=>rfl,hB,nofun⟩
theorem eZ.tree {err:Int} {l:List Ent} {w w':World} {e:Ending} (h:eZ err l w e w'):dn err l w e w':=by
 obtain ⟨p,c,h1,h2,h3,h4,h5,_⟩:=h
 exact ⟨p,c,h1,h2,h3,h4,h5⟩
theorem FH {w w7:World} {v:Value} {l t:List Ent} (h:Rows w7 w.heap.size v (ownL l++bP l t)) (hP:∀ e∈ownL l++bP l t,e.path.size≤maxLen) (h80:(ownL l++bP l t).length≤80) (hB:Below w.heap.size w w7) (hl:Sorted l) (ht:Sorted t) :
  ∃ p c,v=.slice p (ownL l++bP l t).length c∧(ownL l++bP l t).length≤c∧(p=none→c=0)∧(∀ b off s,p=some ⟨b,off,s⟩→w.heap.size≤b) ∧
   Calls Tryz.prog 160 #[.slice p (ownL l++bP l t).length c,.func (.func 161) #[] #[]] w7 fun e w8=>e=.returned (.tuple #[])∧Lies w8 p (fE l t)∧Below w.heap.size w w8:=by
 by_cases hv:v=.slice none 0 0
 ·obtain ⟨p,c,hvv,hL,hc,hn⟩:=h.form
  rw [hv] at hvv
  have h0:(ownL l++bP l t).length=0:=by injection hvv with _ h _;exact h.symm
  have hp:p=none:=by injection hvv with h _ _;exact h.symm
  have hc0:c=0:=hn hp
  subst hp hc0
  have he:=List.eq_nil_of_length_eq_zero h0
  refine ⟨none,0,by rw [hv,h0],by omega,fun _=>rfl,nofun,?_⟩
  rw [h0]
  refine (G8 w7).mono ?_
  rintro e w8 ⟨rfl,rfl⟩
  have:fE l t=[]:=(BA hl ht (r:=[]) (by rw [he]) List.Pairwise.nil).symm
  rw [this]
  exact ⟨rfl,Lies.nil _ _,hB⟩
 ·obtain ⟨g,c,e,hg,ho⟩:=Own.iC h hv rfl
  refine ⟨_,c,e,ho.len,nofun,fun b off s he=>by cases he;exact hg,?_⟩
  refine (qE _ g c w7 ho hP h80).mono ?_
  rintro e w8 ⟨rfl,l',hp,hs,hL,hG⟩
  rw [BA hl ht hp hs] at hL
  exact ⟨rfl,hL,hB.grown hG hB.size (fun k hk=>by cases hk;exact hg)⟩
set_option maxHeartbeats 8000000 in
set_option maxRecDepth 100000 in
theorem GH (l t:List Ent) (m:Int) (pl p:Option Addr) (capl cap:Nat) (w:World) (hLl:Lies w pl l) (hL:Lies w p t) (hFl:Fits l) (hF:Fits t) (hnl:l.length<4611686018427387904) (hn:t.length<4611686018427387904) (hcapl:l.length≤capl) (hcap:t.length≤cap) (hm:w.cell? ⟨0,0,none⟩=some (.int .i64 m)) :
  Calls Tryz.prog 112 #[.slice pl l.length capl,.slice p t.length cap] w (eZ (fq l t) (if fq l t=0 then fE l t else []) w):=by
 have hwl:=fun W (hB:Below w.heap.size w W)=>pF l m pl capl W (hLl.kept hB) hFl hnl hcapl (held hB hm)
 have hwt:=fun W (hB:Below w.heap.size w W)=>iZ t m p cap W (hL.kept hB) hF hn hcap (held hB hm)
 have hB:Below w.heap.size w w:=Below.refl _ _
 have hfld:=lQ
 obtain ⟨er,hE⟩:∃ er,er=fq l t:=⟨_,rfl⟩
 obtain ⟨rl,hl⟩:∃ rl,rl=if fq l t=0 then fE l t else []:=⟨_,rfl⟩
 rw [← hl,← hE]
 by_cases h1:(aD true l).1=0
 ·by_cases h2:(aD false t).1=0
  ·have HRl:=bM.1 h1
   have HRt:=bM.1 h2
   have hl80:=HRl.len
   have ht80:=HRt.len
   have how:=fun W (hB:Below w.heap.size w W)=>IL l pl capl W (hLl.kept hB) hl80
   have hth:=fun W (hB:Below w.heap.size w W)=>AO l t pl p capl cap W (hLl.kept hB) (hL.kept hB) hFl hF HRl.sorted hl80 ht80
   have HS:Aside (Sorted l∧Sorted t):=⟨HRl.sorted,HRt.sorted⟩
   have ho80:(ownL l).length≤80:=by
    have:=zk l l.length
    rw [List.take_length] at this;omega
   have hh80:(bP l t).length≤80:=by
    have:=xV l t t.length
    rw [List.take_length] at this;omega
   have HP:Aside (∀ e∈ownL l++bP l t,e.path.size≤maxLen):=fun e he=>by
    rcases List.mem_append.1 he with he | he
    ·obtain ⟨y,hy,_,rfl⟩:=gu.1 he
     exact (hFl y hy).1
    ·exact (hF e (fA.1 he).1).1
   have HN:Aside (lg l t=(ownL l++bP l t).length):=rfl
   have HOV:er=if 80<lg l t then 5 else 0:=by rw [hE,fq,if_pos h1,if_pos h2]
   have HRL:Aside (rl=if er=0 then fE l t else []):=by show _=_;rw [hl,hE]
   have HON:Aside (lg l t=(fE l t).length):=(uQ HRl.sorted HRt.sorted).symm
   rw [qZ HRl] at hwl
   rw [qZ HRt] at hwt
   clear hl hE h1 h2 HRl HRt hLl hL hFl hF hm
   obtain ⟨n,hnn⟩:∃ n,n=t.length:=⟨_,rfl⟩
   obtain ⟨nl,hnnl⟩:∃ nl,nl=l.length:=⟨_,rfl⟩
   rw [← hnn] at hwt hth
   rw [← hnnl] at hwl how hth
   rw [← hnn,← hnnl]
   clear hnn hnnl hcapl hcap hn hnl hl80 ht80
   by_cases hN:80<lg l t
   ·have HZ:Aside (er=5∧rl=[]):=by rw [if_pos hN] at HOV;exact ⟨HOV,by rw [HRL.out,HOV];rfl⟩
    have hNz:(80:Int)<((lg l t:Nat):Int):=by omega
    clear HOV
    go_enter Tryz.func112,Tryz.ntmps112
    go_wp2_with (first
     | (go_at_call 76;refine (hwl _ hB).mono ?_;clear hwl;rintro e w1 ⟨rfl,hN1⟩;replace hB:=Below.onto hB hN1;clear hN1)
     | (go_at_call 24;refine (hwt _ hB).mono ?_;clear hwt;rintro e w2 ⟨rfl,hN2⟩;replace hB:=Below.onto hB hN2;clear hN2)
     | (go_at_call 157;refine (gW _ _ _).mono ?_;rintro e w4 ⟨rfl,hw⟩;subst hw;replace hB:=hB.alloc hB.size (.cells #[.int .i64 0,.int .i64 0] 31);rw [show orL [0,0]=0 from rfl])
     | (go_at_call 158;refine (how _ hB).mono ?_;clear how;rintro e w5 ⟨⟨v5,rfl,hR5⟩,hN5⟩;replace hR5:=hR5.mono hB.size;replace hB:=Below.onto hB hN5;clear hN5)
     | (go_at_call 159;refine (hth _ hB).mono ?_;clear hth;rintro e w6 ⟨⟨v6,rfl,hR6⟩,hN6⟩;replace hR5:=hR5.below hN6;replace hB:=Below.onto hB hN6;clear hN6;obtain ⟨p6,c6,rfl,hL6,hc6,hn6⟩:=hR6.form;clear hR6)
     | (at_builtin;refine sW w6 rfl _ _ rfl w.heap.size _ (ownL l) rfl hR5 ho80 hB.size p6 _ c6 (bP l t) rfl rfl hL6 hn6 hh80 ?_;intro v7 w7 hR7 hB7;replace hB:=hB.trans hB7;clear hB7 hR5 hL6;obtain ⟨p7,c7,rfl,hL7,hc7,hn7⟩:=hR7.form;rw [← HN.out] at hc7 ⊢))
    go_ret2
    rw [HZ.out.1,HZ.out.2]
    exact eZ.none hB
   ·have HZ:Aside (er=0∧rl=fE l t):=by rw [if_neg hN] at HOV;exact ⟨HOV,by rw [HRL.out,HOV];rfl⟩
    have hNz:¬ (80:Int)<((lg l t:Nat):Int):=by omega
    clear HOV
    go_enter Tryz.func112,Tryz.ntmps112
    go_wp2_with (first
     | (go_at_call 76;refine (hwl _ hB).mono ?_;clear hwl;rintro e w1 ⟨rfl,hN1⟩;replace hB:=Below.onto hB hN1;clear hN1)
     | (go_at_call 24;refine (hwt _ hB).mono ?_;clear hwt;rintro e w2 ⟨rfl,hN2⟩;replace hB:=Below.onto hB hN2;clear hN2)
     | (go_at_call 157;refine (gW _ _ _).mono ?_;rintro e w4 ⟨rfl,hw⟩;subst hw;replace hB:=hB.alloc hB.size (.cells #[.int .i64 0,.int .i64 0] 31);rw [show orL [0,0]=0 from rfl])
     | (go_at_call 158;refine (how _ hB).mono ?_;clear how;rintro e w5 ⟨⟨v5,rfl,hR5⟩,hN5⟩;replace hR5:=hR5.mono hB.size;replace hB:=Below.onto hB hN5;clear hN5)
     | (go_at_call 159;refine (hth _ hB).mono ?_;clear hth;rintro e w6 ⟨⟨v6,rfl,hR6⟩,hN6⟩;replace hR5:=hR5.below hN6;replace hB:=Below.onto hB hN6;clear hN6;obtain ⟨p6,c6,rfl,hL6,hc6,hn6⟩:=hR6.form;clear hR6)
     | (at_builtin;refine sW w6 rfl _ _ rfl w.heap.size _ (ownL l) rfl hR5 ho80 hB.size p6 _ c6 (bP l t) rfl rfl hL6 hn6 hh80 ?_;intro v7 w7 hR7 hB7;replace hB:=hB.trans hB7;clear hB7 hR5 hL6;obtain ⟨p7,c7,rfl,hc7,hn7,hnw7,hso⟩:=FH hR7 (HP.out) (by rw [← HN.out];omega) hB HS.out.1 HS.out.2;rw [← HN.out] at hc7 hso ⊢)
     | (go_at_call 160;refine hso.mono ?_;clear hso;rintro e w8 ⟨rfl,hL8,hB8⟩))
    go_ret2
    rw [HZ.out.1,HZ.out.2]
    exact ⟨p7,c7,by rw [← HON.out];rfl,hL8,by rw [← HON.out];exact hc7,hn7,hB8,hnw7⟩
  ·have HZ:Aside (er=(aD false t).1∧rl=[]):=by
    have:er=(aD false t).1:=by rw [hE,fq,if_pos h1,if_neg h2]
    refine ⟨this,?_⟩
    rw [hl,← hE,this,if_neg h2]
   rw [h1] at hwl
   generalize (aD false t).1=f at hwt h2 HZ
   generalize ((aD false t).2:Int)=fa at hwt
   generalize ((aD true l).2:Int)=fb at hwl
   clear hl hE hLl hL hFl hF hm
   obtain ⟨n,hnn⟩:∃ n,n=t.length:=⟨_,rfl⟩
   obtain ⟨nl,hnnl⟩:∃ nl,nl=l.length:=⟨_,rfl⟩
   rw [← hnn] at hwt
   rw [← hnnl] at hwl
   rw [← hnn,← hnnl]
   clear hnn hnnl hcapl hcap hn hnl
   have HOR:Aside (orL [0,f]=f):=by show _=_;rw [orL,if_pos rfl,orL];split <;> simp_all
   go_enter Tryz.func112,Tryz.ntmps112
   go_wp2_with (first
    | (go_at_call 76;refine (hwl _ hB).mono ?_;clear hwl;rintro e w1 ⟨rfl,hN1⟩;replace hB:=Below.onto hB hN1;clear hN1)
    | (go_at_call 24;refine (hwt _ hB).mono ?_;clear hwt;rintro e w2 ⟨rfl,hN2⟩;replace hB:=Below.onto hB hN2;clear hN2)
    | (go_at_call 157;refine (gW _ _ _).mono ?_;rintro e w4 ⟨rfl,hw⟩;subst hw;replace hB:=hB.alloc hB.size (.cells #[.int .i64 0,.int .i64 f] 31);rw [HOR.out]))
   go_ret2
   rw [HZ.out.1,HZ.out.2]
   exact eZ.none hB
 ·have HZ:Aside (er=(aD true l).1∧rl=[]):=by
   have:er=(aD true l).1:=by rw [hE,fq,if_neg h1]
   refine ⟨this,?_⟩
   rw [hl,← hE,this,if_neg h1]
  generalize (aD false t).1=f at hwt
  generalize ((aD false t).2:Int)=fa at hwt
  generalize (aD true l).1=g at hwl h1 HZ
  generalize ((aD true l).2:Int)=fb at hwl
  clear hl hE hLl hL hFl hF hm
  obtain ⟨n,hnn⟩:∃ n,n=t.length:=⟨_,rfl⟩
  obtain ⟨nl,hnnl⟩:∃ nl,nl=l.length:=⟨_,rfl⟩
  rw [← hnn] at hwt
  rw [← hnnl] at hwl
  rw [← hnn,← hnnl]
  clear hnn hnnl hcapl hcap hn hnl
  have HOR:Aside (orL [g,f]=g):=by show _=_;rw [orL,if_neg h1]
  go_enter Tryz.func112,Tryz.ntmps112
  go_wp2_with (first
   | (go_at_call 76;refine (hwl _ hB).mono ?_;clear hwl;rintro e w1 ⟨rfl,hN1⟩;replace hB:=Below.onto hB hN1;clear hN1)
   | (go_at_call 24;refine (hwt _ hB).mono ?_;clear hwt;rintro e w2 ⟨rfl,hN2⟩;replace hB:=Below.onto hB hN2;clear hN2)
   | (go_at_call 157;refine (gW _ _ _).mono ?_;rintro e w4 ⟨rfl,hw⟩;subst hw;replace hB:=hB.alloc hB.size (.cells #[.int .i64 g,.int .i64 f] 31);rw [HOR.out]))
  go_ret2
  rw [HZ.out.1,HZ.out.2]
  exact eZ.none hB
end Go.Proofs.YthfeoiffoeagkaaGreatDoor
namespace Go.Proofs.YthfeoiffoeagkaaGreatDoor
open Go.RowKit Go.Shelf PM
set_option linter.unusedVariables false
attribute [local go_sem] Oper.semAt_some
structure Lay where
 ad:Option Addr
 cap:Nat
 es:List Ent
def KpB (n₀ Bs:Nat) (A B:World):Prop:=Below n₀ A B∧∀ v,A.cell? ⟨Bs,0,none⟩=some v→B.cell? ⟨Bs,0,none⟩=some v
theorem KpB.refl (n₀ Bs:Nat) (A:World):KpB n₀ Bs A A:=⟨Below.refl _ _,fun _ h=>h⟩
theorem KpB.trans {n₀ Bs:Nat} {A B C:World} (h:KpB n₀ Bs A B) (k:KpB n₀ Bs B C):KpB n₀ Bs A C:=⟨h.1.trans k.1,fun v hv=>k.2 v (h.2 v hv)⟩
set_option maxRecDepth 100000 in
set_option maxHeartbeats 2000000 in
theorem yA (F:Fence) (n:Nat) (h7:F.fn 156) (hro:F.round=none) (l Bs:Nat) (a:Option Addr) (cap:Nat) (W:World) (hBs:W.cell? ⟨Bs,0,none⟩=some (.slice a 0 cap)) :
  CallsIn F n Tryz.prog 156 #[.func (.yield l) #[] #[],.pointer (some ⟨Bs,0,none⟩)] W fun e W'=>(∃ v,e=.returned v)∧W'=W:=by
 refine callsIn_of_wp Tryz.func156 rfl h7 ?_ hro
 simp only [Tryz.ntmps156,List.size_toArray,List.length_cons,List.length_nil,Nat.reduceAdd,Nat.reduceSub,Array.replicate_succ,Array.replicate_zero,List.push_toArray,List.append_toArray,List.nil_append,List.cons_append]
 gi_wp2
 gi_loopw [3] (fun i wr=>i=.int .i64 (-1)∧wr=W) (fun _ _=>0)
 case atStart=>exact ⟨rfl,rfl⟩
 case round =>
  obtain ⟨rfl,rfl⟩:=hrel
  gi_wp2
  go_end0
  exact ⟨⟨_,rfl⟩,rfl⟩
set_option maxRecDepth 100000 in
set_option maxHeartbeats 4000000 in
theorem FX {α:Type} (f:α→Nat × Lay) (F:Fence) (n:Nat) (h7:F.fn 156) (hro:F.round=none) (hn:1≤n) (l Bs n₀ b off cap N:Nat) (us:List α) (hN:N=us.length) (h80:N≤80) (hb:b<n₀) (J Jx:List α→World→Prop)
  (hY:∀ pre x W,J pre W→pre.length<N→YieldAt F (n-1) Tryz.prog l #[.int .i64 ((f x).1:Int),.slice (f x).2.ad (f x).2.es.length (f x).2.cap] W fun e W' =>
    (e=.returned (.bool true)∧J (pre++[x]) W'∧KpB n₀ Bs W W')∨(e=.returned (.bool false)∧Jx (pre++[x]) W'))
  (W:World) (hBs:W.cell? ⟨Bs,0,none⟩=some (.slice (some ⟨b,off,none⟩) N cap)) (hc:∀ k x,us[k]?=some x→(f x).1=N-1-k∧W.cell? ⟨b,off+(N-1-k),none⟩=some (.slice (f x).2.ad (f x).2.es.length (f x).2.cap)) (h0:J [] W) :
  CallsIn F n Tryz.prog 156 #[.func (.yield l) #[] #[],.pointer (some ⟨Bs,0,none⟩)] W fun e W'=>(∃ v,e=.returned v) ∧
   ((∃ ys,ys=us∧J ys W')∨(∃ pre,(∃ k,k≤N∧pre=us.take k)∧Jx pre W')):=by
 refine callsIn_of_wp Tryz.func156 rfl h7 ?_ hro
 simp only [Tryz.ntmps156,List.size_toArray,List.length_cons,List.length_nil,Nat.reduceAdd,Nat.reduceSub,Array.replicate_succ,Array.replicate_zero,List.push_toArray,List.append_toArray,List.nil_append,List.cons_append]
 have hw0:IntKind.i64.wrap ((N:Int)-1)=(N:Int)-1:=by simp [IntKind.wrap,IntKind.bits,IntKind.signed];omega
 gi_wp2
 gi_loopw [3] (fun i wr=>∃ k:Nat,k≤N∧i=.int .i64 ((N:Int)-1-k)∧J (us.take k) wr∧KpB n₀ Bs W wr) (fun i _=>(intOf i+1).toNat)
 case atStart=>exact ⟨0,Nat.zero_le _,by simp [hN],by simpa using h0,KpB.refl _ _ _⟩
 case round =>
  obtain ⟨k,hk,rfl,hJs,hnx⟩:=hrel
  by_cases hlt:k<N
  ·obtain ⟨x,hx⟩:∃ x,us[k]?=some x:=⟨_,List.getElem?_eq_getElem (by omega)⟩
   obtain ⟨hf1,hcx0⟩:=hc k x hx
   have hcx:=(hnx.1.cell (p:=⟨b,off+(N-1-k),none⟩) hb).trans hcx0
   have hbx:=hnx.2 _ hBs
   obtain ⟨fn,tmps,assign,body,hy,hR⟩:=hY _ x wr hJs (by rw [List.length_take];omega)
   have hsn:us.take k++[x]=us.take (k+1):=by
    obtain ⟨h1,h2⟩:=List.getElem?_eq_some_iff.1 hx
    rw [List.take_succ_eq_append_getElem h1,h2]
   rw [hsn] at hR
   rw [hf1] at hy
   obtain ⟨j,hj⟩:∃ j,N-1-k=j:=⟨_,rfl⟩
   have hjz:(N:Int)-1-k=(j:Int):=by omega
   have hjN:j<N:=by omega
   have hjNz:(j:Int)<(N:Int):=by omega
   have hj0:(0:Int)≤(j:Int):=by omega
   have hwj:IntKind.i64.wrap ((j:Int)-1)=(j:Int)-1:=by simp [IntKind.wrap,IntKind.bits,IntKind.signed];omega
   rw [hj] at hcx hy
   rw [hjz]
   gi_wp2
   refine hR.mono ?_
   rintro e W3 (⟨rfl,hJ3,hk3⟩ | ⟨rfl,hJx3⟩)
   ·gi_wp2
    go_roundw
    case rel=>exact ⟨k+1,by omega,by congr 1 <;> omega,hJ3,hnx.trans hk3⟩
    case measure=>simp [intOf]
   ·gi_wp2
    refine bodyPost_ret (results_none rfl _ _ _) rfl ?_
    exact ⟨⟨_,rfl⟩,.inr ⟨_,⟨k+1,by omega,rfl⟩,hJx3⟩⟩
  ·obtain rfl:k=N:=by omega
   have hjz:(k:Int)-1-k = -1:=by omega
   rw [hjz]
   gi_wp2
   go_end0
   refine ⟨⟨_,rfl⟩,.inl ⟨_,rfl,?_⟩⟩
   rw [hN,List.take_length] at hJs
   exact hJs
set_option maxHeartbeats 1000000 in
theorem Ik (F:Fence) (n:Nat) (h5:F.fn 111) (hro:F.round=none) (a:Option Addr) (len cap:Nat) (w:World) :
  CallsIn F n Tryz.prog 111 #[.slice a len cap] w fun e w'=>e=.returned (.func (.func 156) #[] #[.pointer (some ⟨w.heap.size,0,none⟩)])∧w'=w.alloc (.cells #[.slice a len cap] 24):=by
 refine callsIn_of_wp Tryz.func111 rfl h5 ?_ hro
 simp only [Tryz.ntmps111,List.size_toArray,List.length_cons,List.length_nil,Nat.reduceAdd,Nat.reduceSub,Array.replicate_succ,Array.replicate_zero,List.push_toArray,List.append_toArray,List.nil_append,List.cons_append]
 gi_wp2
 go_ret
 exact ⟨rfl,rfl⟩
def yg {α:Type} (f:α→Nat × Lay) (us:List α) (W:World) (a:Option Addr) (n₀ N:Nat):Prop :=
 N=us.length∧(us=[]∨∃ b off,a=some ⟨b,off,none⟩∧b<n₀∧∀ k x,us[k]?=some x→(f x).1=N-1-k∧W.cell? ⟨b,off+(N-1-k),none⟩=some (.slice (f x).2.ad (f x).2.es.length (f x).2.cap))
theorem BR {α:Type} (f:α→Nat × Lay) (F:Fence) (n:Nat) (h7:F.fn 156) (hro:F.round=none) (hn:1≤n) (Bs n₀ N cap:Nat) (a:Option Addr) (us:List α) (h80:N≤80) (w:World) (hBs:Bs<w.heap.size) (hn₀:n₀≤w.heap.size)
  (hc:w.cell? ⟨Bs,0,none⟩=some (.slice a N cap)) (hI:yg f us w a n₀ N) :
  SeqStopsK F n Tryz.prog 156 #[.pointer (some ⟨Bs,0,none⟩)] (fun x:α=>#[Value.int .i64 ((f x).1:Int),.slice (f x).2.ad (f x).2.es.length (f x).2.cap]) (KpB n₀ Bs) (fun ys=>ys=us)
   (fun pre=>∃ k,k≤N∧pre=us.take k) N w:=fun l J Jx W hW _ _ hY h0=>by
 have hc':=(hW.cell (p:=⟨Bs,0,none⟩) hBs).trans hc
 obtain ⟨hN,rfl | ⟨b,off,rfl,hb,hcs⟩⟩:=hI
 ·obtain rfl:N=0:=hN
  exact (yA F n h7 hro l Bs a cap W hc').mono fun e W' ⟨he,hw⟩=>⟨he,.inl ⟨_,rfl,by rw [hw];exact h0⟩⟩
 ·exact FX f F n h7 hro hn l Bs n₀ b off cap N us hN h80 hb J Jx hY W hc' (fun k x hx=>⟨(hcs k x hx).1,((hW.mono hn₀).cell (p:=⟨b,off+(N-1-k),none⟩) hb).trans (hcs k x hx).2⟩) h0
theorem JU {w:World} {n₀ Bs:Nat} (h:n₀≤w.heap.size):∀ (W:World) (l:Nat) (o o':Obj),w.heap.size≤l→W.heap[l]?=some o→o.isCells=false→o.isWalk=false→KpB n₀ Bs W (W.putObj l o'):=fun W l o o' h1 h2 h3 h4 =>
 ⟨belowK_b h W l o o' h1 h2 h3 h4,fun v hv=>cell_kept hv (grownBy_putObj' W l o') (fun r e=>by cases e;exact ⟨o,h2,h3⟩)⟩
end Go.Proofs.YthfeoiffoeagkaaGreatDoor
namespace Go.Proofs.YthfeoiffoeagkaaGreatDoor
open Go.RowKit PM Go.Sort
set_option linter.unusedVariables false
theorem neqE (e:Ent) (w:World):Sem.run Tryz.prog (binOp .neq 53 (.agg #[.string e.path, .int .i64 e.kind, .string e.text, .bool e.opq]) (.agg #[.string e.path, .int .i64 e.kind, .string e.text, .bool e.opq])) w=.ok (.bool false) w:=by
 have u3:=Tryz.underlying3
 have a3:=Tryz.isAgg3
 have z3:=Tryz.sizeOf3
 have u9:=Tryz.underlying9
 have a9:=Tryz.isAgg9
 have z9:=Tryz.sizeOf9
 have u4:=Tryz.underlying4
 have a4:=Tryz.isAgg4
 have z4:=Tryz.sizeOf4
 have hS:Tryz.prog.underlying 53=some (.struct (Tryz.prog.fieldsOf 53)):=by kernel_rfl
 have hp:Tryz.prog.stoodInHeld 53=false:=by kernel_rfl
 rw [run_neq_struct,show (10000:Nat)=9999+1 from rfl,run_equalIn_agg w 9999 53 _ _ hS hp]
 simp only [Program.fieldsOf,Tryz.underlying53]
 go_simp
theorem guardE (op:BinOp) (a b:Operand) (x y:Ent) (w:World):(eqGuard op 53 a b (.agg #[.string x.path, .int .i64 x.kind, .string x.text, .bool x.opq]) (.agg #[.string y.path, .int .i64 y.kind, .string y.text, .bool y.opq])).run Tryz.prog w=.ok () w :=
 GuardAt.agg (P:=Tryz.prog) (T:=53) (fun e:Ent=>#[.string e.path, .int .i64 e.kind, .string e.text, .bool e.opq]) (by kernel_rfl) op a b x y w
set_option maxHeartbeats 2000000 in
theorem Kc (l:List Ent) (p p':Option Addr) (c c':Nat) (w:World) (hL:Lies w p l) (hL':Lies w p' l) (hn:l.length<4611686018427387904) :
  Calls Tryz.prog 23 #[.slice p l.length c,.slice p' l.length c'] w fun e w'=>e=.returned (.bool true)∧Below w.heap.size w w':=by
 have H1:Aside (Lies w p l):=hL
 have H2:Aside (Lies w p' l):=hL'
 obtain ⟨n,hnl⟩:∃ n,n=l.length:=⟨_,rfl⟩
 have HN:Aside (n=l.length):=hnl
 rw [← hnl] at hn ⊢
 clear hnl hL hL'
 have hgu:=guardE
 have hneq:=neqE
 go_enter Tryz.func23,Tryz.ntmps23
 go_wp2
 go_loopg [13] n (fun gg s13 wr=>∃ k:Nat,k≤n∧n-k≤gg∧s13=.int .i64 k∧Aside (Below w.heap.size w wr))
 case atStart=>exact ⟨0,Nat.zero_le _,by omega,rfl,Below.refl _ _⟩
 case round =>
  obtain ⟨k,hk,hgg,rfl,BW⟩:=hrel
  by_cases hlt:k<n
  ·have hltz:(k:Int)<(n:Int):=by omega
   obtain ⟨y,hy⟩:∃ y,l[k]?=some y:=⟨_,List.getElem?_eq_getElem (by have:=HN.out;omega)⟩
   rcases H1.out with h0 | ⟨b,off,rfl,hb,hc⟩
   ·rw [h0] at hy;simp at hy
   rcases H2.out with h0 | ⟨b',off',rfl,hb',hc'⟩
   ·rw [h0] at hy;simp at hy
   obtain ⟨c0,c1,c2,c3⟩:=Lies.cells hc hb BW.out hy
   obtain ⟨d0,d1,d2,d3⟩:=Lies.cells hc' hb' BW.out hy
   clear hc hc' hy
   go_wp2
   go_quiet (fail)
   go_wp2
   go_roundg (n-(k+1))
   case measure=>omega
   case rel=>exact ⟨k+1,by omega,by omega,by go_num,below_drewN BW.out _⟩
  ·have hltz:¬ (k:Int)<(n:Int):=by omega
   go_wp2
   go_ret
   exact ⟨rfl,BW.out⟩
end Go.Proofs.YthfeoiffoeagkaaGreatDoor
