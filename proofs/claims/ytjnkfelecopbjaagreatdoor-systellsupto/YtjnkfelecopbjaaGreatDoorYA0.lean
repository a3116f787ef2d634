import Derived.Test.YtjnkfelecopbjaaGreatDoorShelf
import Derived.WalkLawsBesides
import Derived.WalkSpells
import Derived.BigQuiet
import Derived.Shelf.Strings.PiecesUse
import Derived.Shelf.SlSortCmp.QuietGrown
import Derived.Shelf.SlicesQ.Load
import Derived.Test.YtjnkfelecopbjaaGreatDoorYAl
open Go.Proofs.Tryz
open Go.Value renaming int->aa,string->ai,bool->aq
open Go.IntKind renaming i64->ag
open Go renaming World->aw,Aside->ax,Calls->ay,Addr->aJ
open _root_ renaming ByteArray->aA,List->aB,Option->aC,UInt8->aD,Nat->aE,Int->aF,absurd->aG
open Bool renaming false->aH,true->aI
open Go.Ending renaming returned->aK
open Option renaming some->aO
open Go.Proofs.Tryz renaming prog->aP
set_option linter.all false
set_option maxHeartbeats 4000000
namespace Go.Proofs.YtjnkfelecopbjaaGreatDoor
abbrev bj:=@Go.Lib.cell?_alloc_some
abbrev bq:=@Go.Lib.toList_data
abbrev cG:=@Go.below_drewN
abbrev anT:=@Go.cell_grown
abbrev anU:=@Go.Calls.grown_of
abbrev og:=@Go.cell_one_new
abbrev yz:=@Go.Lib.extract_to_end
abbrev EG:=@Go.Lib.extract_from_zero
abbrev Ug:=@Go.Lib.extract_data
end Go.Proofs.YtjnkfelecopbjaaGreatDoor
namespace Go.Proofs.YtjnkfelecopbjaaGreatDoor.PM
open Go.Lib
def okB(c:aD):Bool:=(decide (97<=c) && decide (c<=122)) || (decide (48<=c) && decide (c<=57))
def named(l:aB aD):Bool:=!l.isEmpty && decide (l.length<=12) && l.all okB
def pa(eI:aB aD):aB aD->aB (aB aD)
 | []=>[eI]
 | c::r=>if c=47 then eI::pa [] r else pa (eI++[c]) r
def parts(l:aB aD):aB (aB aD):=pa [] l
def anI(l:aB aD):Bool:=decide (l.length<=80) && (parts l).all named
theorem V3(l:aB aD):∀ eI,(∀ c∈l,c≠47)->pa eI l=[eI++l]:=by
 induction l with
 | nil=>intro eI _;simp[pa]
 | cons c r ih =>intro eI h;rw[pa,aW (h c (by simp)),ih _ (fun d hd=>h d (by simp[hd]))];simp
theorem Tf(a:aB aD):∀ (eI b:aB aD),(∀ c∈a,c≠47)->pa eI (a++47::b)=(eI++a)::pa [] b:=by
 induction a with
 | nil=>intro eI b _;simp[pa]
 | cons c r ih =>intro eI b h;rw[fF,pa,aW (h c (by simp)),ih _ _ (fun d hd=>h d (by simp[hd]))];simp
theorem jH(l:aB aD)(h:∀ c∈l,c≠47):parts l=[l]:=by rw[parts,V3 l [] h];rfl
theorem jR(a b:aB aD)(h:∀ c∈a,c≠47):parts (a++47::b)=a::parts b:=by rw[parts,Tf a [] b h];rfl
theorem mE(l:aB aD):(∀ c∈l,c≠47)\/∃ a b,l=a++47::b/\∀ c∈a,c≠47:=by
 induction l with
 | nil=>exact .inl (by simp)
 | cons c r ih=>
  by_cases hc:c=47
  ·exact .inr ⟨[],r,by simp[hc],by simp⟩
  ·rcases ih with h|⟨a,b,e,h⟩
   ·exact .inl (fun d hd=>by rcases cX.1 hd with rfl|hd;exact hc;exact h d hd)
   ·exact .inr ⟨c::a,b,by simp[e],fun d hd=>by rcases cX.1 hd with rfl|hd;exact hc;exact h d hd⟩
theorem Jk(l eI:aB aD):pa eI l≠[]:=by
 induction l generalizing eI with
 | nil=>simp[pa]
 | cons c r ih=>rw[pa];split<;>simp[ih]
theorem PI(l eI:aB aD):(pa eI l).length<=l.length+1:=by
 induction l generalizing eI with
 | nil=>simp[pa]
 | cons c r ih=>rw[pa];split<;>simp<;>have:=ih []<;>have:=ih (eI++[c])<;>omega
theorem qP(l:aB aD):(parts l).length<=l.length+1:=PI l []
theorem Zj(l eI p:aB aD)(h:p∈pa eI l):p.length<=eI.length+l.length:=by
 induction l generalizing eI with
 | nil=>simp[pa]at h;subst h;simp
 | cons c r ih=>
  rw[pa]at h;split at h
  ·rcases cX.1 h with rfl|h
   ·simp
   ·have:=ih [] h;simp at this ⊢;omega
  ·have:=ih _ h;simp at this ⊢;omega
theorem PN{l p:aB aD}(h:p∈parts l):p.length<=l.length:=by have:=Zj l [] p h;simpa using this
/-! the last sw -/
def kd(l:aB aD):aB aD × aB aD:=
 match (parts l).reverse with
 | []=>([],l)
 | n::r=>(r.reverse.intersperse [47] |>.flatten,n)
theorem Lo(p:aB aD)(r:aB (aB aD))(h:r≠[]):((p::r).intersperse [47]).flatten=p++47::(r.intersperse [47]).flatten:=by
 cases r with
 | nil=>exact aG rfl h
 | cons q s=>simp[List.intersperse]
theorem q9(l:aB aD)(h:∀ c∈l,c≠47):kd l=([],l):=by simp[kd,jH l h]
theorem Du(a b:aB aD)(h:∀ c∈b,c≠47):parts (a++47::b)=parts a++[b]:=by
 have key:∀ (n:aE) (a:aB aD),a.length<=n->parts (a++47::b)=parts a++[b]:=by
  intro n;induction n with
  | zero =>intro a ha;obtain rfl:a=[]:=dr.1 (by omega);rw[jR [] b (by simp),jH b h];rfl
  | succ n ih=>
   intro a ha;rcases mE a with hf|⟨x,y,rfl,hx⟩
   ·rw[jR a b hf,jH b h,jH a hf];rfl
   ·rw[gl,fF,jR x _ hx,jR x y hx,ih y (by simp at ha;omega)];rfl
 exact key a.length a (aV _)
theorem I2(l:aB aD):((parts l).intersperse [47]).flatten=l:=by
 have key:∀ (n:aE) (l:aB aD),l.length<=n->((parts l).intersperse [47]).flatten=l:=by
  intro n;induction n with
  | zero =>intro l hl;obtain rfl:l=[]:=dr.1 (by omega);simp[parts,pa]
  | succ n ih=>
   intro l hl;rcases mE l with hf|⟨x,y,rfl,hx⟩
   ·rw[jH l hf];simp
   ·rw[jR x y hx,Lo x (parts y) (Jk y []),ih y (by simp at hl;omega)]
 exact key l.length l (aV _)
theorem iC(a b:aB aD)(h:∀ c∈b,c≠47):kd (a++47::b)=(a,b):=by simp only[kd,Du a b h,ahy,List.reverse_cons,List.reverse_nil,fo,List.singleton_append,List.reverse_reverse,I2]
theorem nT(l:aB aD):(∀ c∈l,c≠47)\/∃ a b,l=a++47::b/\∀ c∈b,c≠47:=by
 induction l with
 | nil=>exact .inl (by simp)
 | cons c r ih=>
  rcases ih with h|⟨a,b,e,h⟩
  ·by_cases hc:c=47
   ·exact .inr ⟨[],r,by simp[hc],h⟩
   ·exact .inl (fun d hd=>by rcases cX.1 hd with rfl|hd;exact hc;exact h d hd)
  ·exact .inr ⟨c::a,b,by simp[e],h⟩
def fH(d n:aB aD):aB aD:=if d.isEmpty then n else d++47::n
def anG(s d:aB aD):Bool:=if d.isEmpty then !s.isEmpty else(d++[47]).isPrefixOf s
theorem eB(s d:aB aD)(h:d≠[]):anG s d=aI↔∃ r,s=d++47::r:=by
 cases d with
 | nil=>exact aG rfl h
 | cons c d=>
  simp only[anG,List.isEmpty_cons,dI,pk,List.isPrefixOf_iff_prefix];constructor
  ·rintro⟨r,e⟩;exact⟨r,by rw[<- e];simp⟩
  ·rintro⟨r,e⟩;exact⟨r,by rw[e];simp⟩
/-! the order -/
def rk(c:aD):aF:=if c=47 then 1 else 2+(c.toNat:aF)
theorem ux(c:aD):1<=rk c/\rk c<=257:=by unfold rk;have:=c.toNat_lt;split<;>omega
theorem Zn{a b:aD}(h:rk a=rk b):a=b:=by
 unfold rk at h;split at h<;>split at h
 ·simp[*]
 ·omega
 ·omega
 ·exact Cd.1 (by omega)
def cmp:aB aD->aB aD->aF
 | [],[]=>0
 | [],b::_=>0-rk b
 | a::_,[]=>rk a
 | a::x,b::y=>if a=b then cmp x y else rk a-rk b
theorem rA:∀ a b,cmp a b = - cmp b a
 | [],[]=>by simp[cmp]
 | [],b::_=>by simp[cmp]
 | a::_,[]=>by simp[cmp]
 | a::x,b::y=>by
  by_cases h:a=b
  ·subst h;simp only[cmp,mU];exact rA x y
  ·have h':¬ b=a:=fun e=>h e.symm
   simp only[cmp,aW h,aW h'];omega
theorem mG:∀ a b,cmp a b=0↔a=b
 | [],[]=>by simp[cmp]
 | [],b::_=>by have:=ux b;simp[cmp];omega
 | a::_,[]=>by have:=ux a;simp[cmp];omega
 | a::x,b::y=>by
  by_cases h:a=b
  ·subst h;simp only[cmp,mU,List.cons.injEq,true_and];exact mG x y
  ·have:rk a≠rk b:=fun e=>h (Zn e)
   rw[cmp,aW h];constructor
   ·intro e;omega
   ·intro e;exact aG (List.cons.inj e).1 h
theorem mY:∀ a b c,cmp a b<0->cmp b c<0->cmp a c<0
 | [],[],_=>by simp[cmp]
 | [],_::_,[]=>by rename_i b _;have:=ux b;simp[cmp];omega
 | [],_::_,_::_=>by rename_i _ _ c _;have:=ux c;simp[cmp];omega
 | a::_,[],_=>by have:=ux a;simp[cmp];omega
 | _::_,b::_,[]=>by have:=ux b;simp[cmp];omega
 | a::x,b::y,c::z=>by
  by_cases h1:a=b
  ·subst h1
   by_cases h2:a=c
   ·subst h2;simp only[cmp,mU];exact mY x y z
   ·simp only[cmp,mU,aW h2];intro _ h;exact h
  ·by_cases h2:b=c
   ·subst h2;simp only[cmp,mU,aW h1];intro h _;exact h
   ·simp only[cmp,aW h1,aW h2]
    intro h h';have h3:¬ a=c:=by rintro rfl;omega
    rw[aW h3];omega
theorem Ab(a r:aB aD):cmp a (a++47::r)<0:=by
 induction a with
 | nil=>simp[cmp,rk]
 | cons c a ih=>simpa[cmp]using ih
/-! what a anI path's directory and name are -/
theorem Og(l:aB aD)(h:anI l=aI):fH (kd l).1 (kd l).2=l/\named (kd l).2=aI/\((kd l).1=[]\/anI (kd l).1=aI)/\anG l (kd l).1=aI/\anG (kd l).1 l=aH:=by
 simp only[anI,fh,ew,sP]at h;obtain⟨hl,hn⟩:=h;have hne:l≠[]:=by rintro rfl;have:=hn [] (by simp[parts,pa]);simp[named]at this
 have Ep:∀ d:aB aD,d.length<l.length->anG d l=aH:=by
  intro d hd;cases hu:anG d l with
  | false=>rfl
  | true =>obtain⟨r,e⟩:=(eB d l hne).1 hu;rw[e]at hd;simp at hd;omega
 rcases nT l with hf|⟨a,b,rfl,hb⟩
 ·rw[q9 l hf]
  rw[jH l hf]at hn;refine⟨by simp[fH],hn l (by simp),.inl rfl,?_,?_⟩
  ·simp[anG,hne]
  ·exact Ep [] (by cases l with|nil=>exact aG rfl hne|cons=>simp)
 ·rw[iC a b hb]
  rw[Du a b hb]at hn;have qd:a≠[]:=by rintro rfl;have:=hn [] (by simp[parts,pa]);simp[named]at this
  have afr:a.isEmpty=aH:=by cases a with|nil=>exact aG rfl qd|cons=>rfl
  refine⟨by simp[fH,afr],hn b (by simp),.inr ?_,(eB _ _ qd).2 ⟨b,rfl⟩,Ep a (by simp)⟩;simp only[anI,fh,ew,sP];exact⟨by simp at hl;omega,fun p hp=>hn p (by simp[hp])⟩
end Go.Proofs.YtjnkfelecopbjaaGreatDoor.PM
namespace Go.Proofs.YtjnkfelecopbjaaGreatDoor.PM
open Go.Lib Go.RowKit
theorem De(l:aB aD)(h:∀ c∈l,c≠47):index l [47] = -1:=by
 induction l with
 | nil=>rfl
 | cons c r ih=>
  have hc:(47:aD)≠c:=fun e=>h c (by simp) e.symm
  have hr:=ih (fun d hd=>h d (by simp[hd]));simp[index,List.isPrefixOf,hc,hr]
theorem A2(a b:aB aD)(h:∀ c∈a,c≠47):index (a++47::b) [47]=a.length:=by
 induction a with
 | nil=>simp[index,List.isPrefixOf]
 | cons c r ih=>
  have hc:(47:aD)≠c:=fun e=>h c (by simp) e.symm
  have hr:=ih (fun d hd=>h d (by simp[hd]));have hne:¬ ((r.length:aF) = -1):=by omega
  simp[index,List.isPrefixOf,hc,hr,hne]
theorem GP(l:aB aD):splitK [47] 0 (count l [47]) l=parts l:=by
 have key:∀ (n:aE) (l:aB aD),l.length<=n->splitK [47] 0 (count l [47]) l=parts l:=by
  intro n;induction n with
  | zero =>intro l hl;obtain rfl:l=[]:=dr.1 (by omega);rw[count_miss (De [] (by simp))];rfl
  | succ n ih=>
   intro l hl;rcases mE l with hf|⟨x,y,rfl,hx⟩
   ·rw[count_miss (De l hf),jH l hf];rfl
   ·have hd:(x++47::y).drop (x.length+1)=y:=by simp
    have hc:=count_hit (by simp) (A2 x y hx);rw[show([47]:aB aD).length=1 from rfl,hd,nA]at hc;rw[hc,splitK,A2 x y hx,jR x y hx];have hne:¬ (((x.length:aE):aF) == -1)=aI:=by simp
    rw[aW hne,show([47]:aB aD).length=1 from rfl,Kl,hd,ih y (by simp at hl;omega)];simp
 exact key l.length l (aV _)
theorem Bv(s:aA):(splitB ⟨#[47]⟩ 0 (countB s ⟨#[47]⟩) s).map (·.data.toList)=parts s.data.toList:=by rw[splitB_data];exact GP _
theorem Fv(s:aA):(splitB ⟨#[47]⟩ 0 (countB s ⟨#[47]⟩) s).length=countB s ⟨#[47]⟩+1:=splitB_all ⟨#[47]⟩ (by decide) 0 _ s rfl
theorem Oc{a b:aA}(h:a.data.toList=b.data.toList):a=b:=by cases a;cases b;congr;exact Array.toList_inj.1 h
/-! the last sw of a byte string -/
theorem ix(s:aA):s.data.toList.length=s.size:=FH
theorem CV(s:aA)(j:aE)(h:j<s.data.toList.length):s.data[j]! = s.data.toList[j]:=by rw[nH s.data j (by rw[<- FH];exact h),mi]
theorem Pn(s:aA)(h:lastIndexByte s 47 = -1):∀ c∈s.data.toList,c≠47:=by
 rcases lastIndexByte_spec s 47 with⟨_,hn⟩|⟨i,_,e,_⟩
 ·intro c hc
  obtain⟨j,hj,rfl⟩:=kc.1 hc;have:=hn j (by rw[<- ix];exact hj);rw[CV s j hj]at this;intro e;rw[e]at this;exact this (by decide)
 ·omega
theorem Fa(s:aA)(i:aE)(h:lastIndexByte s 47=i):i<s.size/\s.data.toList=s.data.toList.take i++47::s.data.toList.drop (i+1)/\∀ c∈s.data.toList.drop (i+1),c≠47:=by
 rcases lastIndexByte_spec s 47 with⟨e,_⟩|⟨i',hi,e,hc,hn⟩
 ·omega
 ·obtain rfl:i'=i:=by omega
  have W9:i'<s.data.toList.length:=by rw[ix];exact hi
  refine⟨hi,?_,?_⟩
  ·have h47:s.data.toList[i']=47:=by
    rw[CV s i' W9]at hc;exact Cd.1 (by have:(47:aD).toNat=47:=rfl;omega)
   conv=>lhs;rw[<- iK i' s.data.toList,cP W9,h47]
  ·intro c Hd
   obtain⟨j,hj,rfl⟩:=kc.1 Hd;have vK:i'+1+j<s.data.toList.length:=by simp only[fZ]at hj;omega
   have:=hn (i'+1+j) (by omega) (by rw[<- ix];exact vK);rw[CV s (i'+1+j) vK]at this;rw[List.getElem_drop];intro e;rw[e]at this;exact this (by decide)
theorem Lt(s:aA):lastIndexByte s 47 = -1\/∃ i:aE,lastIndexByte s 47=i:=by
 rcases lastIndexByte_spec s 47 with⟨e,_⟩|⟨i,_,e,_⟩
 ·exact .inl e
 ·exact .inr ⟨i,e⟩
theorem Ol(s:aA)(h:lastIndexByte s 47 = -1):kd s.data.toList=([],s.data.toList):=q9 _ (Pn s h)
theorem Om(s:aA)(i:aE)(h:lastIndexByte s 47=i):kd s.data.toList=(s.data.toList.take i,s.data.toList.drop (i+1)):=by
 obtain⟨_,h1,h2⟩:=Fa s i h
 conv=>lhs;rw[h1]
 exact iC _ _ h2
end Go.Proofs.YtjnkfelecopbjaaGreatDoor.PM
namespace Go.Proofs.YtjnkfelecopbjaaGreatDoor
open Go.RowKit PM
theorem Dr(c:aD)(w:aw):ay aP 211 #[.int .u8 (c.toNat:aF)] w fun e w'=>e=aK (aq (okB c))/\w'=w:=by
 have e1:okB c=decide (97<=(c.toNat:aF)/\(c.toNat:aF)<=122\/48<=(c.toNat:aF)/\(c.toNat:aF)<=57):=by rw[dN];simp[okB,adm];omega
 have hc:=c.toNat_lt;by_cases h1:97<=(c.toNat:aF)<;>by_cases h2:(c.toNat:aF)<=122<;>by_cases h3:48<=(c.toNat:aF)<;>by_cases h4:(c.toNat:aF)<=57 <;>
 first
 | omega
 | (have e2 : Hid (okB c = decide (97 <= (c.toNat : aF) /\ (c.toNat : aF) <= 122 \/ 48 <= (c.toNat : aF) /\ (c.toNat : aF) <= 57)):=e1
    clear e1;go_enter func211,ntmps211;go_wp2;go_ret;refine⟨?_,rfl⟩;rw[e2.out];simp[*])
theorem Tq(s:aA)(w:aw)(hs:s.size<=maxLen):ay aP 209 #[ai s,aa ag s.size] w fun e w'=>e=aK (aa ag 0)/\w'=w:=by go_enter func209,ntmps209;go_wp2;go_ret;exact⟨rfl,rfl⟩
theorem gu{k:IntKind}{a b:aF}(h:a=b):Ending.returned (.int k a)=aK (.int k b):=by rw[h]
theorem df{a b:Bool}(h:a=b):Ending.returned (aq a)=aK (aq b):=by rw[h]
theorem V8(s:aA)(i:aE)(w:aw)(hs:s.size<=maxLen)(hi:i<s.size):ay aP 209 #[ai s,aa ag i] w fun e w'=>e=aK (aa ag (rk s[i]))/\w'=w:=by
 unfold maxLen at hs;have hc:=(s[i]).toNat_lt;by_cases h:s[i]=47
 ·have H:Hid (rk s[i]=1):=by show _=_;simp[rk,h]
  have h1:((s[i].toNat:aF) == 47)=aI:=by rw[h];rfl
  clear h;go_enter func209,ntmps209;go_wp2;go_ret;exact⟨gu H.symm,rfl⟩
 ·have H:Hid (rk s[i]=2+(s[i].toNat:aF)):=by show _=_;simp[rk,h]
  have h1:((s[i].toNat:aF) == 47)=aH:=by simp only[dw,ne_eq];intro e;exact h (Cd.1 (by have:(47:aD).toNat=47:=rfl;omega))
  clear h;go_enter func209,ntmps209;go_wp2;go_ret;exact⟨gu H.symm,rfl⟩
def yq(s:aA)(i:aE):aF:=if h:i<s.size then rk s[i]else 0
theorem NI(s:aA)(i:aE):0<=yq s i/\yq s i<=257:=by
 unfold yq;split
 ·have:=ux (s[i]'(by assumption));omega
 ·omega
theorem Dw(s:aA)(i:aE)(w:aw)(hs:s.size<=maxLen)(hi:i<=s.size):ay aP 209 #[ai s,aa ag i] w fun e w'=>e=aK (aa ag (yq s i))/\w'=w:=by
 by_cases h:i<s.size
 ·rw[yq,EN h];exact V8 s i w hs h
 ·obtain rfl:i=s.size:=by omega
  rw[yq,BK h];exact Tq s w hs
theorem nE(s:aA)(i:aE)(h:i<s.size):s.data.toList.drop i=s[i]::s.data.toList.drop (i+1):=by rw[cP (by rw[ix];exact h),mi];rfl
theorem Re(a b:aA)(i:aE)(h1:i<a.size)(h2:i<b.size)(h:a[i]=b[i]):cmp (a.data.toList.drop i) (b.data.toList.drop i)=cmp (a.data.toList.drop (i+1)) (b.data.toList.drop (i+1)):=by rw[nE a i h1,nE b i h2,cmp,aY h]
theorem CK(a b:aA)(i:aE)(h1:i<=a.size)(h2:i<=b.size)(h:∀ (x:i<a.size) (y:i<b.size),¬ a[i]=b[i]):cmp (a.data.toList.drop i) (b.data.toList.drop i)=yq a i-yq b i:=by
 unfold yq;by_cases x:i<a.size<;>by_cases y:i<b.size
 ·rw[nE a i x,nE b i y,cmp,aW (h x y),EN x,EN y]
 ·rw[nE a i x,cy (l:=b.data.toList) (by rw[ix];omega),cmp,EN x,BK y];omega
 ·rw[nE b i y,cy (l:=a.data.toList) (by rw[ix];omega),cmp,BK x,EN y]
 ·rw[cy (by rw[ix];omega),cy (l:=b.data.toList) (by rw[ix];omega),cmp,BK x,BK y];rfl
theorem yR{x y:aD}(h:¬ x=y):((x.toNat:aF) == (y.toNat:aF))=aH:=by simp only[dw,ne_eq];intro e;exact h (Cd.1 (by omega))
theorem vE(a b:aA)(w:aw)(ha:a.size<=maxLen)(hb:b.size<=maxLen):ay aP 159 #[ai a,ai b] w fun e w'=>e=aK (aa ag (cmp a b))/\∃ n,w'=w.drewN n:=by
 have ha':=ha;have ot:=hb;unfold maxLen at ha hb;go_enter func159,ntmps159;go_wp2;go_loopw [5] (fun i wr=>∃ k:aE,k<=a.size/\k<=b.size/\i=aa ag k/\Hid (cmp (a.data.toList.drop k) (b.data.toList.drop k)=cmp a b)/\∃ n,wr=w.drewN n) (fun i _=>a.size-(intOf i).toNat)
 case atStart=>exact⟨0,bF _,bF _,rfl,rfl,0,rfl⟩
 case round=>
  obtain⟨k,Nt,j4,rfl,HC,n,rfl⟩:=hrel;have hra:=NI a k;have hrb:=NI b k;by_cases h1:k<a.size
  ·have g1:(k:aF)<(a.size:aF):=by omega
   by_cases h2:k<b.size
   ·have g2:(k:aF)<(b.size:aF):=by omega
    by_cases h3:a[k]=b[k]
    ·have HS:=Re a b k h1 h2 h3
     have HN:Hid (cmp (a.data.toList.drop (k+1)) (b.data.toList.drop (k+1))=cmp a b):=by show _=_;rw[<- HS];exact HC.out
     have h4:((a[k].toNat:aF) == (b[k].toNat:aF))=aI:=by rw[h3];simp
     clear h3 HS HC hra hrb;go_wp2;go_quiet (fail);go_wp2;exact⟨⟨k+1,by omega,by omega,by go_num,HN,_,rfl⟩,by simp[intOf];omega⟩
    ·have HN:Hid (cmp a b.data.toList=yq a k-yq b k):=by show _=_;rw[<- HC.out];exact CK a b k Nt j4 (fun _ _=>h3)
     have h4:((a[k].toNat:aF) == (b[k].toNat:aF))=aH:=yR h3;clear h3 HC;go_wp2;go_quiet (fail);go_wp2_with (go_at_call 209;refine(Dw _ _ _ (by assumption) (by assumption)).mono ?_;rintro e w' ⟨rfl,rfl⟩);go_ret;exact⟨gu HN.symm,_,rfl⟩
   ·have HN:Hid (cmp a b.data.toList=yq a k-yq b k):=by show _=_;rw[<- HC.out];exact CK a b k Nt j4 (fun _ y=>aG y h2)
    have g2:decide ((k:aF)<(b.size:aF))=aH:=by simp;omega
    clear HC;go_wp2;go_quiet (fail);go_wp2_with (go_at_call 209;refine(Dw _ _ _ (by assumption) (by assumption)).mono ?_;rintro e w' ⟨rfl,rfl⟩);go_ret;exact⟨gu HN.symm,_,rfl⟩
  ·have HN:Hid (cmp a b.data.toList=yq a k-yq b k):=by show _=_;rw[<- HC.out];exact CK a b k Nt j4 (fun x _=>aG x h1)
   have g1:decide ((k:aF)<(a.size:aF))=aH:=by simp;omega
   clear HC;go_wp2;go_quiet (fail);go_wp2_with (go_at_call 209;refine(Dw _ _ _ (by assumption) (by assumption)).mono ?_;rintro e w' ⟨rfl,rfl⟩);go_ret;exact⟨gu HN.symm,_,rfl⟩
theorem lX{d:aA}(h:d.data.toList=[]):d.toList.isEmpty=aI:=by rw[bq,h];rfl
theorem jA{d:aA}(h:¬ d.data.toList=[]):d.toList.isEmpty=aH:=by
 rw[bq];cases hh:d.data.toList with
 | nil=>exact aG hh h
 | cons _ _=>rfl
theorem vO{l:aB aD}(h:¬ l=[]):l.isEmpty=aH:=by
 cases l with
 | nil=>exact aG rfl h
 | cons _ _=>rfl
theorem data_append(a b:aA):(a++b).data.toList=a.data.toList++b.data.toList:=by simp
theorem SL(d n:aA)(w:aw)(hl:d.size+n.size<=1000000000):ay aP 162 #[ai d,ai n] w fun e w'=>(∃ r:aA,e=aK (ai r)/\r.data.toList=fH d n)/\w'=w:=by
 by_cases h:d.data.toList=[]
 ·have h1:=lX h
  have HJ:Hid (fH d n.data.toList=n.data.toList):=by show _=_;rw[fH,h];rfl
  clear h;go_enter func162,ntmps162;go_wp2;go_ret;exact⟨⟨_,rfl,HJ.symm⟩,rfl⟩
 ·have h1:=jA h
  have HJ:Hid (fH d n.data.toList=d.data.toList++47::n.data.toList):=by show _=_;rw[fH,vO h];rfl
  clear h;go_enter func162,ntmps162;go_wp2;go_ret;exact⟨⟨_,rfl,by rw[HJ.out,data_append,data_append];simp⟩,rfl⟩
theorem Cf(s:aA)(w:aw)(hs:s.size<4611686018427387904):ay aP 136 #[ai s] w fun e w'=>(∃ d n:aA,e=aK (.tuple #[ai d,ai n])/\d.data.toList=(kd s).1/\n.data.toList=(kd s).2)/\∃ n,w'=w.drewN n:=by
 rcases Lt s with h|⟨i,h⟩
 ·have HC:Hid (kd s.data.toList=([],s.data.toList)):=Ol s h
  go_enter func136,ntmps136;go_wp2_with (go_at_call 180;refine(Tryz.strings_LastIndexByte _ _ hs _).mono ?_;rintro e w' ⟨rfl,rfl⟩);go_ret2;exact⟨⟨_,_,rfl,by rw[HC.out],by rw[HC.out]⟩,0,rfl⟩
 ·have HC:Hid (kd s.data.toList=(s.data.toList.take i,s.data.toList.drop (i+1))):=Om s i h
  have hi:=(Fa s i h).1;go_enter func136,ntmps136;go_wp2_with (go_at_call 180;refine(Tryz.strings_LastIndexByte _ _ hs _).mono ?_;rintro e w' ⟨rfl,rfl⟩);go_quiet (fail);go_wp2;go_ret2;exact⟨⟨_,_,rfl,by rw[HC.out,EG],by rw[HC.out,yz]⟩,_,rfl⟩
/-! Under -/
theorem NN(s d:aA)(h:d.size<=s.size):((s.extract 0 d.size).toList == d.toList)=decide (s.data.toList.take d.size=d.data.toList):=by rw[bq,bq,EG,dN];simp
theorem BA(s d:aA)(hd:¬ d.data.toList=[])(h:s.size<=d.size):anG s d.data.toList=aH:=by
 cases hu:anG s d with
 | false=>rfl
 | true =>obtain⟨r,e⟩:=(eB _ _ hd).1 hu;have:=congrArg List.length e;rw[ix,cJ,ix,cj]at this;omega
theorem DI(s d:aA)(hd:¬ d.data.toList=[])(h:d.size<s.size):anG s d.data.toList=(decide (s[d.size]=47) && decide (s.data.toList.take d.size=d.data.toList)):=by
 rw[dN,eB _ _ hd,fh,ew,ew];have hg:=nE s d.size h;constructor
 ·rintro⟨r,e⟩
  have ht:s.data.toList.take d.size=d.data.toList:=by rw[e,<- ix d,List.take_left'];rfl
  have hdr:s.data.toList.drop d.size=47::r:=by rw[e,<- ix d,List.drop_left'];rfl
  rw[hdr]at hg;exact⟨(List.cons.inj hg).1.symm,ht⟩
 ·rintro⟨h1,h2⟩
  refine⟨s.data.toList.drop (d.size+1),?_⟩
  conv=>lhs;rw[<- iK d.size s.data.toList,h2,hg,h1]
theorem rq(s d:aA)(w:aw)(hs:s.size<=maxLen)(hd:d.size<=maxLen):ay aP 134 #[ai s,ai d] w fun e w'=>e=aK (aq (anG s d))/\w'=w:=by
 unfold maxLen at hs hd;by_cases h:d.data.toList=[]
 ·have h1:=lX h
  have HJ:Hid (anG s d.data.toList = !s.toList.isEmpty):=by show _=_;rw[anG,h,bq];rfl
  clear h;go_enter func134,ntmps134;go_wp2;go_ret;exact⟨df HJ.symm,rfl⟩
 ·have h1:=jA h
  by_cases h2:d.size<s.size
  ·have HU:Hid (anG s d.data.toList=(decide (s[d.size]=47) && decide (s.data.toList.take d.size=d.data.toList))):=DI s d h h2
   have HT:Hid (((s.extract 0 d.size).toList == d.toList)=decide (s.data.toList.take d.size=d.data.toList)):=NN s d (by omega);have g2:(d.size:aF)<(s.size:aF):=by omega
   clear h;by_cases h3:s[d.size]=47
   ·have H3:Hid (s[d.size]=47):=h3
    have h4:((s[d.size].toNat:aF) == 47)=aI:=by rw[h3];rfl
    clear h3;go_enter func134,ntmps134;go_wp2;go_ret;exact⟨df (by rw[HU.out,HT.out];simp[H3.out]),rfl⟩
   ·have H3:Hid (¬ s[d.size]=47):=h3
    have h4:((s[d.size].toNat:aF) == 47)=aH:=yR h3;clear h3;go_enter func134,ntmps134;go_wp2;go_ret;exact⟨df (by rw[HU.out];simp[H3.out]),rfl⟩
  ·have HU:Hid (anG s d.data.toList=aH):=BA s d h (by omega)
   have g2:¬ (d.size:aF)<(s.size:aF):=by omega
   clear h;go_enter func134,ntmps134;go_wp2;go_ret;exact⟨df (by rw[HU.out]),rfl⟩
theorem wR(l:aB aD):named l=aI↔l≠[]/\l.length<=12/\∀ c∈l,okB c=aI:=by simp[named,sP,and_assoc]
theorem Hu(s:aA)(k:aE)(h:k<s.size)(ha:∀ c∈s.data.toList.take k,okB c=aI)(hc:okB s[k]=aI):∀ c∈s.data.toList.take (k+1),okB c=aI:=by
 have e:s.data.toList.take (k+1)=s.data.toList.take k++[s[k]]:=by rw[dC (by rw[ix];exact h),mi];rfl
 rw[e];intro c hm;rcases bZ.1 hm with hm|hm
 ·exact ha c hm
 ·simp at hm;rw[hm];exact hc
theorem zr(s:aA)(k:aE)(h:k<s.size)(hc:okB s[k]=aH):named s.data.toList=aH:=by
 cases hn:named s with
 | false=>rfl
 | true=>
  have:=((wR _).1 hn).2.2 s[k] (by
   have hm:=jb (l:=s.data.toList) (n:=k) (by rw[ix];exact h)
   rwa [mi]at hm)
  rw[hc]at this;cases this
theorem Ay(s:aA)(w:aw)(hs:s.size<=maxLen):ay aP 161 #[ai s] w fun e w'=>e=aK (aq (named s))/\w'=w:=by
 unfold maxLen at hs;by_cases h:s.data.toList=[]
 ·have h1:=lX h
  have HN:Hid (named s.data.toList=aH):=by show _=_;rw[h];rfl
  clear h;go_enter func161,ntmps161;go_wp2;go_ret;exact⟨df HN.symm,rfl⟩
 ·have h1:=jA h
  by_cases h2:s.size<=12
  ·have HE:Hid (s.data.toList≠[]):=h
   have g2:¬ (12:aF)<(s.size:aF):=by omega
   clear h;go_enter func161,ntmps161;go_wp2;go_loop [13] (fun i=>∃ k:aE,k<=s.size/\i=aa ag k/\Hid (∀ c∈s.data.toList.take k,okB c=aI)) (fun i=>s.size-(intOf i).toNat)
   case atStart=>exact⟨0,bF _,rfl,by intro c hc;simp at hc⟩
   case round=>
    obtain⟨k,hk,rfl,HA⟩:=hrel;by_cases gm:k<s.size
    ·have vL:(k:aF)<(s.size:aF):=by omega
     cases hc:okB s[k]with
     | true=>
      have HN:Hid (∀ c∈s.data.toList.take (k+1),okB c=aI):=Hu s k gm HA.out hc;clear HA;go_wp2_with (go_at_call 211;refine(Dr _ _).mono ?_;rintro e w' ⟨rfl,rfl⟩);go_round
      case rel=>exact⟨k+1,by omega,by go_num,HN⟩
      case measure=>simp[intOf];omega
     | false =>have HN:Hid (named s.data.toList=aH):=zr s k gm hc;clear HA;go_wp2_with (go_at_call 211;refine(Dr _ _).mono ?_;rintro e w' ⟨rfl,rfl⟩);go_ret;exact⟨df HN.symm,rfl⟩
    ·have HN:Hid (named s.data.toList=aI):=(wR _).2 ⟨HE.out,by rw[ix];omega,fun c hc=>HA.out c (by rw[cz (by rw[ix];omega)];exact hc)⟩
     have vL:¬ (k:aF)<(s.size:aF):=by omega
     clear HA;go_wp2;go_ret;exact⟨df HN.symm,rfl⟩
  ·have HN:Hid (named s.data.toList=aH):=by
    show _=_;cases hn:named s with
    | false=>rfl
    | true=>have:=((wR _).1 hn).2.1;rw[ix]at this;omega
   have g2:(12:aF)<(s.size:aF):=by omega
   clear h;go_enter func161,ntmps161;go_wp2;go_ret;exact⟨df HN.symm,rfl⟩
/-! Clean -/
theorem qZ(l:aB aD):anI l=aI↔l.length<=80/\∀ p∈parts l,named p=aI:=by simp[anI,sP]
theorem Vd{w:aw}{a:aJ}{v:Value}(h:w.cell? a=aO v):a.block<w.heap.size:=World.block_lt_of_cell? w a h
theorem wT(s:aA){k:aE}{p:aA}{Ps:aB aA}(hP:Ps.map (·.data.toList)=parts s)(h:Ps[k]?=aO p):p.data.toList∈parts s.data.toList/\p.size<=s.size:=by
 have hm:p.data.toList∈parts s.data.toList:=by rw[<- hP];exact List.mem_map_of_mem (bw h)
 refine⟨hm,?_⟩;have:=PN hm
 rwa [ix,ix]at this
theorem Fy{L:aB (aB aD)}{k:aE}{p:aB aD}(h:L[k]?=aO p)(ha:∀ q∈L.take k,named q=aI)(hp:named p=aI):∀ q∈L.take (k+1),named q=aI:=by
 rw[jv,h];intro q hq;rcases bZ.1 hq with hq|hq
 ·exact ha q hq
 ·simp at hq;rw[hq];exact hp
theorem z8(s:aA)(m:aF)(w:aw)(hs:s.size<=maxLen)(hm:w.cell? ⟨0,0,none⟩=aO (aa ag m)):ay aP 177 #[ai s] w fun e w'=>e=aK (aq (anI s))/\Below w w w':=by
 unfold maxLen at hs;by_cases h:s.size<=80
 ·have g:¬ (80:aF)<(s.size:aF):=by omega
  have cS:=Tryz.strings_Split s ⟨#[47]⟩ m w (by omega) hm (by decide);have hP:=Bv s;have hn:=Fv s;have afx:Lib.countB s ⟨#[47]⟩<=s.size:=Lib.countB_le ⟨#[47]⟩ (by decide) s.size s (aV _);generalize Lib.splitB ⟨#[47]⟩ 0 (Lib.countB s ⟨#[47]⟩) s=Ps at *;generalize Lib.countB s ⟨#[47]⟩=cn at *;have HP:Hid (Ps.map (·.data.toList)=parts s):=hP;clear hP;go_enter func177,ntmps177;go_wp2_with (go_at_call 160;refine cS.mono ?_;rintro e w' ⟨rfl,hw⟩;rw[hw]);clear cS;go_loop [11] (fun i=>∃ k:aE,k<=cn+1/\i=aa ag k/\Hid (∀ p∈(parts s).take k,named p=aI)) (fun i=>cn+1-(intOf i).toNat)
  case atStart=>exact⟨0,bF _,rfl,by intro c hc;simp at hc⟩
  case round=>
   obtain⟨k,hk,rfl,HA⟩:=hrel;by_cases gm:k<cn+1
   ·have vL:(k:aF)<(cn:aF)+1:=by omega
    obtain⟨p,hp⟩:∃ p,Ps[k]?=aO p:=⟨_,aU (by omega)⟩
    have hcell:(w.alloc (.cells (Ps.map Value.string).toArray 9)).cell? ⟨w,k,none⟩=aO (ai p):=Lib.pieces_cell_at w Ps 9 k p hp;have rf:=(wT s HP.out hp).2;have Ak:p.size<=maxLen:=by unfold maxLen;omega
    have Ki:Hid ((parts s)[k]?=aO p.data.toList):=by show _=_;rw[<- HP.out,cD,hp];rfl
    clear hp;go_wp2_with (go_at_call 161;refine(Ay _ _ (by assumption)).mono ?_;rintro e w' ⟨rfl,rfl⟩)
    ·have hno:named p.data.toList=aH:=by simpa using(by assumption:(!named p)=aI)
     have HN:Hid (anI s.data.toList=aH):=by
      show _=_;cases hc:anI s with
      | false=>rfl
      | true=>rw[((qZ _).1 hc).2 _ (bw Ki.out)]at hno;cases hno
     go_ret;exact⟨df HN.symm,(aR _ _).alloc (aV _) _⟩
    ·have agz:named p.data.toList=aI:=by simpa using(by assumption:(!named p)=aH)
     exact⟨⟨k+1,by omega,by go_num,Fy Ki.out HA.out agz⟩,by simp[intOf];omega⟩
   ·have vL:¬ (k:aF)<(cn:aF)+1:=by omega
    have HN:Hid (anI s.data.toList=aI):=(qZ _).2 ⟨by rw[ix];exact h,fun p hp=>HA.out p (by
     rw[cz (by rw[<- HP.out,bQ];omega)];exact hp)⟩
    clear HA;go_wp2;go_ret;exact⟨df HN.symm,(aR _ _).alloc (aV _) _⟩
 ·have g:(80:aF)<(s.size:aF):=by omega
  have HN:Hid (anI s.data.toList=aH):=by
   show _=_;cases hc:anI s with
   | false=>rfl
   | true=>have:=((qZ _).1 hc).1;rw[ix]at this;omega
  go_enter func177,ntmps177;go_wp2;go_ret;exact⟨df HN.symm,aR _ _⟩
end Go.Proofs.YtjnkfelecopbjaaGreatDoor
namespace Go.Proofs.YtjnkfelecopbjaaGreatDoor.PM
variable{b:Bool}{l:aB aD}
structure bP where
 bm:aA
 bE:aF
 text:aA
 opq:Bool
deriving DecidableEq
instance:Inhabited bP:=⟨⟨ByteArray.empty,0,ByteArray.empty,aH⟩⟩
def bP.p(e:bP):aB aD:=e.bm.data.toList
theorem fV{a b:aA}(h:a.data.toList=b.data.toList):a=b:=by cases a;cases b;simp at h;simp[h]
def Ja(a b:bP):Prop:=cmp a.p b.p<0
def b7(t:aB bP):Prop:=t.Pairwise Ja
theorem kY(a:aB aD):cmp a a=0:=(mG a a).2 rfl
theorem pR{a b:bP}(h:Ja a b):a.p≠b.p:=by intro e;unfold Ja at h;rw[e,kY]at h;omega
theorem Fe{a b c:bP}(h:Ja a b)(g:Ja b c):Ja a c:=mY _ _ _ h g
theorem wP{a b:bP}(h:Ja a b)(g:Ja b a):False:=by have:=Fe h g;exact pR this rfl
theorem oc:∀ {a b:aB bP},b7 a->b7 b->(∀ x,x∈a↔x∈b)->a=b
 | [],[],_,_,_=>rfl
 | [],y::b,_,_,h=>aG ((h y).2 (by simp)) (by simp)
 | x::a,[],_,_,h=>aG ((h x).1 (by simp)) (by simp)
 | x::a,y::b,ha,hb,h=>by
  have ha':=eJ.1 ha;have ot:=eJ.1 hb;have e:x=y:=by
   rcases cX.1 ((h x).1 (by simp))with e|e
   ·exact e
   ·rcases cX.1 ((h y).2 (by simp))with g|g
    ·exact g.symm
    ·exact(wP (ot.1 x e) (ha'.1 y g)).elim
  subst e;rw[oc ha'.2 ot.2 fun z=>?_];constructor
  ·intro hz
   rcases cX.1 ((h z).1 (by simp[hz]))with e|e
   ·exact aG (congrArg bP.p e).symm (pR (ha'.1 z hz))
   ·exact e
  ·intro hz
   rcases cX.1 ((h z).2 (by simp[hz]))with e|e
   ·exact aG (congrArg bP.p e).symm (pR (ot.1 z hz))
   ·exact e
theorem rL{t:aB bP}(h:b7 t){x y:bP}(hx:x∈t)(hy:y∈t)(e:x.p=y.p):x=y:=by
 induction t with
 | nil=>simp at hx
 | cons z t ih=>
  have h':=eJ.1 h;rcases cX.1 hx with gx|gx<;>rcases cX.1 hy with gy|gy
  ·rw[gx,gy]
  ·subst gx;exact aG e (pR (h'.1 y gy))
  ·subst gy;exact aG e.symm (pR (h'.1 x gx))
  ·exact ih h'.2 gx gy
def tT:bP:=⟨ByteArray.empty,2,ByteArray.empty,aH⟩
def bW(t:aB bP)(p:aB aD):aC bP:=if p=[]then aO tT else t.find? fun e=>e.p=p
theorem iE(t:aB bP):bW t []=aO tT:=by simp[bW]
theorem dK{t:aB bP}{p:aB aD}{e:bP}(h:p≠[])(hg:bW t p=aO e):e∈t/\e.p=p:=by rw[bW,aW h]at hg;exact⟨gv hg,by simpa using uR hg⟩
theorem gU{t:aB bP}{p:aB aD}(hg:bW t p=none):p≠[]/\∀ e∈t,e.p≠p:=by
 by_cases h:p=[]
 ·rw[h,iE]at hg;cases hg
 ·rw[bW,aW h]at hg
  exact⟨h,fun e he=>by simpa using nz.1 hg e he⟩
theorem kW{t:aB bP}(hs:b7 t){e:bP}(he:e∈t)(h:e.p≠[]):bW t e.p=aO e:=by
 cases hg:bW t e.p with
 | none=>exact aG rfl ((gU hg).2 e he)
 | some f=>rw[rL hs he (dK h hg).1 (dK h hg).2.symm]
theorem eV{t:aB bP}{p:aB aD}(h:p≠[])(hn:∀ e∈t,e.p≠p):bW t p=none:=by
 cases hg:bW t p with
 | none=>rfl
 | some f=>exact aG (dK h hg).2 (hn f (dK h hg).1)
def dv(e:bP)(anH:Bool):aF:=
 if !(e.bE=1 || e.bE=3) && !(e.bE=2) && !(anH && e.bE=4)then 1
 else if !anI e.p then 7
 else if 100<e.text.size then 4
 else if e.text.size≠0 && !(e.bE=1 || e.bE=3) || (e.text.size=0 && e.bE=3) || (e.opq && !(anH && e.bE=2))then 8
 else 0
theorem dX{e:bP}{anH:Bool}(h:dv e anH=0):anI e.p=aI:=by
 unfold dv at h;split at h
 ·omega
 ·split at h
  ·omega
  ·rename_i _ h2;simpa using h2
theorem BD{e f:bP}{anH:Bool}(h:dv e anH=0)(hk:f.bE=e.bE)(ht:f.text=e.text)(ho:f.opq=e.opq)(hc:anI f.p=aI):dv f anH=0:=by have he:=dX h;unfold dv at h ⊢;rw[hk,ht,ho,hc];rw[he]at h;exact h
theorem gM(h:anI l=aI):l≠[]:=by rintro rfl;simp[anI,parts,pa,named]at h
def bU(l:aB aD):aB aD:=(kd l).1
structure du (anH:Bool) (t:aB bP):Prop where
 len:t.length<=80
 each:∀ e∈t,dv e anH=0
 anF:b7 t
 dir:∀ e∈t,bU e.p=[]\/∃ d∈t,d.p=bU e.p/\d.bE=2
theorem du.anI{b:Bool}{t:aB bP}(h:du b t){e:bP}(he:e∈t):anI e.p=aI:=dX (h.each e he)
theorem du.ne{t:aB bP}(h:du b t){e:bP}(he:e∈t):e.p≠[]:=gM (h.anI he)
theorem ru{p:aB aD}(hp:p≠[])(hu:anG l p=aI):bU l=p\/anG (bU l) p=aI:=by
 obtain⟨r,rfl⟩:=(eB l p hp).1 hu;rcases nT r with hf|⟨a,b,rfl,hb⟩
 ·left;rw[bU,iC p r hf]
 ·right
  have:bU (p++47::(a++47::b))=p++47::a:=by rw[bU,show p++47::(a++47::b)=(p++47::a)++47::b by simp,iC _ b hb]
  rw[this];exact(eB _ _ hp).2 ⟨a,rfl⟩
theorem nD(l:aB aD):(bU l).length<=l.length:=by
 rcases nT l with hf|⟨a,b,rfl,hb⟩
 ·rw[bU,q9 l hf];simp
 ·rw[bU,iC a b hb];simp
theorem eY(h:l≠[]):(bU l).length<l.length:=by
 rcases nT l with hf|⟨a,b,rfl,hb⟩
 ·rw[bU,q9 l hf];cases l with|nil=>exact aG rfl h|cons=>simp
 ·rw[bU,iC a b hb];simp
theorem du.below{t:aB bP}(h:du b t){p:aB aD}(hp:p≠[]):∀ (n:aE) {e:bP},e.p.length<=n->e∈t->anG e.p p=aI->∃ d∈t,d.p=p/\d.bE=2:=by
 intro n;induction n with
 | zero=>intro e hn he _;exact aG (dr.1 (by omega)) (h.ne he)
 | succ n ih=>
  intro e hn he hu;have hd:∃ d∈t,d.p=bU e.p/\d.bE=2:=by
   rcases h.dir e he with hd|hd
   ·rcases ru hp hu with g|g
    ·exact aG (g.symm.trans hd) hp
    ·obtain⟨r,e'⟩:=(eB _ _ hp).1 g
     rw[hd]at e';simp at e'
   ·exact hd
  obtain⟨d,VA,mZ,uH⟩:=hd;rcases ru hp hu with g|g
  ·exact⟨d,VA,mZ.trans g,uH⟩
  ·exact ih (by rw[mZ];have:=eY (h.ne he);omega) VA (by rw[mZ];exact g)
theorem jz(h:l≠[])(hd:bU l≠[]):anG l (bU l)=aI:=by
 rcases nT l with hf|⟨a,b,rfl,hb⟩
 ·rw[bU,q9 l hf]at hd;exact aG rfl hd
 ·rw[bU,iC a b hb]at hd ⊢;exact(eB _ _ hd).2 ⟨b,rfl⟩
theorem Rg(h:l≠[])(hd:bU l≠[]):cmp (bU l) l<0:=by
 obtain⟨r,e⟩:=(eB _ _ hd).1 (jz h hd);have:=Ab (bU l) r
 rwa [<- e]at this
/-! what is wrong with a list,first -/
def eL(t:aB bP)(p:aB aD):aF:=match bW t p with|none=>6|some e=>if e.bE=2 then 0 else 10
def kD(ahead:aB bP)(p:aB aD):Bool:=match ahead.getLast? with|none=>aH|some e=>decide (0<=cmp e.p p)
def mr(ahead:aB bP)(p:aB aD):aF:=
 if kD ahead p then 2
 else if eL ahead (bU p)=0 then 0 else 10
def ko(anH:Bool)(ahead:aB bP)(e:bP):aF:=if dv e anH=0 then mr ahead e.p else dv e anH
def gF(anH:Bool)(ahead:aB bP):aB bP->aF × aE
 | []=>(0,0)
 | e::r=>if ko anH ahead e=0 then gF anH (ahead++[e]) r else(ko anH ahead e,ahead.length)
def cV(anH:Bool)(t:aB bP):aF × aE:=if 80<t.length then(5,0)else gF anH [] t
theorem Bu{a:aB bP}{e:bP}:b7 (a++[e])↔b7 a/\∀ x∈a,Ja x e:=by unfold b7;rw[dA];simp
theorem AK{a:aB bP}{e:bP}(h:b7 a)(hl:∀ x,a.getLast?=aO x->Ja x e):b7 (a++[e]):=by
 refine Bu.2 ⟨h,fun x hx=>?_⟩;rcases List.eq_nil_or_concat a with rfl|⟨b,y,rfl⟩
 ·simp at hx
 ·have hy:=hl y (by simp)
  rw[List.concat_eq_append]at hx h;rcases bZ.1 hx with hx|hx
  ·exact Fe ((Bu.1 h).2 x hx) hy
  ·simp at hx;subst hx;exact hy
theorem oy{t:aB bP}{p:aB aD}:eL t p=0↔p=[]\/∃ d∈t,d.p=p/\d.bE=2/\bW t p=aO d:=by
 unfold eL;constructor
 ·intro h
  by_cases hp:p=[]
  ·exact .inl hp
  ·cases hg:bW t p with
   | none=>rw[hg]at h;simp at h
   | some e=>
    rw[hg]at h;refine .inr ⟨e,(dK hp hg).1,(dK hp hg).2,?_,rfl⟩;by_cases hk:e.bE=2
    ·exact hk
    ·simp[hk]at h
 ·rintro(rfl|⟨d,_,_,hk,hg⟩)
  ·rw[iE];rfl
  ·rw[hg];simp[hk]
structure anJ (anH:Bool) (t:aB bP):Prop where
 each:∀ e∈t,dv e anH=0
 anF:b7 t
 dir:∀ e∈t,bU e.p=[]\/∃ d∈t,d.p=bU e.p/\d.bE=2
theorem anJ.snoc{a:aB bP}{e:bP}(h:anJ b a)(hf:ko b a e=0):anJ b (a++[e]):=by
 unfold ko at hf;split at hf
 ·rename_i hw
  unfold mr at hf;split at hf
  ·omega
  ·rename_i hl
   split at hf
   ·rename_i hd
    refine⟨fun x hx=>?_,AK h.anF fun x hx=>?_,fun x hx=>?_⟩
    ·rcases bZ.1 hx with hx|hx
     ·exact h.each x hx
     ·simp at hx;subst hx;exact hw
    ·unfold kD at hl;rw[hx]at hl;simp at hl;exact hl
    ·rcases bZ.1 hx with hx|hx
     ·rcases h.dir x hx with g|⟨d,h1,h2⟩
      ·exact .inl g
      ·exact .inr ⟨d,by simp[h1],h2⟩
     ·simp at hx;subst hx
      rcases oy.1 hd with g|⟨d,h1,h2,h3,_⟩
      ·exact .inl g
      ·exact .inr ⟨d,by simp[h1],h2,h3⟩
   ·omega
 ·omega
theorem Ix(b:Bool):anJ b []:=⟨by simp,yA,by simp⟩
theorem KJ{a:aB bP}{e:bP}{r:aB bP}(h:anJ b (a++e::r)):ko b a e=0:=by
 have hs:=dA.1 h.anF;have hw:=h.each e (by simp);have hne:=gM (dX hw);unfold ko mr;rw[aY hw];have h1:kD a e.p=aH:=by
  unfold kD;cases hg:a.getLast? with
  | none=>rfl
  | some x =>have hx:=aeN hg;have:=hs.2.2 x hx e (by simp);unfold Ja at this;simp;omega
 rw[h1];simp only[dI,pk];rw[aY];refine oy.2 ?_;by_cases hd:bU e.p=[]
 ·exact .inl hd
 rcases h.dir e (by simp)with g|⟨d,VA,mZ,uH⟩
 ·exact aG g hd
 ·have gm:Ja d e:=by unfold Ja;rw[mZ];exact Rg hne hd
  have hda:d∈a:=by
   rcases bZ.1 VA with g|g
   ·exact g
   ·rcases cX.1 g with rfl|g
    ·exact aG rfl (pR gm)
    ·exact(wP gm ((eJ.1 hs.2.1).1 d g)).elim
  exact .inr ⟨d,hda,mZ,uH,by rw[<- mZ];exact kW hs.1 hda (by rw[mZ];exact hd)⟩
theorem vF{b:Bool}:∀ (r a:aB bP),anJ b a->((gF b a r).1=0↔anJ b (a++r))
 | [],a,h=>by simp[gF,h]
 | e::r,a,h=>by
  rw[gF];split
  ·rename_i hf
   rw[vF r (a++[e]) (h.snoc hf)];simp
  ·rename_i hf
   constructor
   ·intro g;exact aG g hf
   ·intro g;exact aG (KJ g) hf
theorem yX{b:Bool}:∀ (r a:aB bP),(gF b a r).1=0->gF b a r=(0,0)
 | [],_,_=>rfl
 | e::r,a,h=>by
  rw[gF]at h ⊢;split
  ·rename_i hf;rw[aY hf]at h;exact yX r _ h
  ·rename_i hf;rw[aW hf]at h;exact aG h hf
theorem fO{t:aB bP}:(cV b t).1=0↔du b t:=by
 unfold cV;split
 ·rename_i h
  constructor
  ·intro g;simp at g
  ·intro g;have:=g.len;omega
 ·rename_i h
  rw[vF t [] (Ix b),fo];constructor
  ·intro g;exact⟨by omega,g.each,g.anF,g.dir⟩
  ·intro g;exact⟨g.each,g.anF,g.dir⟩
theorem iD{t:aB bP}(h:du b t):cV b t=(0,0):=by have h0:=fO.2 h;unfold cV at h0 ⊢;rw[aW (by have:=h.len;omega)]at h0 ⊢;exact yX _ _ h0
end Go.Proofs.YtjnkfelecopbjaaGreatDoor.PM
namespace Go.Proofs.YtjnkfelecopbjaaGreatDoor.PM
variable{e x:bP}{i:aE}{p:aB aD}{t:aB bP}
theorem oN{a b:aB aD}:0<cmp a b↔cmp b a<0:=by rw[rA a b];omega
theorem CJ{a b:aB aD}(h:¬ cmp a b<0)(hn:a≠b):cmp b a<0:=by
 have h0:cmp a b≠0:=fun e=>hn ((mG a b).1 e)
 rw[rA b a];omega
/-! put -/
def kM(t:aB bP)(e:bP):aB bP:=t.filter (fun x=>decide (cmp x.p e.p<0))++e::t.filter (fun x=>decide (0<cmp x.p e.p))
theorem jo:x∈kM t e↔x=e\/x∈t/\x.p≠e.p:=by
 unfold kM;simp only[bZ,cX,dS,ew];constructor
 ·rintro(⟨h,g⟩|rfl|⟨h,g⟩)
  ·exact .inr ⟨h,fun e'=>by rw[e',kY]at g;omega⟩
  ·exact .inl rfl
  ·exact .inr ⟨h,fun e'=>by rw[e',kY]at g;omega⟩
 ·rintro(rfl|⟨h,g⟩)
  ·exact .inr (.inl rfl)
  ·by_cases hl:cmp x.p e.p<0
   ·exact .inl ⟨h,hl⟩
   ·exact .inr (.inr ⟨h,oN.2 (CJ hl g)⟩)
theorem iw(h:b7 t)(e:bP):b7 (kM t e):=by
 unfold kM b7;rw[dA];refine⟨dY _ h,eJ.2 ⟨fun x hx=>?_,dY _ h⟩,fun x hx y hy=>?_⟩
 ·have:=(dS.1 hx).2;simp at this;exact oN.1 this
 ·have g1:=(dS.1 hx).2;simp at g1
  rcases cX.1 hy with rfl|hy
  ·exact g1
  ·have g2:=(dS.1 hy).2;simp at g2
   exact mY _ _ _ g1 (oN.1 g2)
structure fq (t:aB bP) (p:aB aD) (i:aE):Prop where
 le:i<=t.length
 lo:∀ (h:0<i) (h':i-1<t.length),cmp (t[i-1]'h').p p<0
 hi:∀ (h:i<t.length),0<=cmp (t[i]'h).p p
theorem fq.below(h:fq t p i)(hs:b7 t){j:aE}(hj:j<t.length)(Z7:j<i):cmp (t[j]'hj).p p<0:=by
 have Uw:i-1<t.length:=by have:=h.le;omega
 have h1:=h.lo (by omega) Uw;by_cases e:j=i-1
 ·subst e;exact h1
 ·have:=fD.1 hs j (i-1) hj Uw (by omega)
  exact mY _ _ _ this h1
theorem fq.above(h:fq t p i)(hs:b7 t){j:aE}(hj:j<t.length)(Z7:i<j):0<cmp (t[j]'hj).p p:=by
 have Uw:i<t.length:=by omega
 have h1:=h.hi Uw;have h2:Ja t[i] t[j]:=fD.1 hs i j Uw hj Z7;apply oN.2;by_cases e:cmp (t[i]'Uw).p p=0
 ·rw[<- (mG _ _).1 e];exact h2
 ·exact mY _ _ _ (oN.1 (by omega)) h2
def nJ(t:aB bP)(p:aB aD)(i:aE):Bool:=if h:i<t.length then decide ((t[i]'h).p=p)else aH
theorem tq:nJ t p i=aI↔∃ h:i<t.length,(t[i]'h).p=p:=by
 unfold nJ;split
 ·rename_i h;simp[h]
 ·rename_i h;simp;intro g;exact aG g h
theorem fq.there(h:fq t p i)(hs:b7 t):nJ t p i=aI↔∃ e∈t,e.p=p:=by
 rw[tq];constructor
 ·rintro⟨g,e⟩;exact⟨t[i],jb g,e⟩
 ·rintro⟨e,he,hp⟩
  obtain⟨j,hj,rfl⟩:=mT he;by_cases e1:j=i
  ·subst e1;exact⟨hj,hp⟩
  ·exfalso
   by_cases e2:j<i
   ·have:=h.below hs hj e2;rw[hp,kY]at this;omega
   ·have:=h.above hs hj (by omega);rw[hp,kY]at this;omega
theorem fq.take(h:fq t p i)(hs:b7 t):x∈t.take i↔x∈t/\cmp x.p p<0:=by
 constructor
 ·intro hx
  obtain⟨j,hj,rfl⟩:=mT hx;rw[bL]at hj;rw[List.getElem_take];exact⟨jb _,h.below hs _ (by omega)⟩
 ·rintro⟨hx,hl⟩
  obtain⟨j,hj,rfl⟩:=mT hx;have Z7:j<i:=by
   by_cases e:j<i
   ·exact e
   ·exfalso
    by_cases e1:j=i
    ·subst e1;have:=h.hi hj;omega
    ·have:=h.above hs hj (by omega);omega
  exact List.mem_take_iff_getElem.2 ⟨j,by omega,rfl⟩
theorem fq.insert(h:fq t e.p i)(hs:b7 t)(hn:nJ t e.p i=aH):t.take i++e::t.drop i=kM t e:=by
 have hno:∀ x∈t,x.p≠e.p:=fun x hx hp=>by have:=(h.there hs).2 ⟨x,hx,hp⟩;rw[hn]at this;cases this
 have hd:∀ x∈t.drop i,0<cmp x.p e.p:=by
  intro x hx;have hxt:=aeO hx;obtain⟨j,hj,rfl⟩:=mT hx;rw[fZ]at hj;rw[List.getElem_drop]at hxt ⊢;by_cases e0:j=0
  ·subst e0
   have h1:=h.hi (by omega);have h2:=hno _ hxt;simp only[Kq]at h1 h2 ⊢;have:cmp (t[i]'(by omega)).p e.p≠0:=fun g=>h2 ((mG _ _).1 g)
   omega
  ·exact h.above hs _ (by omega)
 refine oc ?_ (iw hs e) fun x=>?_
 ·have UD:b7 (t.take i++t.drop i):=by rw[iK];exact hs
  have aca:=dA.1 UD;unfold b7;rw[dA];refine⟨aca.1,eJ.2 ⟨fun x hx=>oN.1 (hd x hx),aca.2.1⟩,fun x hx y hy=>?_⟩;have g:=((h.take hs).1 hx).2;rcases cX.1 hy with rfl|hy
  ·exact g
  ·exact mY _ _ _ g (oN.1 (hd y hy))
 ·rw[jo]
  constructor
  ·intro hx
   rcases bZ.1 hx with g|g
   ·have:=tO g;exact .inr ⟨this,hno x this⟩
   ·rcases cX.1 g with rfl|g
    ·exact .inl rfl
    ·have:=aeO g;exact .inr ⟨this,hno x this⟩
  ·rintro(rfl|⟨hx,_⟩)
   ·simp
   ·rw[<- iK i t]at hx
    rcases bZ.1 hx with g|g
    ·simp[g]
    ·simp[g]
theorem fq.set(h:fq t e.p i)(hs:b7 t)(hn:nJ t e.p i=aI):t.set i e=kM t e:=by
 obtain⟨hi,hp⟩:=tq.1 hn;refine oc ?_ (iw hs e) fun x=>?_
 ·unfold b7
  rw[fD];intro a b ha hb C0;rw[fW]at ha hb;have h0:=fD.1 hs a b ha hb C0;unfold Ja at h0 ⊢;rw[N2,N2];split<;>split
  ·omega
  ·rename_i g _;subst g;rw[<- hp];exact h0
  ·rename_i _ g;subst g;rw[<- hp];exact h0
  ·exact h0
 ·rw[jo]
  constructor
  ·intro hx
   obtain⟨j,hj,rfl⟩:=mT hx;rw[fW]at hj;rw[N2];split
   ·exact .inl rfl
   ·rename_i g
    refine .inr ⟨jb _,fun e'=>g ?_⟩;have hh:t[j]=t[i]:=rL hs (jb _) (jb _) (e'.trans hp.symm);by_cases c1:i<j
    ·have:=fD.1 hs i j hi hj c1;rw[hh]at this;exact aG rfl (pR this)
    ·by_cases c2:j<i
     ·have:=fD.1 hs j i hj hi c2;rw[hh]at this;exact aG rfl (pR this)
     ·omega
  ·rintro(rfl|⟨hx,hne⟩)
   ·exact kc.2 ⟨i,by rw[fW];exact hi,by simp⟩
   ·obtain⟨j,hj,rfl⟩:=mT hx
    refine kc.2 ⟨j,by rw[fW];exact hj,?_⟩;rw[List.getElem_set_ne];rintro rfl;exact hne hp
theorem sq(hs:b7 t):(kM t e).length=if ∃ x∈t,x.p=e.p then t.length else t.length+1:=by
 have hl:(t.filter fun x=>decide (cmp x.p e.p<0)).length+(t.filter fun x=>decide (0<cmp x.p e.p)).length+(t.filter fun x=>decide (x.p=e.p)).length=t.length:=by
  clear hs;induction t with
  | nil=>rfl
  | cons x t ih=>
   by_cases h0:x.p=e.p
   ·have h1:¬ cmp x.p e.p<0:=by rw[h0,kY];omega
    have h2:¬ 0<cmp x.p e.p:=by rw[h0,kY];omega
    simp[h0,kY]at ih ⊢;omega
   ·have h3:cmp x.p e.p≠0:=fun g=>h0 ((mG _ _).1 g)
    by_cases h1:cmp x.p e.p<0
    ·have h2:¬ 0<cmp x.p e.p:=by omega
     simp[h0,h1,h2]at ih ⊢;omega
    ·have h2:0<cmp x.p e.p:=by omega
     simp[h0,h1,h2]at ih ⊢;omega
 have hc:(t.filter fun x=>decide (x.p=e.p)).length=if ∃ x∈t,x.p=e.p then 1 else 0:=by
  split
  ·rename_i h
   obtain⟨x,hx,hp⟩:=h;have:(t.filter fun x=>decide (x.p=e.p))=[x]:=by
    refine oc (dY _ hs) (List.pairwise_singleton _ _) fun y=>?_
    simp only[dS,ew,Hp];constructor
    ·rintro⟨hy,hq⟩;exact rL hs hy hx (hq.trans hp.symm)
    ·rintro rfl;exact⟨hx,hp⟩
   rw[this];rfl
  ·rename_i h
   rw[dr,BG];intro x hx;simp;exact fun g=>h ⟨x,hx,g⟩
 unfold kM;simp only[cJ,cj];rw[hc]at hl;split<;>simp_all<;>omega
theorem du.put(h:du aH t)(hw:dv e aH=0)(hd:eL t (bU e.p)=0)(hk:∀ x∈t,x.p=e.p->(x.bE=2↔e.bE=2))(hm:(∀ x∈t,x.p≠e.p)->t.length<80):du aH (kM t e):=by
 refine⟨?_,fun x hx=>?_,iw h.anF e,fun x hx=>?_⟩
 ·rw[sq h.anF]
  split
  ·exact h.len
  ·rename_i g;have:=hm fun x hx hp=>g ⟨x,hx,hp⟩;omega
 ·rcases jo.1 hx with rfl|⟨hx,_⟩
  ·exact hw
  ·exact h.each x hx
 ·have key:bU x.p=[]\/∃ d∈t,d.p=bU x.p/\d.bE=2:=by
   rcases jo.1 hx with rfl|⟨hx,_⟩
   ·rcases oy.1 hd with g|⟨d,h1,h2,h3,_⟩
    ·exact .inl g
    ·exact .inr ⟨d,h1,h2,h3⟩
   ·exact h.dir x hx
  rcases key with g|⟨d,h1,h2,h3⟩
  ·exact .inl g
  ·by_cases g:d.p=e.p
   ·exact .inr ⟨e,jo.2 (.inl rfl),g.symm.trans h2,(hk d h1 g).1 h3⟩
   ·exact .inr ⟨d,jo.2 (.inr ⟨h1,g⟩),h2,h3⟩
/-! remove -/
def pq(t:aB bP)(p:aB aD):aB bP:=t.filter fun x => !decide (x.p=p)
theorem jJ:x∈pq t p↔x∈t/\x.p≠p:=by simp[pq]
theorem wh(h:b7 t)(p:aB aD):b7 (pq t p):=dY _ h
theorem du.rem{b:Bool}(h:du b t)(hp:p≠[])(hf:∀ x∈t,anG x.p p=aH):du b (pq t p):=by
 refine⟨bc (ed _ _) h.len,fun x hx=>h.each x (jJ.1 hx).1,wh h.anF p,fun x hx=>?_⟩;rcases h.dir x (jJ.1 hx).1 with g|⟨d,h1,h2,h3⟩
 ·exact .inl g
 ·refine .inr ⟨d,jJ.2 ⟨h1,fun e=>?_⟩,h2,h3⟩
  have:=hf x (jJ.1 hx).1;have hd:bU x.p=p:=h2.symm.trans e;have hu:=jz (h.ne (jJ.1 hx).1) (by rw[hd];exact hp);rw[hd,this]at hu;cases hu
end Go.Proofs.YtjnkfelecopbjaaGreatDoor.PM
namespace Go.Proofs.YtjnkfelecopbjaaGreatDoor
open Go.RowKit PM Go.Sort
variable{a b w w':aw}{l:aB bP}{p:aC aJ}
def fy(e:bP):aB Value:=[ai e.bm,aa ag e.bE,ai e.text,aq e.opq]
def Grown(w w':aw):Prop:=∃ n os,w'=grow (w.drewN n) os
theorem Grown.refl(w:aw):Grown w w:=⟨0,#[],by simp[grow,World.drewN]⟩
theorem Grown.trans{c:aw}(h:Grown a b)(g:Grown b c):Grown a c:=by obtain⟨n,os,rfl⟩:=h;obtain⟨m,ps,rfl⟩:=g;exact⟨n+m,os++ps,by simp[grow,World.drewN,dh]⟩
theorem Grown.alloc(h:Grown a b)(o:Obj):Grown a (b.alloc o):=h.trans ⟨0,#[o],by rw[alloc_eq_grow];rfl⟩
theorem Grown.drewN(h:Grown a b)(n:aE):Grown a (b.drewN n):=h.trans ⟨n,#[],by simp[grow,World.drewN]⟩
theorem Grown.below(h:Grown a b):Below a a b:=by obtain⟨n,os,rfl⟩:=h;refine⟨rfl,rfl,rfl,by simp[grow,World.drewN],fun k hk=>?_⟩;show(a.heap++os)[k]?=_;rw[lA hk]
theorem Grown.cell(h:Grown a b){p:aJ}(hp:p.block<a):b.cell? p=a.cell? p:=h.below.cell hp
theorem Grown.size(h:Grown a b):a.heap.size<=b.heap.size:=h.below.size
def bI(w:aw)(p:aC aJ)(l:aB bP):Prop:=
 l=[]\/∃ b off,p=aO ⟨b,off,none⟩/\b<w.heap.size/\∀ j e,l[j]?=aO e->∀ i v,(fy e)[i]?=aO v->w.cell? ⟨b,off+j*4+i,none⟩=aO v
theorem bI.below(h:bI w p l){B:aE}(hB:Below B w w')(hs:w<=B):bI w' p l:=by
 rcases h with h|⟨b,off,h1,h2,h3⟩
 ·exact .inl h
 ·exact .inr ⟨b,off,h1,aZ h2 hB.size,fun j e hj i v hv=>(hB.cell (p:=⟨b,off+j*4+i,none⟩) (aZ h2 hs)).trans (h3 j e hj i v hv)⟩
theorem bI.bB(h:bI w p l)(hB:Below w w w'):bI w' p l:=h.below hB (aV _)
theorem bI.grown(h:bI w p l)(hB:Grown w w'):bI w' p l:=h.bB hB.below
theorem bI.nil(w:aw)(p:aC aJ):bI w p []:=.inl rfl
theorem bI.take(h:bI w p l)(k:aE):bI w p (l.take k):=by
 rcases h with h|⟨b,off,h1,h2,h3⟩
 ·exact .inl (by rw[h];simp)
 ·refine .inr ⟨b,off,h1,h2,fun j e hj=>h3 j e ?_⟩
  rw[dm]at hj;split at hj
  ·exact hj
  ·cases hj
theorem bI.cells{b off:aE}(h3:∀ j e,l[j]?=aO e->∀ i v,(fy e)[i]?=aO v->w.cell? ⟨b,off+j*4+i,none⟩=aO v)(hb:b<w){W:aw}(hW:Below w w W){j:aE}{e:bP}(he:l[j]?=aO e):W.cell? ⟨b,off+j*4,none⟩=aO (ai e.bm)/\W.cell? ⟨b,off+j*4+1,none⟩=aO (aa ag e.bE)/\W.cell? ⟨b,off+j*4+2,none⟩=aO (ai e.text)/\W.cell? ⟨b,off+j*4+3,none⟩=aO (aq e.opq):=by
 have h:=fun i v hv=>(hW.cell (p:=⟨b,off+j*4+i,none⟩) hb).trans (h3 j e he i v hv)
 exact⟨h 0 _ rfl,h 1 _ rfl,h 2 _ rfl,h 3 _ rfl⟩
def anM(l:aB bP):Prop:=∀ e∈l,e.bm.size<=maxLen/\e.text.size<=maxLen
theorem anM.at(h:anM l){j:aE}{e:bP}(he:l[j]?=aO e):e.bm.size<=maxLen/\e.text.size<=maxLen:=h e (bw he)
theorem Ii(e:bP)(q:aA)(w:aw)(he:e.bm.size<=maxLen)(hq:q.size<=maxLen):ay aP 165 #[.agg #[ai e.bm, aa ag e.bE, ai e.text, aq e.opq],ai q] w fun r w'=>r=aK (aa ag (cmp e.p q))/\Grown w w':=by go_enter func165,ntmps165;go_wp2_with (go_at_call 159;refine(vE _ _ _ he hq).mono ?_;rintro r w' ⟨rfl,n,rfl⟩);go_ret;exact⟨rfl,((Grown.refl w).alloc _).drewN _⟩
def Cv(t:aB bP)(q:aB aD)(w:aw)(e:Ending)(w':aw):Prop:=
 ∃ i:aE,e=aK (.tuple #[aa ag i,aq (nJ t q i)])/\fq t q i/\Grown w w'
theorem Mr(t:aB bP)(q:aA)(p:aC aJ)(cap:aE)(w:aw)(hL:bI w p t)(hF:anM t)(hn:t.length<4611686018427387904)(hq:q.size<=maxLen):ay aP 164 #[.slice p t.length cap,ai q,.func (.func 165) #[] #[]] w (Cv t q w):=by
 have HF:ax (anM t):=hF;have HL:ax (bI w p t):=hL;clear hL hF;obtain⟨n,eK⟩:=ee t.length
 have HN:ax (n=t.length):=eK;rw[<- eK]at hn ⊢;clear eK;go_enter func164,ntmps164;go_wp2;go_loopg [9,10] n (fun kx s9 s10 wr=>∃ lo hi:aE,s9=aa ag lo/\s10=aa ag hi/\lo<=hi/\hi<=n/\hi-lo<=kx/\ax (Grown w wr) /\ ax ((∀ (h:0<lo) (h':lo-1<t.length),cmp (t[lo-1]'h').p q.data.toList<0)/\(∀ (h:hi<t.length),0<=cmp (t[hi]'h).p q)))
 case atStart=>exact⟨0,n,rfl,rfl,bF _,aV _,by omega,Grown.refl w,(⟨fun h=>aG h (uT _),fun h=>by have:=HN.out;omega⟩:(∀ (h:0<0) (h':0-1<t.length),cmp (t[0-1]'h').p q.data.toList<0)/\(∀ (h:n<t.length),0<=cmp (t[n]'h).p q))⟩
 case round=>
  obtain⟨lo,hi,rfl,rfl,hlh,mq,hg,S1,I⟩:=hrel;by_cases gm:lo<hi
  ·obtain⟨y,hy⟩:∃ y,t[(lo+hi) / 2]?=aO y:=⟨_,aU (by have:=HN.out;omega)⟩
   have Y:ax (t[(lo+hi) / 2]?=aO y):=hy;rcases HL.out with h0|⟨b,off,rfl,hb,hc⟩
   ·rw[h0]at hy;simp at hy
   obtain⟨c0,c1,c2,c3⟩:=bI.cells hc hb S1.below hy;have hyp:=(HF.at hy).1;clear hc hy;have mz:=fun W=>Ii y q W hyp hq
   have HI1:ax (cmp y.p q.data.toList<0->∀ (h:0<(lo+hi) / 2+1) (h':(lo+hi) / 2+1-1<t.length),cmp (t[(lo+hi) / 2+1-1]'h').p q.data.toList<0):=fun h1 _ h'=>by have:=(aQ.1 Y.out).2;simp only[xi]at h' ⊢;rw[this];exact h1
   have US:ax (¬ cmp y.p q.data.toList<0->∀ (h:(lo+hi) / 2<t.length),0<=cmp (t[(lo+hi) / 2]'h).p q):=fun h1 h=>by have:=(aQ.1 Y.out).2;rw[this];omega
   generalize cmp y.p q.data.toList=c at mz HI1 US;by_cases Ny:c<0
   ·go_wp2_with (go_at_call 165;refine(mz _).mono ?_;rintro e w' ⟨rfl,YF⟩)
    go_roundg (hi-((lo+hi) / 2+1))
    case measure=>omega
    case rel =>exact⟨(lo+hi) / 2+1,hi,by rw[show((lo:aF)+(hi:aF)) / 2+1=(((lo+hi) / 2+1:aE):aF) by omega],rfl,by omega,mq,aV _,S1.trans YF,(⟨HI1.out Ny,I.2⟩:_/\_)⟩
   ·go_wp2_with (go_at_call 165;refine(mz _).mono ?_;rintro e w' ⟨rfl,YF⟩)
    go_roundg ((lo+hi) / 2-lo)
    case measure=>omega
    case rel =>exact⟨lo,(lo+hi) / 2,rfl,by rw[show((lo:aF)+(hi:aF)) / 2=(((lo+hi) / 2:aE):aF) by omega],by omega,by omega,aV _,S1.trans YF,(⟨I.1,US.out Ny⟩:_/\_)⟩
  ·obtain rfl:hi=lo:=by omega
   have PL:ax (fq t q hi):=⟨by have:=HN.out;omega,I.1,I.2⟩
   by_cases hlen:hi<n
   ·obtain⟨y,hy⟩:∃ y,t[hi]?=aO y:=⟨_,aU (by have:=HN.out;omega)⟩
    have Y:ax (t[hi]?=aO y):=hy;rcases HL.out with h0|⟨b,off,rfl,hb,hc⟩
    ·rw[h0]at hy;simp at hy
    obtain⟨c0,c1,c2,c3⟩:=bI.cells hc hb S1.below hy;have hyp:=(HF.at hy).1;clear hc hy;have mz:=fun W=>Ii y q W hyp hq
    have HA:ax (nJ t q hi=decide (cmp y.p q.data.toList=0)):=by obtain⟨h1,h2⟩:=aQ.1 Y.out;show _=_;rw[nJ,EN h1,h2,dN];simp[mG]
    generalize cmp y.p q.data.toList=c at mz HA;have El:(hi:aF)<(n:aF):=by omega
    by_cases Ny:c=0
    ·go_wp2_with (go_at_call 165;refine(mz _).mono ?_;rintro e w' ⟨rfl,YF⟩)
     go_ret2;exact⟨hi,by rw[HA.out];simp[Ny],PL.out,S1.trans YF⟩
    ·go_wp2_with (go_at_call 165;refine(mz _).mono ?_;rintro e w' ⟨rfl,YF⟩)
     go_ret2;exact⟨hi,by rw[HA.out];simp[Ny],PL.out,S1.trans YF⟩
   ·have El:¬ (hi:aF)<(n:aF):=by omega
    have HA:ax (nJ t q hi=aH):=by show _=_;rw[nJ,BK];have:=HN.out;omega
    go_wp2;go_ret2;exact⟨hi,by rw[HA.out];first|rfl|(simp;omega)|(simp[El];done)|simp,PL.out,S1.out⟩
theorem CQ(t:aB bP)(q:aA)(p:aC aJ)(cap:aE)(w:aw)(hL:bI w p t)(hF:anM t)(hn:t.length<4611686018427387904)(hq:q.size<=maxLen):ay aP 119 #[.slice p t.length cap,ai q] w (Cv t q w):=by
 have hs:=fun W (hg:Grown w W)=>Mr t q p cap W (hL.grown hg) hF hn hq
 go_enter func119,ntmps119;go_wp2_with (go_at_call 164;refine(hs _ (Grown.refl _)).mono ?_;rintro e w' ⟨i,rfl,hp,hg⟩);go_ret2;exact⟨i,rfl,hp,hg⟩
