/-
  Plain mathematics of paths as lists of bytes: names, parts between slashes, the order; nothing of a program stands in it.
-/
import Derived.Lib.SplitLaws
import Derived.Lib.LastIndexByte
import Derived.WalkKit
import Derived.Test.YthfeoiffoeagkaaGreatDoorShelf
import Derived.WalkLawsBesides
import Derived.WalkSpells
import Derived.Outline
import Derived.Deep.QuietTactic
import Derived.BigQuiet
import Derived.Shelf.Strings.PiecesUse
namespace Go.Proofs.YthfeoiffoeagkaaGreatDoor.PM
open Go.Lib
def okB (c:UInt8):Bool:=(decide (97≤c) && decide (c≤122)) || (decide (48≤c) && decide (c≤57))
def named (l:List UInt8):Bool:=!l.isEmpty && decide (l.length≤12) && l.all okB
def pa (cur:List UInt8):List UInt8→List (List UInt8)
 | []=>[cur]
 | c::r=>if c=47 then cur::pa [] r else pa (cur++[c]) r
def parts (l:List UInt8):List (List UInt8):=pa [] l
def clean (l:List UInt8):Bool:=decide (l.length≤80) && (parts l).all named
theorem IQ (l:List UInt8):∀ cur,(∀ c∈l,c≠47)→pa cur l=[cur++l]:=by
 induction l with
 | nil=>intro cur _;simp [pa]
 | cons c r ih =>
  intro cur h
  rw [pa,if_neg (h c (by simp)),ih _ (fun d hd=>h d (by simp [hd]))]
  simp
theorem GI (a:List UInt8):∀ (cur b:List UInt8),(∀ c∈a,c≠47)→pa cur (a++47::b)=(cur++a)::pa [] b:=by
 induction a with
 | nil=>intro cur b _;simp [pa]
 | cons c r ih =>
  intro cur b h
  rw [List.cons_append,pa,if_neg (h c (by simp)),ih _ _ (fun d hd=>h d (by simp [hd]))]
  simp
theorem iD (l:List UInt8) (h:∀ c∈l,c≠47):parts l=[l]:=by rw [parts,IQ l [] h];rfl
theorem jD (a b:List UInt8) (h:∀ c∈a,c≠47):parts (a++47::b)=a::parts b:=by rw [parts,GI a [] b h];rfl
theorem oI (l:List UInt8):(∀ c∈l,c≠47)∨∃ a b,l=a++47::b∧∀ c∈a,c≠47:=by
 induction l with
 | nil=>exact .inl (by simp)
 | cons c r ih =>
  by_cases hc:c=47
  ·exact .inr ⟨[],r,by simp [hc],by simp⟩
  ·rcases ih with h | ⟨a,b,e,h⟩
   ·exact .inl (fun d hd=>by rcases List.mem_cons.1 hd with rfl | hd;exact hc;exact h d hd)
   ·exact .inr ⟨c::a,b,by simp [e],fun d hd=>by rcases List.mem_cons.1 hd with rfl | hd;exact hc;exact h d hd⟩
theorem JZ (l cur:List UInt8):pa cur l≠[]:=by
 induction l generalizing cur with
 | nil=>simp [pa]
 | cons c r ih=>rw [pa];split <;> simp [ih]
theorem Fe (l cur:List UInt8):(pa cur l).length≤l.length+1:=by
 induction l generalizing cur with
 | nil=>simp [pa]
 | cons c r ih=>rw [pa];split <;> simp <;> have:=ih [] <;> have:=ih (cur++[c]) <;> omega
theorem zm (l:List UInt8):(parts l).length≤l.length+1:=Fe l []
theorem Jv (l cur p:List UInt8) (h:p∈pa cur l):p.length≤cur.length+l.length:=by
 induction l generalizing cur with
 | nil=>simp [pa] at h;subst h;simp
 | cons c r ih =>
  rw [pa] at h
  split at h
  ·rcases List.mem_cons.1 h with rfl | h
   ·simp
   ·have:=ih [] h;simp at this ⊢;omega
  ·have:=ih _ h;simp at this ⊢;omega
theorem Fj {l p:List UInt8} (h:p∈parts l):p.length≤l.length:=by have:=Jv l [] p h;simpa using this
/-! the last slash -/
def cutL (l:List UInt8):List UInt8 × List UInt8 :=
 match (parts l).reverse with
 | []=>([],l)
 | n::r=>(r.reverse.intersperse [47] |>.flatten,n)
theorem Cw (p:List UInt8) (r:List (List UInt8)) (h:r≠[]):((p::r).intersperse [47]).flatten=p++47::(r.intersperse [47]).flatten:=by
 cases r with
 | nil=>exact absurd rfl h
 | cons q s=>simp [List.intersperse]
theorem mI (l:List UInt8) (h:∀ c∈l,c≠47):cutL l=([],l):=by simp [cutL,iD l h]
theorem qz (a b:List UInt8) (h:∀ c∈b,c≠47):parts (a++47::b)=parts a++[b]:=by
 have key:∀ (n:Nat) (a:List UInt8),a.length≤n→parts (a++47::b)=parts a++[b]:=by
  intro n
  induction n with
  | zero =>
   intro a ha
   obtain rfl:a=[]:=List.length_eq_zero_iff.1 (by omega)
   rw [jD [] b (by simp),iD b h];rfl
  | succ n ih =>
   intro a ha
   rcases oI a with hf | ⟨x,y,rfl,hx⟩
   ·rw [jD a b hf,iD b h,iD a hf];rfl
   ·rw [List.append_assoc,List.cons_append,jD x _ hx,jD x y hx,ih y (by simp at ha;omega)];rfl
 exact key a.length a (Nat.le_refl _)
theorem Ad (l:List UInt8):((parts l).intersperse [47]).flatten=l:=by
 have key:∀ (n:Nat) (l:List UInt8),l.length≤n→((parts l).intersperse [47]).flatten=l:=by
  intro n
  induction n with
  | zero =>
   intro l hl
   obtain rfl:l=[]:=List.length_eq_zero_iff.1 (by omega)
   simp [parts,pa]
  | succ n ih =>
   intro l hl
   rcases oI l with hf | ⟨x,y,rfl,hx⟩
   ·rw [iD l hf];simp
   ·rw [jD x y hx,Cw x (parts y) (JZ y []),ih y (by simp at hl;omega)]
 exact key l.length l (Nat.le_refl _)
theorem dM (a b:List UInt8) (h:∀ c∈b,c≠47):cutL (a++47::b)=(a,b):=by
 simp only [cutL,qz a b h,List.reverse_append,List.reverse_cons,List.reverse_nil,List.nil_append,List.singleton_append,List.reverse_reverse,Ad]
theorem je (l:List UInt8):(∀ c∈l,c≠47)∨∃ a b,l=a++47::b∧∀ c∈b,c≠47:=by
 induction l with
 | nil=>exact .inl (by simp)
 | cons c r ih =>
  rcases ih with h | ⟨a,b,e,h⟩
  ·by_cases hc:c=47
   ·exact .inr ⟨[],r,by simp [hc],h⟩
   ·exact .inl (fun d hd=>by rcases List.mem_cons.1 hd with rfl | hd;exact hc;exact h d hd)
  ·exact .inr ⟨c::a,b,by simp [e],h⟩
def joinL (d n:List UInt8):List UInt8:=if d.isEmpty then n else d++47::n
def under (s d:List UInt8):Bool:=if d.isEmpty then !s.isEmpty else (d++[47]).isPrefixOf s
theorem aS (s d:List UInt8) (h:d≠[]):under s d=true↔∃ r,s=d++47::r:=by
 cases d with
 | nil=>exact absurd rfl h
 | cons c d =>
  simp only [under,List.isEmpty_cons,Bool.false_eq_true,if_false,List.isPrefixOf_iff_prefix]
  constructor
  ·rintro ⟨r,e⟩;exact ⟨r,by rw [← e];simp⟩
  ·rintro ⟨r,e⟩;exact ⟨r,by rw [e];simp⟩
/-! the order -/
def rk (c:UInt8):Int:=if c=47 then 1 else 2+(c.toNat:Int)
theorem nO (c:UInt8):1≤rk c∧rk c≤257:=by unfold rk;have:=c.toNat_lt;split <;> omega
theorem Jy {a b:UInt8} (h:rk a=rk b):a=b:=by
 unfold rk at h
 split at h <;> split at h
 ·simp [*]
 ·omega
 ·omega
 ·exact UInt8.toNat_inj.1 (by omega)
def cmp:List UInt8→List UInt8→Int
 | [],[]=>0
 | [],b::_=>0-rk b
 | a::_,[]=>rk a
 | a::x,b::y=>if a=b then cmp x y else rk a-rk b
theorem lK:∀ a b,cmp a b = - cmp b a
 | [],[]=>by simp [cmp]
 | [],b::_=>by simp [cmp]
 | a::_,[]=>by simp [cmp]
 | a::x,b::y=>by
  by_cases h:a=b
  ·subst h;simp only [cmp,if_true];exact lK x y
  ·have h':¬ b=a:=fun e=>h e.symm
   simp only [cmp,if_neg h,if_neg h'];omega
theorem iJ:∀ a b,cmp a b=0↔a=b
 | [],[]=>by simp [cmp]
 | [],b::_=>by have:=nO b;simp [cmp];omega
 | a::_,[]=>by have:=nO a;simp [cmp];omega
 | a::x,b::y=>by
  by_cases h:a=b
  ·subst h;simp only [cmp,if_true,List.cons.injEq,true_and];exact iJ x y
  ·have:rk a≠rk b:=fun e=>h (Jy e)
   rw [cmp,if_neg h]
   constructor
   ·intro e;omega
   ·intro e;exact absurd (List.cons.inj e).1 h
theorem iW:∀ a b c,cmp a b<0→cmp b c<0→cmp a c<0
 | [],[],_=>by simp [cmp]
 | [],_::_,[]=>by rename_i b _;have:=nO b;simp [cmp];omega
 | [],_::_,_::_=>by rename_i _ _ c _;have:=nO c;simp [cmp];omega
 | a::_,[],_=>by have:=nO a;simp [cmp];omega
 | _::_,b::_,[]=>by have:=nO b;simp [cmp];omega
 | a::x,b::y,c::z=>by
  by_cases h1:a=b
  ·subst h1
   by_cases h2:a=c
   ·subst h2;simp only [cmp,if_true];exact iW x y z
   ·simp only [cmp,if_true,if_neg h2];intro _ h;exact h
  ·by_cases h2:b=c
   ·subst h2;simp only [cmp,if_true,if_neg h1];intro h _;exact h
   ·simp only [cmp,if_neg h1,if_neg h2]
    intro h h'
    have h3:¬ a=c:=by rintro rfl;omega
    rw [if_neg h3];omega
theorem D6 (a r:List UInt8):cmp a (a++47::r)<0:=by
 induction a with
 | nil=>simp [cmp,rk]
 | cons c a ih=>simpa [cmp] using ih
/-! what a clean path's directory and name are -/
theorem qR (l:List UInt8) (h:clean l=true):joinL (cutL l).1 (cutL l).2=l∧named (cutL l).2=true∧((cutL l).1=[]∨clean (cutL l).1=true)∧under l (cutL l).1=true∧under (cutL l).1 l=false:=by
 simp only [clean,Bool.and_eq_true,decide_eq_true_eq,List.all_eq_true] at h
 obtain ⟨hl,hn⟩:=h
 have hne:l≠[]:=by
  rintro rfl
  have:=hn [] (by simp [parts,pa])
  simp [named] at this
 have hsh:∀ d:List UInt8,d.length<l.length→under d l=false:=by
  intro d hd
  cases hu:under d l with
  | false=>rfl
  | true =>
   obtain ⟨r,e⟩:=(aS d l hne).1 hu
   rw [e] at hd;simp at hd;omega
 rcases je l with hf | ⟨a,b,rfl,hb⟩
 ·rw [mI l hf]
  rw [iD l hf] at hn
  refine ⟨by simp [joinL],hn l (by simp),.inl rfl,?_,?_⟩
  ·simp [under,hne]
  ·exact hsh [] (by cases l with | nil=>exact absurd rfl hne | cons=>simp)
 ·rw [dM a b hb]
  rw [qz a b hb] at hn
  have hae:a≠[]:=by
   rintro rfl
   have:=hn [] (by simp [parts,pa])
   simp [named] at this
  have hae':a.isEmpty=false:=by cases a with | nil=>exact absurd rfl hae | cons=>rfl
  refine ⟨by simp [joinL,hae'],hn b (by simp),.inr ?_,(aS _ _ hae).2 ⟨b,rfl⟩,hsh a (by simp)⟩
  simp only [clean,Bool.and_eq_true,decide_eq_true_eq,List.all_eq_true]
  exact ⟨by simp at hl;omega,fun p hp=>hn p (by simp [hp])⟩
end Go.Proofs.YthfeoiffoeagkaaGreatDoor.PM
namespace Go.Proofs.YthfeoiffoeagkaaGreatDoor.PM
open Go.Lib Go.RowKit
theorem vF (l:List UInt8) (h:∀ c∈l,c≠47):index l [47] = -1:=by
 induction l with
 | nil=>rfl
 | cons c r ih =>
  have hc:(47:UInt8)≠c:=fun e=>h c (by simp) e.symm
  have hr:=ih (fun d hd=>h d (by simp [hd]))
  simp [index,List.isPrefixOf,hc,hr]
theorem tJ (a b:List UInt8) (h:∀ c∈a,c≠47):index (a++47::b) [47]=a.length:=by
 induction a with
 | nil=>simp [index,List.isPrefixOf]
 | cons c r ih =>
  have hc:(47:UInt8)≠c:=fun e=>h c (by simp) e.symm
  have hr:=ih (fun d hd=>h d (by simp [hd]))
  have hne:¬ ((r.length:Int) = -1):=by omega
  simp [index,List.isPrefixOf,hc,hr,hne]
theorem zI (l:List UInt8):splitK [47] 0 (count l [47]) l=parts l:=by
 have key:∀ (n:Nat) (l:List UInt8),l.length≤n→splitK [47] 0 (count l [47]) l=parts l:=by
  intro n
  induction n with
  | zero =>
   intro l hl
   obtain rfl:l=[]:=List.length_eq_zero_iff.1 (by omega)
   rw [count_miss (vF [] (by simp))];rfl
  | succ n ih =>
   intro l hl
   rcases oI l with hf | ⟨x,y,rfl,hx⟩
   ·rw [count_miss (vF l hf),iD l hf];rfl
   ·have hd:(x++47::y).drop (x.length+1)=y:=by simp
    have hc:=count_hit (by simp) (tJ x y hx)
    rw [show ([47]:List UInt8).length=1 from rfl,hd,Nat.add_comm] at hc
    rw [hc,splitK,tJ x y hx,jD x y hx]
    have hne:¬ (((x.length:Nat):Int) == -1)=true:=by simp
    rw [if_neg hne,show ([47]:List UInt8).length=1 from rfl,Int.toNat_natCast,hd,ih y (by simp at hl;omega)]
    simp
 exact key l.length l (Nat.le_refl _)
theorem uw (s:ByteArray):(splitB ⟨#[47]⟩ 0 (countB s ⟨#[47]⟩) s).map (·.data.toList)=parts s.data.toList:=by
 rw [splitB_data];exact zI _
theorem xH (s:ByteArray):(splitB ⟨#[47]⟩ 0 (countB s ⟨#[47]⟩) s).length=countB s ⟨#[47]⟩+1:=splitB_all ⟨#[47]⟩ (by decide) 0 _ s rfl
/-! the last slash of a byte string -/
theorem szl (s:ByteArray):s.data.toList.length=s.size:=Array.length_toList
theorem uM (s:ByteArray) (j:Nat) (h:j<s.data.toList.length):s.data[j]! = s.data.toList[j]:=by
 rw [getElem!_pos s.data j (by rw [← Array.length_toList];exact h),Array.getElem_toList]
theorem EA (s:ByteArray) (h:lastIndexByte s 47 = -1):∀ c∈s.data.toList,c≠47:=by
 rcases lastIndexByte_spec s 47 with ⟨_,hn⟩ | ⟨i,_,e,_⟩
 ·intro c hc
  obtain ⟨j,hj,rfl⟩:=List.mem_iff_getElem.1 hc
  have:=hn j (by rw [← szl];exact hj)
  rw [uM s j hj] at this
  intro e
  rw [e] at this
  exact this (by decide)
 ·omega
theorem wW (s:ByteArray) (i:Nat) (h:lastIndexByte s 47=i):i<s.size∧s.data.toList=s.data.toList.take i++47::s.data.toList.drop (i+1)∧∀ c∈s.data.toList.drop (i+1),c≠47:=by
 rcases lastIndexByte_spec s 47 with ⟨e,_⟩ | ⟨i',hi,e,hc,hn⟩
 ·omega
 ·obtain rfl:i'=i:=by omega
  have hi':i'<s.data.toList.length:=by rw [szl];exact hi
  refine ⟨hi,?_,?_⟩
  ·have h47:s.data.toList[i']=47:=by
    rw [uM s i' hi'] at hc
    exact UInt8.toNat_inj.1 (by have:(47:UInt8).toNat=47:=rfl;omega)
   conv=>lhs;rw [← List.take_append_drop i' s.data.toList,List.drop_eq_getElem_cons hi',h47]
  ·intro c hc'
   obtain ⟨j,hj,rfl⟩:=List.mem_iff_getElem.1 hc'
   have hjl:i'+1+j<s.data.toList.length:=by simp only [List.length_drop] at hj;omega
   have:=hn (i'+1+j) (by omega) (by rw [← szl];exact hjl)
   rw [uM s (i'+1+j) hjl] at this
   rw [List.getElem_drop]
   intro e
   rw [e] at this
   exact this (by decide)
theorem last_cases (s:ByteArray):lastIndexByte s 47 = -1∨∃ i:Nat,lastIndexByte s 47=i:=by
 rcases lastIndexByte_spec s 47 with ⟨e,_⟩ | ⟨i,_,e,_⟩
 ·exact .inl e
 ·exact .inr ⟨i,e⟩
theorem D7 (s:ByteArray) (h:lastIndexByte s 47 = -1):cutL s.data.toList=([],s.data.toList):=mI _ (EA s h)
theorem D8 (s:ByteArray) (i:Nat) (h:lastIndexByte s 47=i):cutL s.data.toList=(s.data.toList.take i,s.data.toList.drop (i+1)):=by
 obtain ⟨_,h1,h2⟩:=wW s i h
 conv=>lhs;rw [h1]
 exact dM _ _ h2
end Go.Proofs.YthfeoiffoeagkaaGreatDoor.PM
namespace Go.Proofs.YthfeoiffoeagkaaGreatDoor
open Go.RowKit PM
set_option linter.unusedVariables false
theorem vP (c:UInt8) (w:World):Calls Tryz.prog 56 #[.int .u8 (c.toNat:Int)] w fun e w'=>e=.returned (.bool (okB c))∧w'=w:=by
 have e1:okB c=decide (97≤(c.toNat:Int)∧(c.toNat:Int)≤122∨48≤(c.toNat:Int)∧(c.toNat:Int)≤57):=by
  rw [Bool.eq_iff_iff];simp [okB,UInt8.le_iff_toNat_le];omega
 have hc:=c.toNat_lt
 by_cases h1:97≤(c.toNat:Int) <;> by_cases h2:(c.toNat:Int)≤122 <;> by_cases h3:48≤(c.toNat:Int) <;> by_cases h4:(c.toNat:Int)≤57 <;>
 first
 | omega
 | (have e2 : Hid (okB c = decide (97 ≤ (c.toNat : Int) ∧ (c.toNat : Int) ≤ 122 ∨ 48 ≤ (c.toNat : Int) ∧ (c.toNat : Int) ≤ 57)):=e1
    clear e1
    go_enter Tryz.func56,Tryz.ntmps56
    go_wp2
    go_ret
    refine ⟨?_,rfl⟩
    rw [e2.out]
    simp [*])
theorem GN (s:ByteArray) (w:World) (hs:s.size≤maxLen):Calls Tryz.prog 118 #[.string s,.int .i64 s.size] w fun e w'=>e=.returned (.int .i64 0)∧w'=w:=by
 go_enter Tryz.func118,Tryz.ntmps118
 go_wp2
 go_ret
 exact ⟨rfl,rfl⟩
theorem bA {k:IntKind} {a b:Int} (h:a=b):Ending.returned (.int k a)=.returned (.int k b):=by rw [h]
theorem aR {a b:Bool} (h:a=b):Ending.returned (.bool a)=.returned (.bool b):=by rw [h]
theorem IX (s:ByteArray) (i:Nat) (w:World) (hs:s.size≤maxLen) (hi:i<s.size):Calls Tryz.prog 118 #[.string s,.int .i64 i] w fun e w'=>e=.returned (.int .i64 (rk s[i]))∧w'=w:=by
 unfold maxLen at hs
 have hc:=(s[i]).toNat_lt
 by_cases h:s[i]=47
 ·have H:Hid (rk s[i]=1):=by show _=_;simp [rk,h]
  have h1:((s[i].toNat:Int) == 47)=true:=by rw [h];rfl
  clear h
  go_enter Tryz.func118,Tryz.ntmps118
  go_wp2
  go_ret
  exact ⟨bA H.out.symm,rfl⟩
 ·have H:Hid (rk s[i]=2+(s[i].toNat:Int)):=by show _=_;simp [rk,h]
  have h1:((s[i].toNat:Int) == 47)=false:=by
   simp only [beq_eq_false_iff_ne,ne_eq]
   intro e
   exact h (UInt8.toNat_inj.1 (by have:(47:UInt8).toNat=47:=rfl;omega))
  clear h
  go_enter Tryz.func118,Tryz.ntmps118
  go_wp2
  go_ret
  exact ⟨bA H.out.symm,rfl⟩
def rkAt (s:ByteArray) (i:Nat):Int:=if h:i<s.size then rk s[i] else 0
theorem BF (s:ByteArray) (i:Nat):0≤rkAt s i∧rkAt s i≤257:=by
 unfold rkAt;split
 ·have:=nO (s[i]'(by assumption));omega
 ·omega
theorem uT (s:ByteArray) (i:Nat) (w:World) (hs:s.size≤maxLen) (hi:i≤s.size):Calls Tryz.prog 118 #[.string s,.int .i64 i] w fun e w'=>e=.returned (.int .i64 (rkAt s i))∧w'=w:=by
 by_cases h:i<s.size
 ·rw [rkAt,dif_pos h];exact IX s i w hs h
 ·obtain rfl:i=s.size:=by omega
  rw [rkAt,dif_neg h];exact GN s w hs
theorem ku (s:ByteArray) (i:Nat) (h:i<s.size):s.data.toList.drop i=s[i]::s.data.toList.drop (i+1):=by
 rw [List.drop_eq_getElem_cons (by rw [szl];exact h),Array.getElem_toList];rfl
theorem F7 (a b:ByteArray) (i:Nat) (h1:i<a.size) (h2:i<b.size) (h:a[i]=b[i]):cmp (a.data.toList.drop i) (b.data.toList.drop i)=cmp (a.data.toList.drop (i+1)) (b.data.toList.drop (i+1)):=by
 rw [ku a i h1,ku b i h2,cmp,if_pos h]
theorem uJ (a b:ByteArray) (i:Nat) (h1:i≤a.size) (h2:i≤b.size) (h:∀ (x:i<a.size) (y:i<b.size),¬ a[i]=b[i]):cmp (a.data.toList.drop i) (b.data.toList.drop i)=rkAt a i-rkAt b i:=by
 unfold rkAt
 by_cases x:i<a.size <;> by_cases y:i<b.size
 ·rw [ku a i x,ku b i y,cmp,if_neg (h x y),dif_pos x,dif_pos y]
 ·rw [ku a i x,List.drop_of_length_le (l:=b.data.toList) (by rw [szl];omega),cmp,dif_pos x,dif_neg y];omega
 ·rw [ku b i y,List.drop_of_length_le (l:=a.data.toList) (by rw [szl];omega),cmp,dif_neg x,dif_pos y]
 ·rw [List.drop_of_length_le (by rw [szl];omega),List.drop_of_length_le (l:=b.data.toList) (by rw [szl];omega),cmp,dif_neg x,dif_neg y];rfl
theorem A8 {x y:UInt8} (h:¬ x=y):((x.toNat:Int) == (y.toNat:Int))=false:=by
 simp only [beq_eq_false_iff_ne,ne_eq]
 intro e
 exact h (UInt8.toNat_inj.1 (by omega))
set_option maxHeartbeats 1000000 in
theorem oJ (a b:ByteArray) (w:World) (ha:a.size≤maxLen) (hb:b.size≤maxLen) :
  Calls Tryz.prog 83 #[.string a,.string b] w fun e w'=>e=.returned (.int .i64 (cmp a.data.toList b.data.toList))∧∃ n,w'=w.drewN n:=by
 have ha':=ha
 have hb':=hb
 unfold maxLen at ha hb
 go_enter Tryz.func83,Tryz.ntmps83
 go_wp2
 go_loopw [5] (fun i wr=>∃ k:Nat,k≤a.size∧k≤b.size∧i=.int .i64 k∧Hid (cmp (a.data.toList.drop k) (b.data.toList.drop k)=cmp a.data.toList b.data.toList)∧∃ n,wr=w.drewN n) (fun i _=>a.size-(intOf i).toNat)
 case atStart=>exact ⟨0,Nat.zero_le _,Nat.zero_le _,rfl,rfl,0,rfl⟩
 case round =>
  obtain ⟨k,hk1,hk2,rfl,HC,n,rfl⟩:=hrel
  have hra:=BF a k
  have hrb:=BF b k
  by_cases h1:k<a.size
  ·have g1:(k:Int)<(a.size:Int):=by omega
   by_cases h2:k<b.size
   ·have g2:(k:Int)<(b.size:Int):=by omega
    by_cases h3:a[k]=b[k]
    ·have HS:=F7 a b k h1 h2 h3
     have HN:Hid (cmp (a.data.toList.drop (k+1)) (b.data.toList.drop (k+1))=cmp a.data.toList b.data.toList):=by show _=_;rw [← HS];exact HC.out
     have h4:((a[k].toNat:Int) == (b[k].toNat:Int))=true:=by rw [h3];simp
     clear h3 HS HC hra hrb
     go_wp2
     go_quiet (fail)
     go_wp2
     exact ⟨⟨k+1,by omega,by omega,by go_num,HN,_,rfl⟩,by simp [intOf];omega⟩
    ·have HN:Hid (cmp a.data.toList b.data.toList=rkAt a k-rkAt b k):=by show _=_;rw [← HC.out];exact uJ a b k hk1 hk2 (fun _ _=>h3)
     have h4:((a[k].toNat:Int) == (b[k].toNat:Int))=false:=A8 h3
     clear h3 HC
     go_wp2
     go_quiet (fail)
     go_wp2_with (go_at_call 118;refine (uT _ _ _ (by assumption) (by assumption)).mono ?_;rintro e w' ⟨rfl,rfl⟩)
     go_ret
     exact ⟨bA HN.out.symm,_,rfl⟩
   ·have HN:Hid (cmp a.data.toList b.data.toList=rkAt a k-rkAt b k):=by show _=_;rw [← HC.out];exact uJ a b k hk1 hk2 (fun _ y=>absurd y h2)
    have g2:decide ((k:Int)<(b.size:Int))=false:=by simp;omega
    clear HC
    go_wp2
    go_quiet (fail)
    go_wp2_with (go_at_call 118;refine (uT _ _ _ (by assumption) (by assumption)).mono ?_;rintro e w' ⟨rfl,rfl⟩)
    go_ret
    exact ⟨bA HN.out.symm,_,rfl⟩
  ·have HN:Hid (cmp a.data.toList b.data.toList=rkAt a k-rkAt b k):=by show _=_;rw [← HC.out];exact uJ a b k hk1 hk2 (fun x _=>absurd x h1)
   have g1:decide ((k:Int)<(a.size:Int))=false:=by simp;omega
   clear HC
   go_wp2
   go_quiet (fail)
   go_wp2_with (go_at_call 118;refine (uT _ _ _ (by assumption) (by assumption)).mono ?_;rintro e w' ⟨rfl,rfl⟩)
   go_ret
   exact ⟨bA HN.out.symm,_,rfl⟩
theorem kC {d:ByteArray} (h:d.data.toList=[]):d.toList.isEmpty=true:=by rw [Lib.toList_data,h];rfl
theorem iX {d:ByteArray} (h:¬ d.data.toList=[]):d.toList.isEmpty=false:=by
 rw [Lib.toList_data]
 cases hh:d.data.toList with
 | nil=>exact absurd hh h
 | cons _ _=>rfl
theorem tL {l:List UInt8} (h:¬ l=[]):l.isEmpty=false:=by
 cases l with
 | nil=>exact absurd rfl h
 | cons _ _=>rfl
theorem data_append (a b:ByteArray):(a++b).data.toList=a.data.toList++b.data.toList:=by simp
theorem kF (d n:ByteArray) (w:World) (hl:d.size+n.size≤1000000000) :
  Calls Tryz.prog 212 #[.string d,.string n] w fun e w'=>(∃ r:ByteArray,e=.returned (.string r)∧r.data.toList=joinL d.data.toList n.data.toList)∧w'=w:=by
 by_cases h:d.data.toList=[]
 ·have h1:=kC h
  have HJ:Hid (joinL d.data.toList n.data.toList=n.data.toList):=by show _=_;rw [joinL,h];rfl
  clear h
  go_enter Tryz.func212,Tryz.ntmps212
  go_wp2
  go_ret
  exact ⟨⟨_,rfl,HJ.out.symm⟩,rfl⟩
 ·have h1:=iX h
  have HJ:Hid (joinL d.data.toList n.data.toList=d.data.toList++47::n.data.toList):=by show _=_;rw [joinL,tL h];rfl
  clear h
  go_enter Tryz.func212,Tryz.ntmps212
  go_wp2
  go_ret
  exact ⟨⟨_,rfl,by rw [HJ.out,data_append,data_append];simp⟩,rfl⟩
theorem Kj (s:ByteArray) (w:World) (hs:s.size<4611686018427387904) :
  Calls Tryz.prog 162 #[.string s] w fun e w'=>(∃ d n:ByteArray,e=.returned (.tuple #[.string d,.string n])∧d.data.toList=(cutL s.data.toList).1∧n.data.toList=(cutL s.data.toList).2)∧∃ n,w'=w.drewN n:=by
 rcases last_cases s with h | ⟨i,h⟩
 ·have HC:Hid (cutL s.data.toList=([],s.data.toList)):=D7 s h
  go_enter Tryz.func162,Tryz.ntmps162
  go_wp2_with (go_at_call 206;refine (Tryz.strings_LastIndexByte _ _ hs _).mono ?_;rintro e w' ⟨rfl,rfl⟩)
  go_ret2
  exact ⟨⟨_,_,rfl,by rw [HC.out],by rw [HC.out]⟩,0,rfl⟩
 ·have HC:Hid (cutL s.data.toList=(s.data.toList.take i,s.data.toList.drop (i+1))):=D8 s i h
  have hi:=(wW s i h).1
  go_enter Tryz.func162,Tryz.ntmps162
  go_wp2_with (go_at_call 206;refine (Tryz.strings_LastIndexByte _ _ hs _).mono ?_;rintro e w' ⟨rfl,rfl⟩)
  go_quiet (fail)
  go_wp2
  go_ret2
  exact ⟨⟨_,_,rfl,by rw [HC.out,Lib.extract_from_zero],by rw [HC.out,Lib.extract_to_end]⟩,_,rfl⟩
/-! Under -/
theorem I8 (s d:ByteArray) (h:d.size≤s.size):((s.extract 0 d.size).toList == d.toList)=decide (s.data.toList.take d.size=d.data.toList):=by
 rw [Lib.toList_data,Lib.toList_data,Lib.extract_from_zero,Bool.eq_iff_iff];simp
theorem AP (s d:ByteArray) (hd:¬ d.data.toList=[]) (h:s.size≤d.size):under s.data.toList d.data.toList=false:=by
 cases hu:under s.data.toList d.data.toList with
 | false=>rfl
 | true =>
  obtain ⟨r,e⟩:=(aS _ _ hd).1 hu
  have:=congrArg List.length e
  rw [szl,List.length_append,szl,List.length_cons] at this
  omega
theorem Dz (s d:ByteArray) (hd:¬ d.data.toList=[]) (h:d.size<s.size):under s.data.toList d.data.toList=(decide (s[d.size]=47) && decide (s.data.toList.take d.size=d.data.toList)):=by
 rw [Bool.eq_iff_iff,aS _ _ hd,Bool.and_eq_true,decide_eq_true_eq,decide_eq_true_eq]
 have hg:=ku s d.size h
 constructor
 ·rintro ⟨r,e⟩
  have ht:s.data.toList.take d.size=d.data.toList:=by rw [e,← szl d,List.take_left'];rfl
  have hdr:s.data.toList.drop d.size=47::r:=by rw [e,← szl d,List.drop_left'];rfl
  rw [hdr] at hg
  exact ⟨(List.cons.inj hg).1.symm,ht⟩
 ·rintro ⟨h1,h2⟩
  refine ⟨s.data.toList.drop (d.size+1),?_⟩
  conv=>lhs;rw [← List.take_append_drop d.size s.data.toList,h2,hg,h1]
theorem kR (s d:ByteArray) (w:World) (hs:s.size≤maxLen) (hd:d.size≤maxLen) :
  Calls Tryz.prog 186 #[.string s,.string d] w fun e w'=>e=.returned (.bool (under s.data.toList d.data.toList))∧w'=w:=by
 unfold maxLen at hs hd
 by_cases h:d.data.toList=[]
 ·have h1:=kC h
  have HJ:Hid (under s.data.toList d.data.toList = !s.toList.isEmpty):=by show _=_;rw [under,h,Lib.toList_data];rfl
  clear h
  go_enter Tryz.func186,Tryz.ntmps186
  go_wp2
  go_ret
  exact ⟨aR HJ.out.symm,rfl⟩
 ·have h1:=iX h
  by_cases h2:d.size<s.size
  ·have HU:Hid (under s.data.toList d.data.toList=(decide (s[d.size]=47) && decide (s.data.toList.take d.size=d.data.toList))):=Dz s d h h2
   have HT:Hid (((s.extract 0 d.size).toList == d.toList)=decide (s.data.toList.take d.size=d.data.toList)):=I8 s d (by omega)
   have g2:(d.size:Int)<(s.size:Int):=by omega
   clear h
   by_cases h3:s[d.size]=47
   ·have H3:Hid (s[d.size]=47):=h3
    have h4:((s[d.size].toNat:Int) == 47)=true:=by rw [h3];rfl
    clear h3
    go_enter Tryz.func186,Tryz.ntmps186
    go_wp2
    go_ret
    exact ⟨aR (by rw [HU.out,HT.out];simp [H3.out]),rfl⟩
   ·have H3:Hid (¬ s[d.size]=47):=h3
    have h4:((s[d.size].toNat:Int) == 47)=false:=A8 h3
    clear h3
    go_enter Tryz.func186,Tryz.ntmps186
    go_wp2
    go_ret
    exact ⟨aR (by rw [HU.out];simp [H3.out]),rfl⟩
  ·have HU:Hid (under s.data.toList d.data.toList=false):=AP s d h (by omega)
   have g2:¬ (d.size:Int)<(s.size:Int):=by omega
   clear h
   go_enter Tryz.func186,Tryz.ntmps186
   go_wp2
   go_ret
   exact ⟨aR (by rw [HU.out]),rfl⟩
theorem rO (l:List UInt8):named l=true↔l≠[]∧l.length≤12∧∀ c∈l,okB c=true:=by
 simp [named,List.all_eq_true,and_assoc]
theorem FW (s:ByteArray) (k:Nat) (h:k<s.size) (ha:∀ c∈s.data.toList.take k,okB c=true) (hc:okB s[k]=true):∀ c∈s.data.toList.take (k+1),okB c=true:=by
 have e:s.data.toList.take (k+1)=s.data.toList.take k++[s[k]]:=by
  rw [List.take_succ_eq_append_getElem (by rw [szl];exact h),Array.getElem_toList];rfl
 rw [e]
 intro c hm
 rcases List.mem_append.1 hm with hm | hm
 ·exact ha c hm
 ·simp at hm;rw [hm];exact hc
theorem zf (s:ByteArray) (k:Nat) (h:k<s.size) (hc:okB s[k]=false):named s.data.toList=false:=by
 cases hn:named s.data.toList with
 | false=>rfl
 | true =>
  have:=((rO _).1 hn).2.2 s[k] (by
   have hm:=List.getElem_mem (l:=s.data.toList) (n:=k) (by rw [szl];exact h)
   rwa [Array.getElem_toList] at hm)
  rw [hc] at this;cases this
set_option maxHeartbeats 400000 in
theorem rM (s:ByteArray) (w:World) (hs:s.size≤maxLen) :
  Calls Tryz.prog 37 #[.string s] w fun e w'=>e=.returned (.bool (named s.data.toList))∧w'=w:=by
 unfold maxLen at hs
 by_cases h:s.data.toList=[]
 ·have h1:=kC h
  have HN:Hid (named s.data.toList=false):=by show _=_;rw [h];rfl
  clear h
  go_enter Tryz.func37,Tryz.ntmps37
  go_wp2
  go_ret
  exact ⟨aR HN.out.symm,rfl⟩
 ·have h1:=iX h
  by_cases h2:s.size≤12
  ·have HE:Hid (s.data.toList≠[]):=h
   have g2:¬ (12:Int)<(s.size:Int):=by omega
   clear h
   go_enter Tryz.func37,Tryz.ntmps37
   go_wp2
   go_loop [13] (fun i=>∃ k:Nat,k≤s.size∧i=.int .i64 k∧Hid (∀ c∈s.data.toList.take k,okB c=true)) (fun i=>s.size-(intOf i).toNat)
   case atStart=>exact ⟨0,Nat.zero_le _,rfl,by intro c hc;simp at hc⟩
   case round =>
    obtain ⟨k,hk,rfl,HA⟩:=hrel
    by_cases hlt:k<s.size
    ·have hlt':(k:Int)<(s.size:Int):=by omega
     cases hc:okB s[k] with
     | true =>
      have HN:Hid (∀ c∈s.data.toList.take (k+1),okB c=true):=FW s k hlt HA.out hc
      clear HA
      go_wp2_with (go_at_call 56;refine (vP _ _).mono ?_;rintro e w' ⟨rfl,rfl⟩)
      go_round
      case rel=>exact ⟨k+1,by omega,by go_num,HN⟩
      case measure=>simp [intOf];omega
     | false =>
      have HN:Hid (named s.data.toList=false):=zf s k hlt hc
      clear HA
      go_wp2_with (go_at_call 56;refine (vP _ _).mono ?_;rintro e w' ⟨rfl,rfl⟩)
      go_ret
      exact ⟨aR HN.out.symm,rfl⟩
    ·have HN:Hid (named s.data.toList=true):=(rO _).2 ⟨HE.out,by rw [szl];omega,fun c hc=>HA.out c (by rw [List.take_of_length_le (by rw [szl];omega)];exact hc)⟩
     have hlt':¬ (k:Int)<(s.size:Int):=by omega
     clear HA
     go_wp2
     go_ret
     exact ⟨aR HN.out.symm,rfl⟩
  ·have HN:Hid (named s.data.toList=false):=by
    show _=_
    cases hn:named s.data.toList with
    | false=>rfl
    | true=>have:=((rO _).1 hn).2.1;rw [szl] at this;omega
   have g2:(12:Int)<(s.size:Int):=by omega
   clear h
   go_enter Tryz.func37,Tryz.ntmps37
   go_wp2
   go_ret
   exact ⟨aR HN.out.symm,rfl⟩
/-! Clean -/
theorem nY (l:List UInt8):clean l=true↔l.length≤80∧∀ p∈parts l,named p=true:=by
 simp [clean,List.all_eq_true]
theorem Il {w:World} {a:Addr} {v:Value} (h:w.cell? a=some v):a.block<w.heap.size:=World.block_lt_of_cell? w a h
theorem xA (s:ByteArray) {k:Nat} {p:ByteArray} {Ps:List ByteArray} (hP:Ps.map (·.data.toList)=parts s.data.toList) (h:Ps[k]?=some p):p.data.toList∈parts s.data.toList∧p.size≤s.size:=by
 have hm:p.data.toList∈parts s.data.toList:=by rw [← hP];exact List.mem_map_of_mem (List.mem_of_getElem? h)
 refine ⟨hm,?_⟩
 have:=Fj hm
 rwa [szl,szl] at this
theorem FN {L:List (List UInt8)} {k:Nat} {p:List UInt8} (h:L[k]?=some p) (ha:∀ q∈L.take k,named q=true) (hp:named p=true):∀ q∈L.take (k+1),named q=true:=by
 rw [List.take_add_one,h]
 intro q hq
 rcases List.mem_append.1 hq with hq | hq
 ·exact ha q hq
 ·simp at hq;rw [hq];exact hp
set_option maxHeartbeats 1000000 in
theorem nX (s:ByteArray) (m:Int) (w:World) (hs:s.size≤maxLen) (hm:w.cell? ⟨0,0,none⟩=some (.int .i64 m)) :
  Calls Tryz.prog 26 #[.string s] w fun e w'=>e=.returned (.bool (clean s.data.toList))∧Below w.heap.size w w':=by
 unfold maxLen at hs
 by_cases h:s.size≤80
 ·have g:¬ (80:Int)<(s.size:Int):=by omega
  have cS:=Tryz.strings_Split s ⟨#[47]⟩ m w (by omega) hm (by decide)
  have hP:=uw s
  have hn:=xH s
  have hcnt:Lib.countB s ⟨#[47]⟩≤s.size:=Lib.countB_le ⟨#[47]⟩ (by decide) s.size s (Nat.le_refl _)
  generalize Lib.splitB ⟨#[47]⟩ 0 (Lib.countB s ⟨#[47]⟩) s=Ps at *
  generalize Lib.countB s ⟨#[47]⟩=cn at *
  have HP:Hid (Ps.map (·.data.toList)=parts s.data.toList):=hP
  clear hP
  go_enter Tryz.func26,Tryz.ntmps26
  go_wp2_with (go_at_call 50;refine cS.mono ?_;rintro e w' ⟨rfl,hw⟩;rw [hw])
  clear cS
  go_loop [11] (fun i=>∃ k:Nat,k≤cn+1∧i=.int .i64 k∧Hid (∀ p∈(parts s.data.toList).take k,named p=true)) (fun i=>cn+1-(intOf i).toNat)
  case atStart=>exact ⟨0,Nat.zero_le _,rfl,by intro c hc;simp at hc⟩
  case round =>
   obtain ⟨k,hk,rfl,HA⟩:=hrel
   by_cases hlt:k<cn+1
   ·have hlt':(k:Int)<(cn:Int)+1:=by omega
    obtain ⟨p,hp⟩:∃ p,Ps[k]?=some p:=⟨_,List.getElem?_eq_getElem (by omega)⟩
    have hcell:(w.alloc (.cells (Ps.map Value.string).toArray 9)).cell? ⟨w.heap.size,k,none⟩=some (.string p):=Lib.pieces_cell_at w Ps 9 k p hp
    have hps:=(xA s HP.out hp).2
    have hp80:p.size≤maxLen:=by unfold maxLen;omega
    have HPk:Hid ((parts s.data.toList)[k]?=some p.data.toList):=by show _=_;rw [← HP.out,List.getElem?_map,hp];rfl
    clear hp
    go_wp2_with (go_at_call 37;refine (rM _ _ (by assumption)).mono ?_;rintro e w' ⟨rfl,rfl⟩)
    ·have hno:named p.data.toList=false:=by simpa using (by assumption:(!named p.data.toList)=true)
     have HN:Hid (clean s.data.toList=false):=by
      show _=_
      cases hc:clean s.data.toList with
      | false=>rfl
      | true=>rw [((nY _).1 hc).2 _ (List.mem_of_getElem? HPk.out)] at hno;cases hno
     go_ret
     exact ⟨aR HN.out.symm,(Below.refl _ _).alloc (Nat.le_refl _) _⟩
    ·have hyes:named p.data.toList=true:=by simpa using (by assumption:(!named p.data.toList)=false)
     exact ⟨⟨k+1,by omega,by go_num,FN HPk.out HA.out hyes⟩,by simp [intOf];omega⟩
   ·have hlt':¬ (k:Int)<(cn:Int)+1:=by omega
    have HN:Hid (clean s.data.toList=true):=(nY _).2 ⟨by rw [szl];exact h,fun p hp=>HA.out p (by
     rw [List.take_of_length_le (by rw [← HP.out,List.length_map];omega)];exact hp)⟩
    clear HA
    go_wp2
    go_ret
    exact ⟨aR HN.out.symm,(Below.refl _ _).alloc (Nat.le_refl _) _⟩
 ·have g:(80:Int)<(s.size:Int):=by omega
  have HN:Hid (clean s.data.toList=false):=by
   show _=_
   cases hc:clean s.data.toList with
   | false=>rfl
   | true=>have:=((nY _).1 hc).1;rw [szl] at this;omega
  go_enter Tryz.func26,Tryz.ntmps26
  go_wp2
  go_ret
  exact ⟨aR HN.out.symm,Below.refl _ _⟩
end Go.Proofs.YthfeoiffoeagkaaGreatDoor
namespace Go.Proofs.YthfeoiffoeagkaaGreatDoor.PM
set_option linter.unusedVariables false
structure Ent where
 path:ByteArray
 kind:Int
 text:ByteArray
 opq:Bool
deriving DecidableEq
instance:Inhabited Ent:=⟨⟨ByteArray.empty,0,ByteArray.empty,false⟩⟩
def Ent.p (e:Ent):List UInt8:=e.path.data.toList
theorem dz {a b:ByteArray} (h:a.data.toList=b.data.toList):a=b:=by
 cases a;cases b;simp at h;simp [h]
def ltE (a b:Ent):Prop:=cmp a.p b.p<0
def Sorted (t:List Ent):Prop:=t.Pairwise ltE
theorem jf (a:List UInt8):cmp a a=0:=(iJ a a).2 rfl
theorem iT {a b:Ent} (h:ltE a b):a.p≠b.p:=by
 intro e;unfold ltE at h;rw [e,jf] at h;omega
theorem wZ {a b c:Ent} (h:ltE a b) (g:ltE b c):ltE a c:=iW _ _ _ h g
theorem oo {a b:Ent} (h:ltE a b) (g:ltE b a):False:=by
 have:=wZ h g;exact iT this rfl
theorem jW:∀ {a b:List Ent},Sorted a→Sorted b→(∀ x,x∈a↔x∈b)→a=b
 | [],[],_,_,_=>rfl
 | [],y::b,_,_,h=>absurd ((h y).2 (by simp)) (by simp)
 | x::a,[],_,_,h=>absurd ((h x).1 (by simp)) (by simp)
 | x::a,y::b,ha,hb,h=>by
  have ha':=List.pairwise_cons.1 ha
  have hb':=List.pairwise_cons.1 hb
  have e:x=y:=by
   rcases List.mem_cons.1 ((h x).1 (by simp)) with e | e
   ·exact e
   ·rcases List.mem_cons.1 ((h y).2 (by simp)) with g | g
    ·exact g.symm
    ·exact (oo (hb'.1 x e) (ha'.1 y g)).elim
  subst e
  rw [jW ha'.2 hb'.2 fun z=>?_]
  constructor
  ·intro hz
   rcases List.mem_cons.1 ((h z).1 (by simp [hz])) with e | e
   ·exact absurd (congrArg Ent.p e).symm (iT (ha'.1 z hz))
   ·exact e
  ·intro hz
   rcases List.mem_cons.1 ((h z).2 (by simp [hz])) with e | e
   ·exact absurd (congrArg Ent.p e).symm (iT (hb'.1 z hz))
   ·exact e
theorem lD {t:List Ent} (h:Sorted t) {x y:Ent} (hx:x∈t) (hy:y∈t) (e:x.p=y.p):x=y:=by
 induction t with
 | nil=>simp at hx
 | cons z t ih =>
  have h':=List.pairwise_cons.1 h
  rcases List.mem_cons.1 hx with gx | gx <;> rcases List.mem_cons.1 hy with gy | gy
  ·rw [gx,gy]
  ·subst gx;exact absurd e (iT (h'.1 y gy))
  ·subst gy;exact absurd e.symm (iT (h'.1 x gx))
  ·exact ih h'.2 gx gy
def dirE:Ent:=⟨ByteArray.empty,2,ByteArray.empty,false⟩
def getL (t:List Ent) (p:List UInt8):Option Ent:=if p=[] then some dirE else t.find? fun e=>e.p=p
theorem bU (t:List Ent):getL t []=some dirE:=by simp [getL]
theorem aM {t:List Ent} {p:List UInt8} {e:Ent} (h:p≠[]) (hg:getL t p=some e):e∈t∧e.p=p:=by
 rw [getL,if_neg h] at hg
 exact ⟨List.mem_of_find?_eq_some hg,by simpa using List.find?_some hg⟩
theorem dQ {t:List Ent} {p:List UInt8} (hg:getL t p=none):p≠[]∧∀ e∈t,e.p≠p:=by
 by_cases h:p=[]
 ·rw [h,bU] at hg;cases hg
 ·rw [getL,if_neg h] at hg
  exact ⟨h,fun e he=>by simpa using List.find?_eq_none.1 hg e he⟩
theorem dU {t:List Ent} (hs:Sorted t) {e:Ent} (he:e∈t) (h:e.p≠[]):getL t e.p=some e:=by
 cases hg:getL t e.p with
 | none=>exact absurd rfl ((dQ hg).2 e he)
 | some f=>rw [lD hs he (aM h hg).1 (aM h hg).2.symm]
theorem bn {t:List Ent} {p:List UInt8} (h:p≠[]) (hn:∀ e∈t,e.p≠p):getL t p=none:=by
 cases hg:getL t p with
 | none=>rfl
 | some f=>exact absurd (aM h hg).2 (hn f (aM h hg).1)
def aG (e:Ent) (layer:Bool):Int :=
 if !(e.kind=1 || e.kind=3) && !(e.kind=2) && !(layer && e.kind=4) then 1
 else if !clean e.p then 7
 else if 100<e.text.size then 4
 else if e.text.size≠0 && !(e.kind=1 || e.kind=3) || (e.text.size=0 && e.kind=3) || (e.opq && !(layer && e.kind=2)) then 8
 else 0
theorem bq {e:Ent} {layer:Bool} (h:aG e layer=0):clean e.p=true:=by
 unfold aG at h
 split at h
 ·omega
 ·split at h
  ·omega
  ·rename_i _ h2;simpa using h2
theorem uE {e f:Ent} {layer:Bool} (h:aG e layer=0) (hk:f.kind=e.kind) (ht:f.text=e.text) (ho:f.opq=e.opq) (hc:clean f.p=true):aG f layer=0:=by
 have he:=bq h
 unfold aG at h ⊢
 rw [hk,ht,ho,hc];rw [he] at h;exact h
theorem bX {l:List UInt8} (h:clean l=true):l≠[]:=by
 rintro rfl
 simp [clean,parts,pa,named] at h
def aA (l:List UInt8):List UInt8:=(cutL l).1
structure Right (layer:Bool) (t:List Ent):Prop where
 len:t.length≤80
 each:∀ e∈t,aG e layer=0
 sorted:Sorted t
 dir:∀ e∈t,aA e.p=[]∨∃ d∈t,d.p=aA e.p∧d.kind=2
theorem Right.clean {b:Bool} {t:List Ent} (h:Right b t) {e:Ent} (he:e∈t):clean e.p=true:=bq (h.each e he)
theorem Right.ne {b:Bool} {t:List Ent} (h:Right b t) {e:Ent} (he:e∈t):e.p≠[]:=bX (h.clean he)
theorem oG {l p:List UInt8} (hp:p≠[]) (hu:under l p=true):aA l=p∨under (aA l) p=true:=by
 obtain ⟨r,rfl⟩:=(aS l p hp).1 hu
 rcases je r with hf | ⟨a,b,rfl,hb⟩
 ·left;rw [aA,dM p r hf]
 ·right
  have:aA (p++47::(a++47::b))=p++47::a:=by
   rw [aA,show p++47::(a++47::b)=(p++47::a)++47::b by simp,dM _ b hb]
  rw [this];exact (aS _ _ hp).2 ⟨a,rfl⟩
theorem nE (l:List UInt8):(aA l).length≤l.length:=by
 rcases je l with hf | ⟨a,b,rfl,hb⟩
 ·rw [aA,mI l hf];simp
 ·rw [aA,dM a b hb];simp
theorem cO {l:List UInt8} (h:l≠[]):(aA l).length<l.length:=by
 rcases je l with hf | ⟨a,b,rfl,hb⟩
 ·rw [aA,mI l hf];cases l with | nil=>exact absurd rfl h | cons=>simp
 ·rw [aA,dM a b hb];simp
theorem Right.below {b:Bool} {t:List Ent} (h:Right b t) {p:List UInt8} (hp:p≠[]):∀ (n:Nat) {e:Ent},e.p.length≤n→e∈t→under e.p p=true→∃ d∈t,d.p=p∧d.kind=2:=by
 intro n
 induction n with
 | zero=>intro e hn he _;exact absurd (List.length_eq_zero_iff.1 (by omega)) (h.ne he)
 | succ n ih =>
  intro e hn he hu
  have hd:∃ d∈t,d.p=aA e.p∧d.kind=2:=by
   rcases h.dir e he with hd | hd
   ·rcases oG hp hu with g | g
    ·exact absurd (g.symm.trans hd) hp
    ·obtain ⟨r,e'⟩:=(aS _ _ hp).1 g
     rw [hd] at e';simp at e'
   ·exact hd
  obtain ⟨d,hdt,hdp,hdk⟩:=hd
  rcases oG hp hu with g | g
  ·exact ⟨d,hdt,hdp.trans g,hdk⟩
  ·exact ih (by rw [hdp];have:=cO (h.ne he);omega) hdt (by rw [hdp];exact g)
theorem fJ {l:List UInt8} (h:l≠[]) (hd:aA l≠[]):under l (aA l)=true:=by
 rcases je l with hf | ⟨a,b,rfl,hb⟩
 ·rw [aA,mI l hf] at hd;exact absurd rfl hd
 ·rw [aA,dM a b hb] at hd ⊢;exact (aS _ _ hd).2 ⟨b,rfl⟩
theorem Ee {l:List UInt8} (h:l≠[]) (hd:aA l≠[]):cmp (aA l) l<0:=by
 obtain ⟨r,e⟩:=(aS _ _ hd).1 (fJ h hd)
 have:=D6 (aA l) r
 rwa [← e] at this
/-! what is wrong with a list,first -/
def aW (t:List Ent) (p:List UInt8):Int:=match getL t p with | none=>6 | some e=>if e.kind=2 then 0 else 10
def jk (ahead:List Ent) (p:List UInt8):Bool:=match ahead.getLast? with | none=>false | some e=>decide (0≤cmp e.p p)
def jO (ahead:List Ent) (p:List UInt8):Int :=
 if jk ahead p then 2
 else if aW ahead (aA p)=0 then 0 else 10
def jv (layer:Bool) (ahead:List Ent) (e:Ent):Int:=if aG e layer=0 then jO ahead e.p else aG e layer
def dP (layer:Bool) (ahead:List Ent):List Ent→Int × Nat
 | []=>(0,0)
 | e::r=>if jv layer ahead e=0 then dP layer (ahead++[e]) r else (jv layer ahead e,ahead.length)
def aD (layer:Bool) (t:List Ent):Int × Nat:=if 80<t.length then (5,0) else dP layer [] t
theorem uq {a:List Ent} {e:Ent}:Sorted (a++[e])↔Sorted a∧∀ x∈a,ltE x e:=by
 unfold Sorted
 rw [List.pairwise_append];simp
theorem uU {a:List Ent} {e:Ent} (h:Sorted a) (hl:∀ x,a.getLast?=some x→ltE x e):Sorted (a++[e]):=by
 refine uq.2 ⟨h,fun x hx=>?_⟩
 rcases List.eq_nil_or_concat a with rfl | ⟨b,y,rfl⟩
 ·simp at hx
 ·have hy:=hl y (by simp)
  rw [List.concat_eq_append] at hx h
  rcases List.mem_append.1 hx with hx | hx
  ·exact wZ ((uq.1 h).2 x hx) hy
  ·simp at hx;subst hx;exact hy
theorem dJ {t:List Ent} {p:List UInt8}:aW t p=0↔p=[]∨∃ d∈t,d.p=p∧d.kind=2∧getL t p=some d:=by
 unfold aW
 constructor
 ·intro h
  by_cases hp:p=[]
  ·exact .inl hp
  ·cases hg:getL t p with
   | none=>rw [hg] at h;simp at h
   | some e =>
    rw [hg] at h
    refine .inr ⟨e,(aM hp hg).1,(aM hp hg).2,?_,rfl⟩
    by_cases hk:e.kind=2
    ·exact hk
    ·simp [hk] at h
 ·rintro (rfl | ⟨d,_,_,hk,hg⟩)
  ·rw [bU];rfl
  ·rw [hg];simp [hk]
structure Good (layer:Bool) (t:List Ent):Prop where
 each:∀ e∈t,aG e layer=0
 sorted:Sorted t
 dir:∀ e∈t,aA e.p=[]∨∃ d∈t,d.p=aA e.p∧d.kind=2
theorem Good.snoc {b:Bool} {a:List Ent} {e:Ent} (h:Good b a) (hf:jv b a e=0):Good b (a++[e]):=by
 unfold jv at hf
 split at hf
 ·rename_i hw
  unfold jO at hf
  split at hf
  ·omega
  ·rename_i hl
   split at hf
   ·rename_i hd
    refine ⟨fun x hx=>?_,uU h.sorted fun x hx=>?_,fun x hx=>?_⟩
    ·rcases List.mem_append.1 hx with hx | hx
     ·exact h.each x hx
     ·simp at hx;subst hx;exact hw
    ·unfold jk at hl;rw [hx] at hl;simp at hl;exact hl
    ·rcases List.mem_append.1 hx with hx | hx
     ·rcases h.dir x hx with g | ⟨d,h1,h2⟩
      ·exact .inl g
      ·exact .inr ⟨d,by simp [h1],h2⟩
     ·simp at hx;subst hx
      rcases dJ.1 hd with g | ⟨d,h1,h2,h3,_⟩
      ·exact .inl g
      ·exact .inr ⟨d,by simp [h1],h2,h3⟩
   ·omega
 ·omega
theorem yS (b:Bool):Good b []:=⟨by simp,List.Pairwise.nil,by simp⟩
theorem Cg {b:Bool} {a:List Ent} {e:Ent} {r:List Ent} (h:Good b (a++e::r)):jv b a e=0:=by
 have hs:=List.pairwise_append.1 h.sorted
 have hw:=h.each e (by simp)
 have hne:=bX (bq hw)
 unfold jv jO
 rw [if_pos hw]
 have h1:jk a e.p=false:=by
  unfold jk
  cases hg:a.getLast? with
  | none=>rfl
  | some x =>
   have hx:=List.mem_of_getLast? hg
   have:=hs.2.2 x hx e (by simp)
   unfold ltE at this
   simp;omega
 rw [h1]
 simp only [Bool.false_eq_true,if_false]
 rw [if_pos]
 refine dJ.2 ?_
 by_cases hd:aA e.p=[]
 ·exact .inl hd
 rcases h.dir e (by simp) with g | ⟨d,hdt,hdp,hdk⟩
 ·exact absurd g hd
 ·have hlt:ltE d e:=by unfold ltE;rw [hdp];exact Ee hne hd
  have hda:d∈a:=by
   rcases List.mem_append.1 hdt with g | g
   ·exact g
   ·rcases List.mem_cons.1 g with rfl | g
    ·exact absurd rfl (iT hlt)
    ·exact (oo hlt ((List.pairwise_cons.1 hs.2.1).1 d g)).elim
  exact .inr ⟨d,hda,hdp,hdk,by rw [← hdp];exact dU hs.1 hda (by rw [hdp];exact hd)⟩
theorem oZ {b:Bool}:∀ (r a:List Ent),Good b a→((dP b a r).1=0↔Good b (a++r))
 | [],a,h=>by simp [dP,h]
 | e::r,a,h=>by
  rw [dP]
  split
  ·rename_i hf
   rw [oZ r (a++[e]) (h.snoc hf)];simp
  ·rename_i hf
   constructor
   ·intro g;exact absurd g hf
   ·intro g;exact absurd (Cg g) hf
theorem qY {b:Bool}:∀ (r a:List Ent),(dP b a r).1=0→dP b a r=(0,0)
 | [],_,_=>rfl
 | e::r,a,h=>by
  rw [dP] at h ⊢
  split
  ·rename_i hf;rw [if_pos hf] at h;exact qY r _ h
  ·rename_i hf;rw [if_neg hf] at h;exact absurd h hf
theorem bM {b:Bool} {t:List Ent}:(aD b t).1=0↔Right b t:=by
 unfold aD
 split
 ·rename_i h
  constructor
  ·intro g;simp at g
  ·intro g;have:=g.len;omega
 ·rename_i h
  rw [oZ t [] (yS b),List.nil_append]
  constructor
  ·intro g;exact ⟨by omega,g.each,g.sorted,g.dir⟩
  ·intro g;exact ⟨g.each,g.sorted,g.dir⟩
theorem qZ {b:Bool} {t:List Ent} (h:Right b t):aD b t=(0,0):=by
 have h0:=bM.2 h
 unfold aD at h0 ⊢
 rw [if_neg (by have:=h.len;omega)] at h0 ⊢
 exact qY _ _ h0
end Go.Proofs.YthfeoiffoeagkaaGreatDoor.PM
