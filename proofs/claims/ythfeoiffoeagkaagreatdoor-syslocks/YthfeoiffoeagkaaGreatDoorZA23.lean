/-
  What calls find, as it changes in memory: a file, an opening, a number; new ones.
-/
import Derived.Test.YthfeoiffoeagkaaGreatDoorZA22
namespace Go.Proofs.YthfeoiffoeagkaaGreatDoor
open Go.RowKit PM Go.Sort
set_option linter.unusedVariables false
namespace PM
def Sy.setF (s:Sy) (i:Nat) (f:Fl):Sy:={ s with files:=s.files.set i f }
def Sy.setO (s:Sy) (j:Nat) (o:Opn):Sy:={ s with opens:=s.opens.set j o }
def Sy.dS (s:Sy) (k:Nat) (j:Option Nat):Sy:={ s with fds:=fun x=>if x=k then j else s.fds x }
def Sy.iP (s:Sy) (f:Fl):Sy:={ s with files:=s.files++[f] }
def Sy.gT (s:Sy) (o:Opn):Sy:={ s with opens:=s.opens++[o] }
end PM
section
variable {base:Nat} {W X:World} {S:Nat} {s:Sy} {L:Lay6}
theorem lX {α:Type} {l:List α} {i k:Nat} {x y:α} (h:(l.set i x)[k]?=some y):(k=i∧y=x∧i<l.length)∨(k≠i∧l[k]?=some y):=by
 rw [List.getElem?_set] at h
 split at h
 ·rename_i e
  split at h
  ·rename_i hl
   exact .inl ⟨e.symm,by injection h with h;exact h.symm,hl⟩
  ·cases h
 ·rename_i e
  exact .inr ⟨fun e'=>e e'.symm,h⟩
theorem aj.file (h:aj base W S s L) {i:Nat} {f f':Fl} (hf:s.files[i]?=some f) (lp:Option Addr × Nat) (hk:Keep (·=L.fb i) W X) (hb:X.heap[L.fb i]?=some (.cells #[.string f'.path,.string f'.text,.slice lp.1 f'.locks.length lp.2] 203 (0,0)))
  (hl:St (Sp S s L) X (fun X=>LK.Lies X lp.1 f'.locks)) (hc:f'.locks.length≤lp.2) (hn:lp.1=none→lp.2=0):aj base X S (s.setF i f') { L with lp:=fun k=>if k=i then lp else L.lp k }:=by
 have hi:=(List.getElem?_eq_some_iff.1 hf).1
 have hks:Keep (Sp S s L) W X:=⟨hk.size,fun b hb hn=>hk.block b hb (fun e=>hn (.inr (.inr ⟨i,hi,e⟩)))⟩
 have hsp:∀ b,Sp S (s.setF i f') { L with lp:=fun k=>if k=i then lp else L.lp k } b↔Sp S s L b:=fun b=>by simp [Sp,Sy.setF]
 refine ⟨?_,fun j o ho=>?_,fun k g hg=>?_,h.injO,fun a b ha hb=>h.injF a b (by simpa [Sy.setF] using ha) (by simpa [Sy.setF] using hb),?_,h.up,h.low,h.scap,h.snil,h.val1,fun o ho=>by simpa [Sy.setF] using h.val2 o ho,fun b hb=>⟨(h.exb b hb).1,Nat.lt_of_lt_of_le (h.exb b hb).2 hk.size⟩,⟨h.base.1,h.base.2.1,fun k hk=>h.base.2.2 k (by simpa [Sy.setF] using hk)⟩⟩
 ·obtain ⟨arr,ha,h1⟩:=h.blk
  exact ⟨arr,(hk.block S h.lt (fun e=>h.fne hi e.symm)).trans ha,h1⟩
 ·exact (hk.block _ (h.olt (List.getElem?_eq_some_iff.1 ho).1) (h.ofne hi (List.getElem?_eq_some_iff.1 ho).1)).trans (h.opn j o ho)
 ·rcases lX hg with ⟨rfl,rfl,_⟩ | ⟨hne,hg⟩
  ·simpa using hb
  ·have hkl:=(List.getElem?_eq_some_iff.1 hg).1
   show X.heap[L.fb k]?=some (.cells #[_,_,.slice (if k=i then lp else L.lp k).1 _ (if k=i then lp else L.lp k).2] _ _)
   rw [if_neg hne]
   exact (hk.block _ (h.flt hkl) (fun e=>hne (h.injF k i hkl hi e))).trans (h.fil k g hg)
 ·intro Y hY
  have hZ:Keep (Sp S s L) X Y:=⟨hY.size,fun b hb hn=>hY.block b hb (fun e=>hn ((hsp b).1 e))⟩
  have hd:=h.data Y (hks.trans hZ)
  refine ⟨hd.un,hd.seen,fun k g hg=>?_⟩
  show LK.Lies Y (if k=i then lp else L.lp k).1 g.locks∧g.locks.length≤(if k=i then lp else L.lp k).2∧((if k=i then lp else L.lp k).1=none→(if k=i then lp else L.lp k).2=0)
  rcases lX hg with ⟨rfl,rfl,_⟩ | ⟨hne,hg⟩
  ·rw [if_pos rfl];exact ⟨hl Y hZ,hc,hn⟩
  ·rw [if_neg hne];exact hd.locks k g hg
theorem aj.opening (h:aj base W S s L) {j:Nat} {o o':Opn} (ho:s.opens[j]?=some o) (hof:o'.file=o.file) (hk:Keep (·=L.ob j) W X) (hb:X.heap[L.ob j]?=some (.cells #[.pointer (some ⟨L.fb o'.file,0,none⟩),.int .i64 o'.use,.int .i64 o'.pos] 116 (0,0))):aj base X S (s.setO j o') L:=by
 have hj:=(List.getElem?_eq_some_iff.1 ho).1
 have hks:Keep (Sp S s L) W X:=⟨hk.size,fun b hb hn=>hk.block b hb (fun e=>hn (.inr (.inl ⟨j,hj,e⟩)))⟩
 have hsp:∀ b,Sp S (s.setO j o') L b↔Sp S s L b:=fun b=>by simp [Sp,Sy.setO]
 refine ⟨?_,fun k g hg=>?_,fun i f hf=>?_,fun a b ha hb=>h.injO a b (by simpa [Sy.setO] using ha) (by simpa [Sy.setO] using hb),h.injF,?_,h.up,h.low,h.scap,h.snil,fun k j' hk=>by simpa [Sy.setO] using h.val1 k j' hk,fun g hg=>?_,fun b hb=>⟨(h.exb b hb).1,Nat.lt_of_lt_of_le (h.exb b hb).2 hk.size⟩,⟨h.base.1,fun k hk=>h.base.2.1 k (by simpa [Sy.setO] using hk),h.base.2.2⟩⟩
 ·obtain ⟨arr,ha,h1⟩:=h.blk
  exact ⟨arr,(hk.block S h.lt (fun e=>h.one hj e.symm)).trans ha,h1⟩
 ·rcases lX hg with ⟨rfl,rfl,_⟩ | ⟨hne,hg⟩
  ·exact hb
  ·have hkl:=(List.getElem?_eq_some_iff.1 hg).1
   exact (hk.block _ (h.olt hkl) (fun e=>hne (h.injO k j hkl hj e))).trans (h.opn k g hg)
 ·have hi:=(List.getElem?_eq_some_iff.1 hf).1
  exact (hk.block _ (h.flt hi) (fun e=>h.ofne hi hj e.symm)).trans (h.fil i f hf)
 ·intro Y hY
  have hY:Keep (Sp S s L) X Y:=⟨hY.size,fun b hb hn=>hY.block b hb (fun e=>hn ((hsp b).1 e))⟩
  exact ⟨(h.data Y (hks.trans hY)).un,(h.data Y (hks.trans hY)).seen,(h.data Y (hks.trans hY)).locks⟩
 ·obtain ⟨k,hkl,hkg⟩:=List.mem_iff_getElem.1 hg
  rcases lX (List.getElem?_eq_some_iff.2 ⟨hkl,hkg⟩) with ⟨_,rfl,_⟩ | ⟨_,hg'⟩
  ·rw [hof];exact h.val2 o (List.mem_of_getElem? ho)
  ·exact h.val2 g (List.mem_of_getElem? hg')
theorem aj.number (h:aj base W S s L) {k:Nat} (hk32:k<32) (j:Option Nat) (hj:∀ x,j=some x→x<s.opens.length) (v:Value) (hv:v=.pointer (j.map fun j=>⟨L.ob j,0,none⟩)):aj base (W.setCell ⟨S,3+k,none⟩ v) S (s.dS k j) L:=by
 have hk:Keep (·=S) W (W.setCell ⟨S,3+k,none⟩ v):=Keep.set (sp:=(·=S)) rfl _ _ _
 have hks:Keep (Sp S s L) W (W.setCell ⟨S,3+k,none⟩ v):=⟨hk.size,fun b hb hn=>hk.block b hb (fun e=>hn (.inl (.inl e)))⟩
 refine ⟨?_,fun j o ho=>(hk.block _ (h.olt (List.getElem?_eq_some_iff.1 ho).1) (h.one (List.getElem?_eq_some_iff.1 ho).1)).trans (h.opn j o ho),fun i f hf=>(hk.block _ (h.flt (List.getElem?_eq_some_iff.1 hf).1) (h.fne (List.getElem?_eq_some_iff.1 hf).1)).trans (h.fil i f hf),h.injO,h.injF,fun Y hY=>?_,h.up,h.low,h.scap,h.snil,fun a b hab=>?_,h.val2,fun b hb=>⟨(h.exb b hb).1,Nat.lt_of_lt_of_le (h.exb b hb).2 hk.size⟩,h.base⟩
 ·obtain ⟨arr,ha,hs,a0,a1,a2,af⟩:=h.blk
  refine ⟨_,aH ha (3+k) v,by simp [hs],?_,?_,?_,fun x hx=>?_⟩
  ·rw [Array.getElem?_setIfInBounds_ne (by omega)];exact a0
  ·rw [Array.getElem?_setIfInBounds_ne (by omega)];exact a1
  ·rw [Array.getElem?_setIfInBounds_ne (by omega)];exact a2
  ·by_cases e:x=k
   ·subst e
    rw [Array.getElem?_setIfInBounds_self_of_lt (by omega),hv]
    show _=some (Value.pointer (((if x=x then j else s.fds x)).map _))
    rw [if_pos rfl]
   ·rw [Array.getElem?_setIfInBounds_ne (by omega),af x hx]
    show _=some (Value.pointer (((if x=k then j else s.fds x)).map _))
    rw [if_neg e]
 ·exact ⟨(h.data Y (hks.trans hY)).un,(h.data Y (hks.trans hY)).seen,(h.data Y (hks.trans hY)).locks⟩
 ·have hab:(if a=k then j else s.fds a)=some b:=hab
  by_cases e:a=k
  ·rw [if_pos e] at hab;exact hj b hab
  ·rw [if_neg e] at hab;exact h.val1 a b hab
theorem iK {α:Type} {l:List α} {k:Nat} {x y:α} (h:(l++[x])[k]?=some y):(k=l.length∧y=x)∨(k<l.length∧l[k]?=some y):=by
 rcases Nat.lt_or_ge k l.length with hk | hk
 ·rw [List.getElem?_append_left hk] at h;exact .inr ⟨hk,h⟩
 ·rw [List.getElem?_append_right hk] at h
  rcases Nat.eq_or_lt_of_le hk with e | e
  ·rw [← e,Nat.sub_self] at h;injection h with h;exact .inl ⟨e.symm,h.symm⟩
  ·rw [List.getElem?_eq_none (by simp;omega)] at h;cases h
theorem aj.II (h:aj base W S s L) (p t:ByteArray):∃ L':Lay6,aj base (W.alloc (.cells #[.string p,.string t,.slice none 0 0] 203)) S (s.iP ⟨p,t,[]⟩) L'∧L'.ob=L.ob∧(∀ i,i<s.files.length→L'.fb i=L.fb i)∧L'.fb s.files.length=W.heap.size∧L'.y=L.y∧L'.lo=L.lo∧L'.pl=L.pl∧L'.cl=L.cl∧L'.ex=L.ex:=by
 have hB:Below W.heap.size W (W.alloc (.cells #[.string p,.string t,.slice none 0 0] 203)):=((Grown.refl W).alloc _).below
 have hk:=h.kept hB
 have hnew:(W.alloc (.cells #[.string p,.string t,.slice none 0 0] 203)).heap[W.heap.size]?=some (.cells #[.string p,.string t,.slice none 0 0] 203):=heap_alloc_last W _
 have hfb:∀ i,i<s.files.length→(if i=s.files.length then W.heap.size else L.fb i)=L.fb i:=fun i hi=>if_neg (by omega)
 have hlp:∀ i,i<s.files.length→(if i=s.files.length then ((none:Option Addr),0) else L.lp i)=L.lp i:=fun i hi=>if_neg (by omega)
 refine ⟨{ L with fb:=fun i=>if i=s.files.length then W.heap.size else L.fb i,lp:=fun i=>if i=s.files.length then (none,0) else L.lp i },⟨hk.blk,fun j o ho=>?_,fun i f hf=>?_,h.injO,fun a b ha hb e=>?_,?_,h.up,h.low,h.scap,h.snil,h.val1,fun o ho=>?_,hk.exb,⟨h.base.1,h.base.2.1,fun i hi=>?_⟩⟩,rfl,hfb,if_pos rfl,rfl,rfl,rfl,rfl,rfl⟩
 ·have:=hk.opn j o ho
  show _=some (Obj.cells #[.pointer (some ⟨if o.file=s.files.length then W.heap.size else L.fb o.file,0,none⟩),_,_] _ _)
  rw [hfb _ (h.val2 o (List.mem_of_getElem? ho))];exact this
 ·show (W.alloc _).heap[if i=s.files.length then W.heap.size else L.fb i]?=some (.cells #[_,_,.slice (if i=s.files.length then ((none:Option Addr),0) else L.lp i).1 _ (if i=s.files.length then ((none:Option Addr),0) else L.lp i).2] _ _)
  rcases iK hf with ⟨rfl,rfl⟩ | ⟨hi,hf⟩
  ·rw [if_pos rfl,if_pos rfl];exact hnew
  ·rw [hfb i hi,hlp i hi];exact hk.fil i f hf
 ·have e:(if a=s.files.length then W.heap.size else L.fb a)=(if b=s.files.length then W.heap.size else L.fb b):=e
  have ha:a<s.files.length+1:=by simpa [Sy.iP] using ha
  have hb:b<s.files.length+1:=by simpa [Sy.iP] using hb
  by_cases ea:a=s.files.length
  ·by_cases eb:b=s.files.length
   ·omega
   ·rw [if_pos ea,if_neg eb] at e;have:=h.flt (i:=b) (by omega);omega
  ·by_cases eb:b=s.files.length
   ·rw [if_neg ea,if_pos eb] at e;have:=h.flt (i:=a) (by omega);omega
   ·rw [if_neg ea,if_neg eb] at e;exact h.injF a b (by omega) (by omega) e
 ·intro Y hY
  have hZ:Keep (Sp S s L) W Y:=⟨Nat.le_trans (by simp) hY.size,fun b hb hn=>(hY.block b (by simp;omega) (fun hs=>hn (by
   rcases hs with (rfl | hx) | ⟨j,hj,rfl⟩ | ⟨i,hi,rfl⟩
   ·exact .inl (.inl rfl)
   ·exact .inl (.inr hx)
   ·exact .inr (.inl ⟨j,hj,rfl⟩)
   ·have hi:i<s.files.length+1:=by simpa [Sy.iP] using hi
    have hb:(if i=s.files.length then W.heap.size else L.fb i)<W.heap.size:=hb
    by_cases ei:i=s.files.length
    ·rw [if_pos ei] at hb;omega
    ·exact .inr (.inr ⟨i,by omega,if_neg ei⟩)))).trans (hB.block b hb)⟩
  have hd:=h.data Y hZ
  refine ⟨hd.un,hd.seen,fun i f hf=>?_⟩
  show LK.Lies Y (if i=s.files.length then ((none:Option Addr),0) else L.lp i).1 f.locks∧f.locks.length≤(if i=s.files.length then ((none:Option Addr),0) else L.lp i).2∧((if i=s.files.length then ((none:Option Addr),0) else L.lp i).1=none→(if i=s.files.length then ((none:Option Addr),0) else L.lp i).2=0)
  rcases iK hf with ⟨rfl,rfl⟩ | ⟨hi,hf⟩
  ·rw [if_pos rfl];exact ⟨.inl rfl,Nat.le_refl _,fun _=>rfl⟩
  ·rw [hlp i hi];exact hd.locks i f hf
 ·have:=h.val2 o ho
  simp [Sy.iP];omega
 ·show base≤(if i=s.files.length then W.heap.size else L.fb i)
  have hi:i<s.files.length+1:=by simpa [Sy.iP] using hi
  by_cases ei:i=s.files.length
  ·rw [if_pos ei];exact Nat.le_trans h.base.1 (Nat.le_of_lt h.lt)
  ·rw [if_neg ei];exact h.base.2.2 i (by omega)
end
namespace PM
def Sy.pathOf (s:Sy) (i:Nat):ByteArray:=((s.files[i]?).map (·.path)).getD ⟨#[]⟩
def Sy.pG (s:Sy) (p:ByteArray):Option Nat:=s.reach.find? fun i=>decide ((s.pathOf i).data.toList=p.data.toList)
def Sy.fileAt (s:Sy) (p:ByteArray):Sy × Nat:=match s.pG p with
 | some i=>(s,i)
 | none=>(s.iP ⟨p,⟨#[]⟩,[]⟩,s.files.length)
end PM
theorem wD {α:Type} {P:α→Bool} {l:List α} {k:Nat} {x:α} (hk:l[k]?=some x) (hx:P x=true) (h:∀ y∈l.take k,P y=false):l.find? P=some x:=by
 induction l generalizing k with
 | nil=>simp at hk
 | cons a r ih =>
  cases k with
  | zero=>simp at hk;subst hk;simp [hx]
  | succ k =>
   have ha:P a=false:=h a (by simp)
   rw [List.find?_cons,ha]
   exact ih (by simpa using hk) (fun y hy=>h y (by simp [hy]))
theorem Gc {α:Type} {P:α→Bool} {l:List α} {k:Nat} (hk:l.length≤k) (h:∀ y∈l.take k,P y=false):l.find? P=none:=by
 rw [List.take_of_length_le hk] at h
 rw [List.find?_eq_none]
 intro y hy;simp [h y hy]
namespace PM
def Sy.dF (s:Sy) (g:Fl→Fl) (l:List Nat):Sy:={ s with files:=s.files.mapIdx fun i f=>if i∈l then g f else f }
theorem xL (s:Sy) (g:Fl→Fl):s.dF g []=s:=by
 unfold Sy.dF
 have:(s.files.mapIdx fun i f=>if i∈([]:List Nat) then g f else f)=s.files:=by
  apply List.ext_getElem?
  intro k
  simp
 rw [this]
theorem zS {s:Sy} {g:Fl→Fl} {l:List Nat} {i:Nat} {f:Fl} (hf:s.files[i]?=some f) (hn:¬ i∈l):(s.dF g l).files[i]?=some f:=by
 simp [Sy.dF,hf,hn]
theorem wo {s:Sy} {g:Fl→Fl} {l:List Nat} {i:Nat} {f:Fl} (hf:s.files[i]?=some f) (hn:¬ i∈l):s.dF g (l++[i])=(s.dF g l).setF i (g f):=by
 unfold Sy.dF Sy.setF
 have:(s.files.mapIdx fun k f=>if k∈l++[i] then g f else f)=(s.files.mapIdx fun k f=>if k∈l then g f else f).set i (g f):=by
  apply List.ext_getElem?
  intro k
  rw [List.getElem?_set,List.getElem?_mapIdx,List.getElem?_mapIdx]
  by_cases e:i=k
  ·subst e
   have hl:=(List.getElem?_eq_some_iff.1 hf).1
   rw [if_pos rfl,if_pos (by simpa using hl),hf]
   simp
  ·rw [if_neg e]
   cases s.files[k]? with
   | none=>rfl
   | some x =>
    have e':¬ k=i:=fun h=>e h.symm
    simp [List.mem_append,e']
 rw [this]
theorem vZ {s:Sy} {g:Fl→Fl} {l:List Nat} {i:Nat} {f:Fl} (hf:s.files[i]?=some f) (hg:g f=f):s.dF g (l++[i])=s.dF g l:=by
 unfold Sy.dF
 have:(s.files.mapIdx fun k f=>if k∈l++[i] then g f else f)=(s.files.mapIdx fun k f=>if k∈l then g f else f):=by
  apply List.ext_getElem?
  intro k
  rw [List.getElem?_mapIdx,List.getElem?_mapIdx]
  by_cases e:k=i
  ·subst e
   rw [hf]
   by_cases hk:k∈l
   ·simp [hk]
   ·simp [hk,hg]
  ·cases s.files[k]? with
   | none=>rfl
   | some x=>simp [List.mem_append,e]
 rw [this]
theorem rP {l:List Nat} (h:l.Nodup) {k i:Nat} (hi:l[k]?=some i):¬ i∈l.take k:=by
 intro hm
 obtain ⟨j,hj,hji⟩:=List.mem_iff_getElem.1 hm
 rw [List.getElem_take] at hji
 obtain ⟨hk,hki⟩:=List.getElem?_eq_some_iff.1 hi
 have hj':j<k:=by simp at hj;omega
 exact (List.pairwise_iff_getElem.1 h) j k (by omega) hk hj' (hji.trans hki.symm)
theorem DC {l d:List UInt8} (h:under l d=true):d.length≤l.length:=by
 by_cases hd:d=[]
 ·rw [hd];simp
 ·obtain ⟨r,hr⟩:=(aS l d hd).1 h
  rw [hr];simp
def Sy.relF (s:Sy) (q:ByteArray) (f:Fl):Fl:=if f.path.data.toList=q.data.toList then ⟨⟨#[]⟩,s.textOf f,f.locks⟩ else f
def carF (frm dst:ByteArray) (f:Fl):Fl:=if f.path.data.toList=frm.data.toList∨under f.path.data.toList frm.data.toList=true then ⟨dst++f.path.extract frm.size f.path.size,f.text,f.locks⟩ else f
def Sy.release (s:Sy) (q:ByteArray):Sy:=s.dF (s.relF q) s.reach
def Sy.carry (s:Sy) (frm dst:ByteArray):Sy:=s.dF (carF frm dst) s.reach
end PM
section
variable {base:Nat} {W X:World} {S:Nat} {s:Sy} {L:Lay6}
theorem aj.Ci (h:aj base W S s L) {i:Nat} {f f':Fl} (hf:s.files[i]?=some f) (hloc:f'.locks=f.locks) (hk:Keep (·=L.fb i) W X) (hb:X.heap[L.fb i]?=some (.cells #[.string f'.path,.string f'.text,.slice (L.lp i).1 f'.locks.length (L.lp i).2] 203 (0,0))):aj base X S (s.setF i f') L:=by
 have hi:=(List.getElem?_eq_some_iff.1 hf).1
 have hks:Keep (Sp S s L) W X:=⟨hk.size,fun b hb hn=>hk.block b hb (fun e=>hn (.inr (.inr ⟨i,hi,e⟩)))⟩
 have hd:=h.data.now.locks i f hf
 have:=h.file hf (L.lp i) hk hb (fun Y hY=>by rw [hloc];exact ((h.data Y (hks.trans hY)).locks i f hf).1) (by rw [hloc];exact hd.2.1) hd.2.2
 have e:({ L with lp:=fun k=>if k=i then L.lp i else L.lp k }:Lay6)=L:=by
  have:(fun k=>if k=i then L.lp i else L.lp k)=L.lp:=by
   funext k
   by_cases hk:k=i
   ·rw [if_pos hk,hk]
   ·rw [if_neg hk]
  rw [this]
 rw [e] at this
 exact this
theorem jd.st {sp:Nat→Prop} {w W:World} {p:Option Addr} {bs:List Nat} (h:jd w p bs) (hn:∀ b off s,p=some ⟨b,off,s⟩→¬ sp b) (hk:Keep sp w W):jd W p bs:=by
 rcases h with h | ⟨b,off,hp,hb,hc⟩
 ·exact .inl h
 ·exact .inr ⟨b,off,hp,Nat.lt_of_lt_of_le hb hk.size,fun j x hx=>(bR (hk.block b hb (hn b off none hp)) _).trans (hc j x hx)⟩
end
theorem iw {W:World} {b:Nat} {x y z:Value} {t:TypeId} (h:W.heap[b]?=some (.cells #[x,y,z] t (0,0))) (v:Value):(W.setCell ⟨b,1,none⟩ v).heap[b]?=some (.cells #[x,v,z] t (0,0))∧(W.setCell ⟨b,0,none⟩ v).heap[b]?=some (.cells #[v,y,z] t (0,0))∧(W.setCell ⟨b,2,none⟩ v).heap[b]?=some (.cells #[x,y,v] t (0,0)):=by
 refine ⟨?_,?_,?_⟩ <;> (rw [aH h];rfl)
def Fb (s:Sy) (L:Lay6) (b:Nat):Prop:=∃ i,i<s.files.length∧b=L.fb i
theorem Keep.weak {sp sp':Nat→Prop} {W X:World} (h:Keep sp W X) (hs:∀ b,sp b→sp' b):Keep sp' W X:=⟨h.size,fun b hb hn=>h.block b hb (fun e=>hn (hs b e))⟩
def yj (base S:Nat) (s s':Sy) (L:Lay6) (W:World) (r:Ending) (W':World):Prop:=r=.returned (.tuple #[])∧aj base W' S s' L∧Below base W W'∧Keep (Fb s L) W W'
structure mg (base S:Nat) (s:Sy) (g:Fl→Fl) (L:Lay6) (W w1:World) (k:Nat) (wr:World):Prop where
 at':aj base wr S (s.dF g (s.reach.take k)) L
 keep:Keep (Fb s L) w1 wr
 below:Below base W wr
set_option maxHeartbeats 1000000 in
theorem tZ {base:Nat} {W:World} {S:Nat} {s:Sy} {L:Lay6} (h:aj base W S s L) (q:ByteArray) (hsz:∀ i∈s.reach,∀ f,s.files[i]?=some f→f.path.size≤80) :
  Calls Tryz.prog 130 #[.pointer (some ⟨S,0,none⟩),.string q] W (yj base S s (s.release q) L W):=by
 have hfl:=nZ h
 have HS:Aside (aj base W S s L):=h
 have HZ:Aside (∀ i∈s.reach,∀ f,s.files[i]?=some f→f.path.size≤80):=hsz
 have hn32:s.reach.length≤32:=mQ s 32
 obtain ⟨n,hn⟩:∃ n,n=s.reach.length:=⟨_,rfl⟩
 have HN:Aside (n=s.reach.length):=hn
 rw [← hn] at hn32
 clear h hn hsz
 go_enter Tryz.func130,Tryz.ntmps130
 go_wp2_with (go_at_call 41;refine hfl.mono ?_;clear hfl;rintro e w1 ⟨⟨v,rfl,hP⟩,hB⟩;obtain ⟨p,c,rfl,hLP,_,_,hfar⟩:=hP.form;have HLP:Aside (jd w1 p (bsTo s L 32)∧Below W.heap.size W w1∧∀ b off s,p=some ⟨b,off,s⟩→W.heap.size≤b):=⟨hLP,hB,hfar⟩;rw [show (bsTo s L 32).length=n from by rw [HN.out];simp [bsTo,Sy.reach]];clear hP hLP hB hfar)
 have H0:Aside (mg base S s (s.relF q) L W w1 0 w1):=⟨by rw [List.take_zero,xL];exact HS.out.kept HLP.out.2.1,Keep.refl _ _,HLP.out.2.1.mono (Nat.le_trans HS.out.base.1 (Nat.le_of_lt HS.out.lt))⟩
 go_loopg [9] n (fun gg s9 wr=>∃ k:Nat,k≤n∧n-k≤gg∧s9=.int .i64 k∧Aside (mg base S s (s.relF q) L W w1 k wr))
 case atStart=>exact ⟨0,Nat.zero_le _,by omega,rfl,H0.out⟩
 case round =>
  obtain ⟨k,hk,hgg,rfl,HI⟩:=hrel
  by_cases hlt:k<n
  ·have hltz:(k:Int)<(n:Int):=by omega
   obtain ⟨i,hi⟩:∃ i,s.reach[k]?=some i:=⟨_,List.getElem?_eq_getElem (by have:=HN.out;omega)⟩
   have him:=List.mem_of_getElem? hi
   have hil:=HS.out.nM 32 i him
   obtain ⟨f,hf⟩:∃ f,s.files[i]?=some f:=⟨_,List.getElem?_eq_getElem hil⟩
   have hbk:(bsTo s L 32)[k]?=some (L.fb i):=by show (s.reach.map L.fb)[k]?=_;rw [List.getElem?_map,hi];rfl
   have hni:¬ i∈s.reach.take k:=rP (oM s 32) hi
   have hfk:=zS (g:=s.relF q) hf hni
   have hLP:=jd.st HLP.out.1 (fun b off s' e hsp=>by have h1:=HLP.out.2.2 b off s' e;have h2:=(HS.out.cK (.inr (.inr hsp))).2;omega) HI.out.keep
   rcases hLP with h0 | ⟨b,off,rfl,hb,hc⟩
   ·rw [h0] at hbk;simp at hbk
   have c0:wr.cell? ⟨b,off+k,none⟩=some (.pointer (some ⟨L.fb i,0,none⟩)):=hc k _ hbk
   obtain ⟨⟨c1,c2,_⟩,g1,g2,_⟩:=HI.out.at'.kT hfk
   have htx:Calls Tryz.prog 181 #[.pointer (some ⟨S,0,none⟩),.pointer (some ⟨L.fb i,0,none⟩)] wr fun r w'=>r=.returned (.string (s.textOf f))∧Below wr.heap.size wr w':=nR HI.out.at' hfk (HZ.out i him f hf) wr (Below.refl _ _)
   have hfl:=HI.out.at'.flt (i:=i) (List.getElem?_eq_some_iff.1 hfk).1
   obtain ⟨tx,htx'⟩:∃ tx,tx=s.textOf f:=⟨_,rfl⟩
   rw [← htx'] at htx
   have HTX:Aside (tx=s.textOf f∧s.files[i]?=some f∧(s.dF (s.relF q) (s.reach.take k)).files[i]?=some f∧s.reach.take (k+1)=s.reach.take k++[i]∧¬ i∈s.reach.take k):=⟨htx',hf,hfk,by rw [List.take_add_one,hi];rfl,hni⟩
   clear hc hbk hi hf hfk hni htx'
   by_cases heq:f.path.data.toList=q.data.toList
   ·have q1:(f.path.toList == q.toList)=true:=by rw [Lib.toList_data,Lib.toList_data,heq];simp
    go_wp2_with (go_at_call 181;refine htx.mono ?_;clear htx;rintro e w2 ⟨rfl,hB2⟩;have d0:=(hB2.cell (p:=⟨L.fb i,0,none⟩) hfl).trans c1;have d1:=(hB2.cell (p:=⟨L.fb i,1,none⟩) hfl).trans c2;have e0:=(hB2.frozen (p:=⟨L.fb i,0,none⟩) hfl).trans g1;have e1:=(hB2.frozen (p:=⟨L.fb i,1,none⟩) hfl).trans g2)
    have HJ:Aside (mg base S s (s.relF q) L W w1 (k+1) ((w2.setCell ⟨L.fb i,1,none⟩ (.string tx)).setCell ⟨L.fb i,0,none⟩ (.string ⟨#[]⟩))):=by
     obtain ⟨x1,x2,x3,x4,x5⟩:=HTX.out
     have hsp:Fb s L (L.fb i):=⟨i,(List.getElem?_eq_some_iff.1 x2).1,rfl⟩
     have hat:=HI.out.at'.kept hB2
     have hb:=(iw (iw (hat.fil i f x3) (.string tx)).1 (.string ⟨#[]⟩)).2.1
     refine ⟨?_,((HI.out.keep.trans (Keep.of_below _ hB2)).trans (Keep.set hsp _ 1 _)).trans (Keep.set hsp _ 0 _),?_⟩
     ·rw [x4,wo x2 x5]
      have hr:s.relF q f=⟨⟨#[]⟩,tx,f.locks⟩:=by rw [Sy.relF,if_pos heq,x1]
      rw [hr]
      exact hat.Ci x3 rfl ((Keep.set (sp:=(·=L.fb i)) rfl _ 1 _).trans (Keep.set (sp:=(·=L.fb i)) rfl _ 0 _)) hb
     ·have hbb:=(HS.out.cK (.inr (.inr hsp))).1
      have hbs:=HI.out.at'.base.1
      exact ((HI.out.below.trans (hB2.mono (Nat.le_trans hbs (Nat.le_of_lt HI.out.at'.lt)))).setCell (p:=⟨L.fb i,1,none⟩) hbb _).setCell (p:=⟨L.fb i,0,none⟩) hbb _
    go_roundg (n-(k+1))
    case measure=>omega
    case rel=>exact ⟨k+1,by omega,by omega,by go_num,HJ.out⟩
   ·have q1:(f.path.toList == q.toList)=false:=by rw [Lib.toList_data,Lib.toList_data];simpa using heq
    have HJ:Aside (mg base S s (s.relF q) L W w1 (k+1) wr):=by
     obtain ⟨x1,x2,x3,x4,x5⟩:=HTX.out
     refine ⟨?_,HI.out.keep,HI.out.below⟩
     rw [x4,vZ x2 (by rw [Sy.relF,if_neg heq])]
     exact HI.out.at'
    clear htx
    go_wp2
    go_roundg (n-(k+1))
    case measure=>omega
    case rel=>exact ⟨k+1,by omega,by omega,by go_num,HJ.out⟩
  ·have hltz:¬ (k:Int)<(n:Int):=by omega
   have HJ:Aside (aj base wr S (s.release q) L):=by
    have:=HI.out.at'
    rw [List.take_of_length_le (by have:=HN.out;omega)] at this
    exact this
   go_wp2
   refine bodyPost_end (results_none rfl _ _ _) rfl ?_
   exact ⟨rfl,HJ.out,HI.out.below,(Keep.of_below _ HLP.out.2.1).trans HI.out.keep⟩
set_option maxHeartbeats 1000000 in
theorem wQ {base:Nat} {W:World} {S:Nat} {s:Sy} {L:Lay6} (h:aj base W S s L) (frm dst:ByteArray) (hfr:frm.size≤80) (hds:dst.size≤80) (hsz:∀ i∈s.reach,∀ f,s.files[i]?=some f→f.path.size≤80) :
  Calls Tryz.prog 133 #[.pointer (some ⟨S,0,none⟩),.string frm,.string dst] W (yj base S s (s.carry frm dst) L W):=by
 have hfl:=nZ h
 have HS:Aside (aj base W S s L):=h
 have HZ:Aside (∀ i∈s.reach,∀ f,s.files[i]?=some f→f.path.size≤80):=hsz
 have hn32:s.reach.length≤32:=mQ s 32
 obtain ⟨n,hn⟩:∃ n,n=s.reach.length:=⟨_,rfl⟩
 have HN:Aside (n=s.reach.length):=hn
 rw [← hn] at hn32
 clear h hn hsz
 go_enter Tryz.func133,Tryz.ntmps133
 go_wp2_with (go_at_call 41;refine hfl.mono ?_;clear hfl;rintro e w1 ⟨⟨v,rfl,hP⟩,hB⟩;obtain ⟨p,c,rfl,hLP,_,_,hfar⟩:=hP.form;have HLP:Aside (jd w1 p (bsTo s L 32)∧Below W.heap.size W w1∧∀ b off s,p=some ⟨b,off,s⟩→W.heap.size≤b):=⟨hLP,hB,hfar⟩;rw [show (bsTo s L 32).length=n from by rw [HN.out];simp [bsTo,Sy.reach]];clear hP hLP hB hfar)
 have H0:Aside (mg base S s (carF frm dst) L W w1 0 w1):=⟨by rw [List.take_zero,xL];exact HS.out.kept HLP.out.2.1,Keep.refl _ _,HLP.out.2.1.mono (Nat.le_trans HS.out.base.1 (Nat.le_of_lt HS.out.lt))⟩
 go_loopg [11] n (fun gg s9 wr=>∃ k:Nat,k≤n∧n-k≤gg∧s9=.int .i64 k∧Aside (mg base S s (carF frm dst) L W w1 k wr))
 case atStart=>exact ⟨0,Nat.zero_le _,by omega,rfl,H0.out⟩
 case round =>
  obtain ⟨k,hk,hgg,rfl,HI⟩:=hrel
  by_cases hlt:k<n
  ·have hltz:(k:Int)<(n:Int):=by omega
   obtain ⟨i,hi⟩:∃ i,s.reach[k]?=some i:=⟨_,List.getElem?_eq_getElem (by have:=HN.out;omega)⟩
   have him:=List.mem_of_getElem? hi
   have hil:=HS.out.nM 32 i him
   obtain ⟨f,hf⟩:∃ f,s.files[i]?=some f:=⟨_,List.getElem?_eq_getElem hil⟩
   have hbk:(bsTo s L 32)[k]?=some (L.fb i):=by show (s.reach.map L.fb)[k]?=_;rw [List.getElem?_map,hi];rfl
   have hni:¬ i∈s.reach.take k:=rP (oM s 32) hi
   have hfk:=zS (g:=carF frm dst) hf hni
   have hLP:=jd.st HLP.out.1 (fun b off s' e hsp=>by have h1:=HLP.out.2.2 b off s' e;have h2:=(HS.out.cK (.inr (.inr hsp))).2;omega) HI.out.keep
   rcases hLP with h0 | ⟨b,off,rfl,hb,hc⟩
   ·rw [h0] at hbk;simp at hbk
   have c0:wr.cell? ⟨b,off+k,none⟩=some (.pointer (some ⟨L.fb i,0,none⟩)):=hc k _ hbk
   obtain ⟨⟨c1,c2,_⟩,g1,g2,_⟩:=HI.out.at'.kT hfk
   have hfl:=HI.out.at'.flt (i:=i) (List.getElem?_eq_some_iff.1 hfk).1
   have hpz:=HZ.out i him f hf
   have hun:=kR f.path frm wr (by unfold maxLen;omega) (by unfold maxLen;omega)
   have HTX:Aside (True∧s.files[i]?=some f∧(s.dF (carF frm dst) (s.reach.take k)).files[i]?=some f∧s.reach.take (k+1)=s.reach.take k++[i]∧¬ i∈s.reach.take k):=⟨trivial,hf,hfk,by rw [List.take_add_one,hi];rfl,hni⟩
   clear hc hbk hi hf hfk hni
   have HJ:Aside (carF frm dst f=⟨dst++f.path.extract frm.size f.path.size,f.text,f.locks⟩→mg base S s (carF frm dst) L W w1 (k+1) (wr.setCell ⟨L.fb i,0,none⟩ (.string (dst++f.path.extract frm.size f.path.size)))):=by
    show _→_
    intro hcar
    obtain ⟨_,x2,x3,x4,x5⟩:=HTX.out
    have hsp:Fb s L (L.fb i):=⟨i,(List.getElem?_eq_some_iff.1 x2).1,rfl⟩
    have hb:=(iw (HI.out.at'.fil i f x3) (.string (dst++f.path.extract frm.size f.path.size))).2.1
    refine ⟨?_,HI.out.keep.trans (Keep.set hsp _ 0 _),HI.out.below.setCell (p:=⟨L.fb i,0,none⟩) (HS.out.cK (.inr (.inr hsp))).1 _⟩
    rw [x4,wo x2 x5,hcar]
    exact HI.out.at'.Ci x3 rfl (Keep.set (sp:=(·=L.fb i)) rfl _ 0 _) hb
   by_cases heq:f.path.data.toList=frm.data.toList
   ·have q1:(f.path.toList == frm.toList)=true:=by rw [Lib.toList_data,Lib.toList_data,heq];simp
    have hle:frm.size≤f.path.size:=by have h1:=szl frm;have h2:=szl f.path;rw [heq] at h2;omega
    have HC:=HJ.out (by rw [carF,if_pos (.inl heq)])
    have HC:Aside (mg base S s (carF frm dst) L W w1 (k+1) (wr.setCell ⟨L.fb i,0,none⟩ (.string (dst++f.path.extract frm.size f.path.size)))):=HC
    clear hun
    go_wp2
    go_roundg (n-(k+1))
    case measure=>omega
    case rel=>exact ⟨k+1,by omega,by omega,by go_num,HC.out⟩
   ·have q1:(f.path.toList == frm.toList)=false:=by rw [Lib.toList_data,Lib.toList_data];simpa using heq
    cases hu:under f.path.data.toList frm.data.toList with
    | true =>
     rw [hu] at hun
     have hle:frm.size≤f.path.size:=by have h1:=szl frm;have h2:=szl f.path;have:=DC hu;omega
     have HC:=HJ.out (by rw [carF,if_pos (.inr hu)])
     have HC:Aside (mg base S s (carF frm dst) L W w1 (k+1) (wr.setCell ⟨L.fb i,0,none⟩ (.string (dst++f.path.extract frm.size f.path.size)))):=HC
     go_wp2_with (go_at_call 186;refine hun.mono ?_;clear hun;rintro e w2 ⟨rfl,hw2⟩;subst w2)
     go_roundg (n-(k+1))
     case measure=>omega
     case rel=>exact ⟨k+1,by omega,by omega,by go_num,HC.out⟩
    | false =>
     rw [hu] at hun
     have HC:Aside (mg base S s (carF frm dst) L W w1 (k+1) wr):=by
      obtain ⟨_,x2,x3,x4,x5⟩:=HTX.out
      refine ⟨?_,HI.out.keep,HI.out.below⟩
      rw [x4,vZ x2 (by rw [carF,if_neg (by simp [heq,hu])])]
      exact HI.out.at'
     go_wp2_with (go_at_call 186;refine hun.mono ?_;clear hun;rintro e w2 ⟨rfl,hw2⟩;subst w2)
     go_roundg (n-(k+1))
     case measure=>omega
     case rel=>exact ⟨k+1,by omega,by omega,by go_num,HC.out⟩
  ·have hltz:¬ (k:Int)<(n:Int):=by omega
   have HJ:Aside (aj base wr S (s.carry frm dst) L):=by
    have:=HI.out.at'
    rw [List.take_of_length_le (by have:=HN.out;omega)] at this
    exact this
   go_wp2
   refine bodyPost_end (results_none rfl _ _ _) rfl ?_
   exact ⟨rfl,HJ.out,HI.out.below,(Keep.of_below _ HLP.out.2.1).trans HI.out.keep⟩
def lZ (sp:Nat→Prop) (W:World) (an:An) (v:Value):Prop:=∃ (p:Option Addr) (c:Nat) (bs:List ByteArray),v=.agg #[.int .i64 an.err,.int .i64 an.n,.string an.text,.slice p bs.length c]∧bs.map (·.data.toList)=an.names∧bs.length≤c∧(p=none→c=0)∧St sp W (fun Y=>fI Y p bs)
def PM.ans (n:Int) (t:ByteArray):An:=⟨0,n,t,[]⟩
theorem iR (sp:Nat→Prop) (W:World) (n:Int) (t:ByteArray):lZ sp W (ans n t) (.agg #[.int .i64 0,.int .i64 n,.string t,.slice none 0 0]):=⟨none,0,[],rfl,rfl,Nat.le_refl _,fun _=>rfl,fun _ _=>.inl rfl⟩
def Mine (S:Nat) (s:Sy) (L:Lay6) (b:Nat):Prop:=b=S∨(∃ j,j<s.opens.length∧b=L.ob j)∨∃ i,i<s.files.length∧b=L.fb i
def dN (base S:Nat) (s:Sy) (L:Lay6) (s':Sy) (an:An) (X:World) (r:Ending) (X':World):Prop:=∃ v L',r=.returned v∧aj base X' S s' L'∧lZ (Sp S s' L') X' an v∧Below base X X'∧(∀ b,L.ex b→L'.ex b)∧Keep (Mine S s L) X X'∧∀ b,Sp S s' L' b→Sp S s L b∨X.heap.size≤b
def yE (base S:Nat) (s:Sy) (L:Lay6) (err:Int) (s':Sy) (an:An) (W:World) (r:Ending) (W':World):Prop:=∃ v,r=.returned (.tuple #[v,.int .i64 err])∧Below W.heap.size W W'∧(err=0→∃ g cap,v=.func (.func g) #[] cap∧(∀ args w,(callFunc g args).run Tryz.prog w=.ok (.enter g args) w)∧Calls Tryz.prog g cap W' (dN base S s L s' an W'))
section
variable {base:Nat} {W X:World} {S:Nat} {s:Sy} {L:Lay6}
theorem aj.aside (h:aj base W S s L) (o:Obj):aj base (W.alloc o) S s { L with ex:=fun b=>b=W.heap.size∨L.ex b }:=by
 have hB:Below W.heap.size W (W.alloc o):=((Grown.refl W).alloc _).below
 have hk:=h.kept hB
 refine ⟨hk.blk,hk.opn,hk.fil,h.injO,h.injF,fun Y hY=>?_,h.up,h.low,h.scap,h.snil,h.val1,h.val2,fun b hb=>?_,h.base⟩
 ·have hZ:Keep (Sp S s L) W Y:=⟨Nat.le_trans hB.size hY.size,fun b hb hn=>(hY.block b (Nat.lt_of_lt_of_le hb hB.size) (fun hs=>hn (by
   rcases hs with (rfl | (rfl | hx)) | hs
   ·exact .inl (.inl rfl)
   ·omega
   ·exact .inl (.inr hx)
   ·exact .inr hs))).trans (hB.block b hb)⟩
  exact ⟨(h.data Y hZ).un,(h.data Y hZ).seen,(h.data Y hZ).locks⟩
 ·rcases hb with rfl | hb
  ·exact ⟨Nat.le_trans h.base.1 (Nat.le_of_lt h.lt),by simp⟩
  ·exact hk.exb b hb
theorem aj.pY (h:aj base W S s L) {b:Nat} (hx:L.ex b) {c:Array Value} {t:TypeId} {fr:Nat × Nat} (hb:W.heap[b]?=some (.cells c t fr)) (h1:t≠83) (h2:t≠116) (h3:t≠203) (i:Nat) (v:Value):aj base (W.setCell ⟨b,i,none⟩ v) S s L:=by
 have hk:Keep (·=b) W (W.setCell ⟨b,i,none⟩ v):=Keep.set (sp:=(·=b)) rfl _ _ _
 have hks:Keep (Sp S s L) W (W.setCell ⟨b,i,none⟩ v):=Keep.set (.inl (.inr hx)) _ _ _
 refine ⟨?_,fun j o ho=>?_,fun k f hf=>?_,h.injO,h.injF,h.data.on hks,h.up,h.low,h.scap,h.snil,h.val1,h.val2,fun b hb=>⟨(h.exb b hb).1,Nat.lt_of_lt_of_le (h.exb b hb).2 hk.size⟩,h.base⟩
 ·obtain ⟨arr,ha,r⟩:=h.blk
  exact ⟨arr,(hk.block S h.lt (fun e=>by rw [e,hb] at ha;injection ha with ha;injection ha with _ ha _;exact h1 ha)).trans ha,r⟩
 ·have ha:=h.opn j o ho
  exact (hk.block _ (h.olt (List.getElem?_eq_some_iff.1 ho).1) (fun e=>by rw [e,hb] at ha;injection ha with ha;injection ha with _ ha _;exact h2 ha)).trans ha
 ·have ha:=h.fil k f hf
  exact (hk.block _ (h.flt (List.getElem?_eq_some_iff.1 hf).1) (fun e=>by rw [e,hb] at ha;injection ha with ha;injection ha with _ ha _;exact h3 ha)).trans ha
end
theorem bK {W:World} {B:Nat} {a b c d:Value} {t:TypeId} (h:W.heap[B]?=some (.cells #[a,b,c,d] t (0,0))):(W.cell? ⟨B,0,none⟩=some a∧W.cell? ⟨B,1,none⟩=some b∧W.cell? ⟨B,2,none⟩=some c∧W.cell? ⟨B,3,none⟩=some d)∧W.frozen? ⟨B,0,none⟩=false∧W.frozen? ⟨B,1,none⟩=false∧W.frozen? ⟨B,2,none⟩=false∧W.frozen? ⟨B,3,none⟩=false:=by
 refine ⟨⟨?_,?_,?_,?_⟩,?_,?_,?_,?_⟩ <;> simp [World.cell?,World.frozen?,h]
theorem aj.answer {base:Nat} {W:World} {S:Nat} {s:Sy} {L:Lay6} (h:aj base W S s L) {B:Nat} (hx:L.ex B) {a b c d:Value} (hb:W.heap[B]?=some (.cells #[a,b,c,d] 38 (0,0))) (a' b' c' d':Value):aj base ((((W.setCell ⟨B,0,none⟩ a').setCell ⟨B,1,none⟩ b').setCell ⟨B,2,none⟩ c').setCell ⟨B,3,none⟩ d') S s L∧Below base W ((((W.setCell ⟨B,0,none⟩ a').setCell ⟨B,1,none⟩ b').setCell ⟨B,2,none⟩ c').setCell ⟨B,3,none⟩ d'):=by
 have k1:=aH hb 0 a'
 have k2:=aH k1 1 b'
 have k3:=aH k2 2 c'
 have hB:=(h.exb B hx).1
 refine ⟨((((h.pY hx hb (by decide) (by decide) (by decide) 0 a').pY hx k1 (by decide) (by decide) (by decide) 1 b').pY hx k2 (by decide) (by decide) (by decide) 2 c').pY hx k3 (by decide) (by decide) (by decide) 3 d'),?_⟩
 exact ((((Below.refl _ _).setCell (p:=⟨B,0,none⟩) hB _).setCell (p:=⟨B,1,none⟩) hB _).setCell (p:=⟨B,2,none⟩) hB _).setCell (p:=⟨B,3,none⟩) hB _
structure pW (L L':Lay6) (n:Nat):Prop where
 ob:L'.ob=L.ob
 fb:L'.fb=L.fb
 ex:∀ b,L'.ex b↔b=n∨L.ex b
def dD (s s':Sy):Prop:=s'.opens.length=s.opens.length∧s'.files.length=s.files.length
theorem dD.trans {s s' s'':Sy} (h:dD s s') (g:dD s' s''):dD s s'':=⟨g.1.trans h.1,g.2.trans h.2⟩
theorem pW.sp {S:Nat} {s s':Sy} {L L':Lay6} {n:Nat} (h:pW L L' n) (hn:dD s s') (b:Nat) (hb:Sp S s' L' b):Sp S s L b∨n≤b:=by
 rcases hb with (e | hx) | ⟨j,hj,e⟩ | ⟨i,hi,e⟩
 ·exact .inl (.inl (.inl e))
 ·rcases (h.ex b).1 hx with e | hx
  ·exact .inr (Nat.le_of_eq e.symm)
  ·exact .inl (.inl (.inr hx))
 ·rw [hn.1] at hj;rw [h.ob] at e;exact .inl (.inr (.inl ⟨j,hj,e⟩))
 ·rw [hn.2] at hi;rw [h.fb] at e;exact .inl (.inr (.inr ⟨i,hi,e⟩))
def Mid (base S:Nat) (s:Sy) (L:Lay6) (s':Sy) (L':Lay6) (X X2:World):Prop:=aj base X2 S s' L'∧pW L L' X.heap.size∧Below base X X2∧Keep (Mine S s L) X X2∧X2.heap[X.heap.size]?=some (.cells #[.int .i64 0,.int .i64 0,.string ⟨#[]⟩,.slice none 0 0] 38)
theorem Mid.fin {base S:Nat} {s:Sy} {L:Lay6} {s':Sy} {L':Lay6} {X X2:World} (q:Mid base S s L s' L' X X2) (hn:dD s s') (a b c d:Value) {an:An} (hA:∀ W,lZ (Sp S s' L') W an (.agg #[a,b,c,d])):dN base S s L s' an X (.returned (.agg #[a,b,c,d])) ((((X2.setCell ⟨X.heap.size,0,none⟩ a).setCell ⟨X.heap.size,1,none⟩ b).setCell ⟨X.heap.size,2,none⟩ c).setCell ⟨X.heap.size,3,none⟩ d):=by
 obtain ⟨q1,q2,q3,q5,q4⟩:=q
 obtain ⟨k1,k2⟩:=q1.answer ((q2.ex _).2 (.inl rfl)) q4 a b c d
 refine ⟨_,L',rfl,k1,hA _,q3.trans k2,fun b hb=>(q2.ex b).2 (.inr hb),⟨Nat.le_trans q5.size (by simp [World.setCell]),fun x hx hn=>?_⟩,fun b hb=>q2.sp hn b hb⟩
 have hne:∀ (Z:World) (i:Nat) (v:Value),(Z.setCell ⟨X.heap.size,i,none⟩ v).heap[x]?=Z.heap[x]?:=fun Z i v=>Below.heap_setCell _ _ _ _ (by show x≠X.heap.size;omega)
 rw [hne,hne,hne,hne]
 exact q5.block x hx hn
theorem Keep.mine {sp sp':Nat→Prop} {X X1 X2:World} (hB:Below X.heap.size X X1) (hk:Keep sp X1 X2) (hs:∀ b,sp b→sp' b):Keep sp' X X2:=(Keep.of_below _ hB).trans (hk.weak hs)
structure fD (W:World) (B:Nat) (y:Lay) (lo:List Lay) (pl:Option Addr) (cl:Nat):Prop where
 c0:W.cell? ⟨B,0,none⟩=some (.slice y.ad y.es.length y.cap)
 c1:W.cell? ⟨B,1,none⟩=some (.slice pl lo.length cl)
set_option maxHeartbeats 1000000 in
theorem JF {base:Nat} {X:World} {S:Nat} {s:Sy} {L:Lay6} (h:aj base X S s L) (hg:Gl base X) (B0 B1:Nat) (hb0:X.cell? ⟨B0,0,none⟩=some (.pointer (some ⟨S,0,none⟩))) (y:Lay) (lo:List Lay) (pl:Option Addr) (cl:Nat) (hb1:fD X B1 y lo pl cl) (hU:St (Sp S s L) X (fun X=>UnOK X y lo pl cl)) (h0:(ay (y.es::lo.map (·.es))).1=0) :
  Calls Tryz.prog 127 #[.pointer (some ⟨B0,0,none⟩),.pointer (some ⟨B1,0,none⟩)] X (dN base S s L (s.aJ y.es (lo.map (·.es))) (ans 0 ⟨#[]⟩) X):=by
 obtain ⟨c0,c1⟩:=hb1
 obtain ⟨X1,hX1⟩:∃ X1,X.alloc (.cells #[.int .i64 0,.int .i64 0,.string ⟨#[]⟩,.slice none 0 0] 38)=X1:=⟨_,rfl⟩
 have hB1:Below X.heap.size X X1:=by rw [← hX1];exact ((Grown.refl X).alloc _).below
 have h1:=h.aside (.cells #[.int .i64 0,.int .i64 0,.string ⟨#[]⟩,.slice none 0 0] 38)
 rw [hX1] at h1
 have hbb:Below base X X1:=hB1.mono (Nat.le_trans h.base.1 (Nat.le_of_lt h.lt))
 have hst:=jV h1 (hg.kept hbb) y lo pl cl (fun Y hY=>hU Y ⟨Nat.le_trans hB1.size hY.size,fun b hb hn=>(hY.block b (Nat.lt_of_lt_of_le hb hB1.size) (fun hs=>hn (by
   rcases hs with (rfl | (rfl | hx)) | hs
   ·exact .inl (.inl rfl)
   ·omega
   ·exact .inl (.inr hx)
   ·exact .inr hs))).trans (hB1.block b hb)⟩) h0
 have HX:Aside (X1.heap[X.heap.size]?=some (.cells #[.int .i64 0,.int .i64 0,.string ⟨#[]⟩,.slice none 0 0] 38)∧Below base X X1∧S<X.heap.size∧base≤X.heap.size):=⟨by rw [← hX1];exact heap_alloc_last X _,hbb,h.lt,Nat.le_trans h.base.1 (Nat.le_of_lt h.lt)⟩
 have HKX:Aside (Below X.heap.size X X1):=hB1
 rw [← hX1] at hst
 have HE:Aside (X.alloc (.cells #[.int .i64 0,.int .i64 0,.string ⟨#[]⟩,.slice none 0 0] 38)=X1):=hX1
 clear h hg hU h0 hB1 hbb h1 hX1
 have n0:¬ B0=X.heap.size:=fun e=>World.new_ne X ⟨B0,0,none⟩ hb0 e.symm
 have n1:¬ B1=X.heap.size:=fun e=>World.new_ne X ⟨B1,0,none⟩ c0 e.symm
 generalize y.es.length=yn at c0 hst
 generalize lo.length=ln at c1 hst
 have a0:=Lib.cell?_alloc_some (.cells #[.int .i64 0,.int .i64 0,.string ⟨#[]⟩,.slice none 0 0] 38) hb0
 have a1:=Lib.cell?_alloc_some (.cells #[.int .i64 0,.int .i64 0,.string ⟨#[]⟩,.slice none 0 0] 38) c0
 have a2:=Lib.cell?_alloc_some (.cells #[.int .i64 0,.int .i64 0,.string ⟨#[]⟩,.slice none 0 0] 38) c1
 clear hb0 c0 c1
 go_enter Tryz.func127,Tryz.ntmps127
 go_wp2_with (go_at_call 124;refine hst.mono ?_;clear hst;rintro r w2 ⟨rfl,hS2⟩;rw [HE.out] at hS2;obtain ⟨L2,hA2,ho2,hf2,hx2,hb2,hk2⟩:=hS2;have hbk:w2.heap[X.heap.size]?=some (.cells #[.int .i64 0,.int .i64 0,.string ⟨#[]⟩,.slice none 0 0] 38):=(hk2.block _ (Array.getElem?_eq_some_iff.1 HX.out.1).1 (fun e=>by have:=HX.out.2.2.1;omega)).trans HX.out.1;have H2:Aside (Mid base S s L (s.aJ y.es (lo.map (·.es))) L2 X w2):=⟨hA2,⟨ho2,hf2,fun b=>(by rw [hx2])⟩,HX.out.2.1.trans hb2,Keep.mine HKX.out hk2 (fun b hb=>.inl hb),hbk⟩;obtain ⟨⟨d0,d1,d2,d3⟩,z0,z1,z2,z3⟩:=bK hbk;clear hA2 hx2 hb2 hk2 hbk)
 refine bodyPost_ret (v:=.agg #[.int .i64 0,.int .i64 0,.string ⟨#[]⟩,.slice none 0 0]) (by simp [results,Tryz.results127,go_sem,d0,d1,d2,d3]) rfl ?_
 exact H2.out.fin ⟨rfl,rfl⟩ _ _ _ _ (fun W=>iR _ _ _ _)
end Go.Proofs.YthfeoiffoeagkaaGreatDoor
