/-
  What calls find, as it lies in memory.
-/
import Derived.Test.YthfeoiffoeagkaaGreatDoorZA15
import Derived.Test.YthfeoiffoeagkaaGreatDoorZA17
import Derived.Test.YthfeoiffoeagkaaGreatDoorZA20
import Derived.Test.YthfeoiffoeagkaaGreatDoorZA21
import Derived.Deep.MidRow
import Derived.Deep.WholeRow
import Derived.LaidEqlPtr
namespace Go.Proofs.YthfeoiffoeagkaaGreatDoor
open Go.RowKit PM Go.Sort
set_option linter.unusedVariables false
structure Keep (sp:Nat→Prop) (W W':World):Prop where
 size:W.heap.size≤W'.heap.size
 block:∀ b,b<W.heap.size→¬ sp b→W'.heap[b]?=W.heap[b]?
theorem Keep.refl (sp:Nat→Prop) (W:World):Keep sp W W:=⟨Nat.le_refl _,fun _ _ _=>rfl⟩
theorem Keep.trans {sp:Nat→Prop} {A B C:World} (h:Keep sp A B) (g:Keep sp B C):Keep sp A C :=
 ⟨Nat.le_trans h.size g.size,fun b hb hn=>(g.block b (Nat.lt_of_lt_of_le hb h.size) hn).trans (h.block b hb hn)⟩
theorem Keep.of_below (sp:Nat→Prop) {A B:World} (h:Below A.heap.size A B):Keep sp A B:=⟨h.size,fun b hb _=>h.block b hb⟩
theorem Keep.set {sp:Nat→Prop} {P:Nat} (h:sp P) (W:World) (i:Nat) (v:Value):Keep sp W (W.setCell ⟨P,i,none⟩ v) :=
 ⟨by simp [World.setCell],fun b hb hn=>Below.heap_setCell _ _ _ _ (fun e=>hn (by rw [e];exact h))⟩
def St (sp:Nat→Prop) (W:World) (F:World→Prop):Prop:=∀ W',Keep sp W W'→F W'
theorem St.now {sp:Nat→Prop} {W:World} {F:World→Prop} (h:St sp W F):F W:=h W (Keep.refl _ _)
theorem St.on {sp:Nat→Prop} {W W':World} {F:World→Prop} (h:St sp W F) (k:Keep sp W W'):St sp W' F:=fun X hX=>h X (k.trans hX)
theorem St.more {sp sp':Nat→Prop} {W:World} {F:World→Prop} (h:St sp W F) (hs:∀ b,b<W.heap.size→sp' b→sp b):St sp' W F:=fun X hX =>
 h X ⟨hX.size,fun b hb hn=>hX.block b hb (fun h'=>hn (hs b hb h'))⟩
theorem St.and {sp:Nat→Prop} {W:World} {F G:World→Prop} (h:St sp W F) (g:St sp W G):St sp W (fun X=>F X∧G X):=fun X hX=>⟨h X hX,g X hX⟩
structure Lay6 where
 y:Lay
 lo:List Lay
 pl:Option Addr
 cl:Nat
 ps:Option Addr
 sc:Nat
 lp:Nat→Option Addr × Nat
 ob:Nat→Nat
 fb:Nat→Nat
 ex:Nat→Prop
def Sp (S:Nat) (s:Sy) (L:Lay6) (b:Nat):Prop:=(b=S∨L.ex b)∨(∃ j,j<s.opens.length∧b=L.ob j)∨∃ i,i<s.files.length∧b=L.fb i
structure Jb (s:Sy) (L:Lay6) (W:World):Prop where
 un:UnOK W L.y L.lo L.pl L.cl
 seen:Lies W L.ps s.seen
 locks:∀ i f,s.files[i]?=some f→LK.Lies W (L.lp i).1 f.locks∧f.locks.length≤(L.lp i).2∧((L.lp i).1=none→(L.lp i).2=0)
structure aj (base:Nat) (W:World) (S:Nat) (s:Sy) (L:Lay6):Prop where
 blk:∃ arr:Array Value,W.heap[S]?=some (.cells arr 83 (0,0))∧arr.size=35∧arr[0]?=some (.slice L.y.ad L.y.es.length L.y.cap)∧arr[1]?=some (.slice L.pl L.lo.length L.cl)∧arr[2]?=some (.slice L.ps s.seen.length L.sc)∧∀ k,k<32→arr[3+k]?=some (.pointer ((s.fds k).map fun j=>⟨L.ob j,0,none⟩))
 opn:∀ j o,s.opens[j]?=some o→W.heap[L.ob j]?=some (.cells #[.pointer (some ⟨L.fb o.file,0,none⟩),.int .i64 o.use,.int .i64 o.pos] 116 (0,0))
 fil:∀ i f,s.files[i]?=some f→W.heap[L.fb i]?=some (.cells #[.string f.path,.string f.text,.slice (L.lp i).1 f.locks.length (L.lp i).2] 203 (0,0))
 injO:∀ j j',j<s.opens.length→j'<s.opens.length→L.ob j=L.ob j'→j=j'
 injF:∀ i i',i<s.files.length→i'<s.files.length→L.fb i=L.fb i'→i=i'
 data:St (Sp S s L) W (Jb s L)
 up:L.y.es=s.up
 low:L.lo.map (·.es)=s.lows
 scap:s.seen.length≤L.sc
 snil:L.ps=none→L.sc=0
 val1:∀ k j,s.fds k=some j→j<s.opens.length
 val2:∀ o∈s.opens,o.file<s.files.length
 exb:∀ b,L.ex b→base≤b∧b<W.heap.size
 base:base≤S∧(∀ j,j<s.opens.length→base≤L.ob j)∧∀ i,i<s.files.length→base≤L.fb i
section
variable {base:Nat} {W W':World} {S:Nat} {s:Sy} {L:Lay6}
theorem aj.lt (h:aj base W S s L):S<W.heap.size:=by
 obtain ⟨arr,hb,_⟩:=h.blk
 exact (Array.getElem?_eq_some_iff.1 hb).1
theorem aj.olt (h:aj base W S s L) {j:Nat} (hj:j<s.opens.length):L.ob j<W.heap.size :=
 (Array.getElem?_eq_some_iff.1 (h.opn j _ (List.getElem?_eq_getElem hj))).1
theorem aj.flt (h:aj base W S s L) {i:Nat} (hi:i<s.files.length):L.fb i<W.heap.size :=
 (Array.getElem?_eq_some_iff.1 (h.fil i _ (List.getElem?_eq_getElem hi))).1
theorem aj.kept (h:aj base W S s L) (hB:Below W.heap.size W W'):aj base W' S s L:=by
 obtain ⟨arr,hb,h1⟩:=h.blk
 exact ⟨⟨arr,(hB.block S h.lt).trans hb,h1⟩,fun j o ho=>(hB.block _ (h.olt (List.getElem?_eq_some_iff.1 ho).1)).trans (h.opn j o ho),fun i f hf=>(hB.block _ (h.flt (List.getElem?_eq_some_iff.1 hf).1)).trans (h.fil i f hf),h.injO,h.injF,h.data.on (Keep.of_below _ hB),h.up,h.low,h.scap,h.snil,h.val1,h.val2,fun b hb=>⟨(h.exb b hb).1,Nat.lt_of_lt_of_le (h.exb b hb).2 hB.size⟩,h.base⟩
theorem aj.cells (h:aj base W S s L):W.cell? ⟨S,0,none⟩=some (.slice L.y.ad L.y.es.length L.y.cap)∧W.cell? ⟨S,1,none⟩=some (.slice L.pl L.lo.length L.cl)∧W.cell? ⟨S,2,none⟩=some (.slice L.ps s.seen.length L.sc):=by
 obtain ⟨arr,hb,_,h0,h1,h2,_⟩:=h.blk
 exact ⟨by simp [World.cell?,hb,h0],by simp [World.cell?,hb,h1],by simp [World.cell?,hb,h2]⟩
theorem aj.fd (h:aj base W S s L) {k:Nat} (hk:k<32):W.cell? ⟨S,3+k,none⟩=some (.pointer ((s.fds k).map fun j=>⟨L.ob j,0,none⟩)):=by
 obtain ⟨arr,hb,_,_,_,_,hf⟩:=h.blk
 simp [World.cell?,hb,hf k hk]
theorem aj.frz (h:aj base W S s L) (i:Nat):W.frozen? ⟨S,i,none⟩=false:=by
 obtain ⟨arr,hb,_⟩:=h.blk
 simp [World.frozen?,hb]
theorem aj.iB (h:aj base W S s L) {j:Nat} {o:Opn} (ho:s.opens[j]?=some o):(W.cell? ⟨L.ob j,0,none⟩=some (.pointer (some ⟨L.fb o.file,0,none⟩))∧W.cell? ⟨L.ob j,1,none⟩=some (.int .i64 o.use)∧W.cell? ⟨L.ob j,2,none⟩=some (.int .i64 o.pos))∧W.frozen? ⟨L.ob j,2,none⟩=false:=by
 have hb:=h.opn j o ho
 exact ⟨⟨by simp [World.cell?,hb],by simp [World.cell?,hb],by simp [World.cell?,hb]⟩,by simp [World.frozen?,hb]⟩
theorem aj.kT (h:aj base W S s L) {i:Nat} {f:Fl} (hf:s.files[i]?=some f):(W.cell? ⟨L.fb i,0,none⟩=some (.string f.path)∧W.cell? ⟨L.fb i,1,none⟩=some (.string f.text)∧W.cell? ⟨L.fb i,2,none⟩=some (.slice (L.lp i).1 f.locks.length (L.lp i).2))∧(W.frozen? ⟨L.fb i,0,none⟩=false∧W.frozen? ⟨L.fb i,1,none⟩=false∧W.frozen? ⟨L.fb i,2,none⟩=false):=by
 have hb:=h.fil i f hf
 exact ⟨⟨by simp [World.cell?,hb],by simp [World.cell?,hb],by simp [World.cell?,hb]⟩,by simp [World.frozen?,hb],by simp [World.frozen?,hb],by simp [World.frozen?,hb]⟩
end
def ptr (b:Nat):Value:=.pointer (some ⟨b,0,none⟩)
def jd (w:World) (p:Option Addr) (bs:List Nat):Prop:=bs=[]∨∃ b off,p=some ⟨b,off,none⟩∧b<w.heap.size∧∀ j x,bs[j]?=some x→w.cell? ⟨b,off+j,none⟩=some (ptr x)
theorem jd.kept {w W:World} {p:Option Addr} {bs:List Nat} (h:jd w p bs) (hB:Below w.heap.size w W):jd W p bs:=by
 rcases h with h | ⟨b,off,hp,hb,hc⟩
 ·exact .inl h
 ·exact .inr ⟨b,off,hp,Nat.lt_of_lt_of_le hb hB.size,fun j x hx=>(hB.cell (p:=⟨b,off+j,none⟩) hb).trans (hc j x hx)⟩
def PRow (w:World) (base:Nat) (v:Value) (bs:List Nat):Prop:=w.ownsRow base 114 1 v bs.length (bs.map ptr)
theorem PRow.nil (w:World) (base:Nat):PRow w base (.slice none 0 0) []:=World.ownsRow_nil _ _ _ _
theorem PRow.mono {w:World} {base base':Nat} {v:Value} {l:List Nat} (h:PRow w base v l) (hb:base'≤base):PRow w base' v l:=by
 refine ⟨h.1,h.2.imp id ?_⟩
 rintro ⟨g,cap,cur,e,hg,r⟩
 exact ⟨g,cap,cur,e,Nat.le_trans hb hg,r⟩
theorem PRow.below {w w':World} {base:Nat} {v:Value} {l:List Nat} (h:PRow w base v l) (hb:Below w.heap.size w w'):PRow w' base v l:=by
 refine ⟨h.1,h.2.imp id ?_⟩
 rintro ⟨g,cap,cur,e,hg,hh,r⟩
 have hlt:g<w.heap.size:=by
  rcases Nat.lt_or_ge g w.heap.size with h' | h'
  ·exact h'
  ·rw [Array.getElem?_eq_none h'] at hh;cases hh
 exact ⟨g,cap,cur,e,hg,by rw [hb.block g hlt];exact hh,r⟩
theorem PRow.form {w:World} {base:Nat} {v:Value} {bs:List Nat} (h:PRow w base v bs):∃ p c,v=.slice p bs.length c∧jd w p bs∧bs.length≤c∧(p=none→c=0)∧∀ b off s,p=some ⟨b,off,s⟩→base≤b:=by
 obtain ⟨h1,⟨rfl,h2⟩ | ⟨g,cap,cur,rfl,hg,hh,hnc,hm,hs,ht⟩⟩:=h
 ·have:bs=[]:=List.eq_nil_of_length_eq_zero h2
  subst this
  exact ⟨none,0,rfl,.inl rfl,Nat.le_refl _,fun _=>rfl,nofun⟩
 ·refine ⟨_,cap,rfl,.inr ⟨g,0,rfl,(Array.getElem?_eq_some_iff.1 hh).1,fun j x hx=>?_⟩,hnc,nofun,fun b off s e=>by cases e;exact hg⟩
  have hc:cur[j]?=some (ptr x):=by
   have h3:(bs.map ptr)[j]?=some (ptr x):=by rw [List.getElem?_map,hx];rfl
   rw [← ht,List.getElem?_take] at h3
   split at h3
   ·rw [← Array.getElem?_toList];exact h3
   ·cases h3
  simp [World.cell?,hh,hc]
theorem infoP:∃ i0,Tryz.prog.info? 114=some i0∧i0.zero=some (.pointer none)∧i0.size=1∧i0.bytes=8:=by
 have h:(Tryz.prog.info? 114).map (fun i=>(i.zero,i.size,i.bytes))=some (some (.pointer none),1,8):=by kernel_rfl
 cases hi:Tryz.prog.info? 114 with
 | none=>rw [hi] at h;cases h
 | some i0 =>
  rw [hi] at h
  simp only [Option.map_some,Option.some.injEq,Prod.mk.injEq] at h
  exact ⟨i0,rfl,h.1,h.2.1,h.2.2⟩
theorem BQ {ops:Array Oper} {rest:List Oper} {o:Oper} {a:Act} {Q:Exit→Act→World→Prop} (X:World) (y:Nat) (hgd:o.guard=none) (s x:Operand)
  (ho:o.op=.call { callee:=.builtin .append,args:=#[s,x],argTypes:=#[85,85] }) (base:Nat) (v:Value) (l:List Nat) (hs:a.eval s=v) (hrow:PRow X base v l) (hlen:l.length≤1000) (hbase:base≤X.heap.size)
  (H:Nat) (hH:H=X.heap.size) (hx:a.eval x=.slice (some ⟨H,0,none⟩) 1 1)
  (h:∀ v' w',PRow w' base v' (l++[y])→Below base X w'→X.heap.size≤w'.heap.size→wpList Tryz.prog ops Q rest (a.put o.dst v') w') :
  wpList Tryz.prog ops Q (o::rest) a (X.alloc (.cells #[.pointer (some ⟨y,0,none⟩)] 114)):=by
 obtain ⟨i0,hi,hz0,hz1,hz2⟩:=infoP
 refine wpList_append_own _ hgd s x 85 ho base 114 i0 _ 1 8 Tryz.underlying85 hi hz0 hz1 hz2 rfl (by decide) _ _ _ hs (World.ownsRow.alloc hrow _) _ 1 1 [ptr y] hx rfl ?_ (fun u hu=>by simp at hu;rw [hu];rfl) (by unfold maxLen;omega) (by omega) (by simp;omega) ?_
 ·intro j u hu
  subst hH
  cases j with
  | zero=>simp at hu;subst hu;rw [Addr.add_lit];simp [ptr]
  | succ j=>simp at hu
 ·intro v' w' hown hgrow _
  have hsz:X.heap.size≤w'.heap.size:=by have:=hgrow.size;simp at this;omega
  exact h v' w' (by simpa [PRow] using hown) (((Below.refl base X).alloc hbase _).grown hgrow (by simp;omega) (fun j hj=>(World.ownsRow.lt hrow j hj).1)) hsz
theorem Ib:∃ i0,Tryz.prog.info? 203=some i0∧i0.size≠0:=by
 have h:(Tryz.prog.info? 203).map (fun i=>i.size)=some 3:=by kernel_rfl
 cases hi:Tryz.prog.info? 203 with
 | none=>rw [hi] at h;cases h
 | some i0 =>
  rw [hi] at h
  simp only [Option.map_some,Option.some.injEq] at h
  exact ⟨i0,rfl,by omega⟩
theorem eqPP (w:World) (y:Nat):(binOp .eql 114 (.pointer (some ⟨y,0,none⟩)) (.pointer (some ⟨y,0,none⟩))).run Tryz.prog w=.ok (.bool true) w:=by
 obtain ⟨i0,hi,_⟩:=Ib
 exact run_eql_ptr_same w _ Tryz.underlying114 hi
set_option maxRecDepth 100000 in
theorem Cr (bs:List Nat) (y:Nat) (p:Option Addr) (cap:Nat) (w:World) (hL:jd w p bs) (hn:bs.length≤1000) (hC:∀ x,(x=y∨x∈bs)→∃ ca,w.heap[x]?=some (.cells ca 203 (0,0))) :
  Calls Tryz.prog 92 #[.slice p bs.length cap,.pointer (some ⟨y,0,none⟩)] w fun r w'=>(∃ n:Int,r=.returned (.int .i64 n)∧((0≤n∧y∈bs)∨(n = -1∧¬ y∈bs)))∧Below w.heap.size w w':=by
 have HL:Aside (jd w p bs):=hL
 obtain ⟨n,hnl⟩:∃ n,n=bs.length:=⟨_,rfl⟩
 have HN:Aside (n=bs.length):=hnl
 have HC:Aside (∀ x,(x=y∨x∈bs)→∃ ca,w.heap[x]?=some (.cells ca 203 (0,0))):=hC
 clear hC
 rw [← hnl] at hn ⊢
 clear hnl hL
 go_enter Tryz.func92,Tryz.ntmps92
 go_wp2
 go_loopg [8] n (fun gg s7 wr=>∃ k:Nat,k≤n∧n-k≤gg∧s7=.int .i64 k∧Aside (Below w.heap.size w wr)∧Aside (∀ x∈bs.take k,x≠y))
 case atStart=>exact ⟨0,Nat.zero_le _,by omega,rfl,Below.refl _ _,by intro x hx;simp at hx⟩
 case round =>
  obtain ⟨k,hk,hgg,rfl,BW,HA⟩:=hrel
  by_cases hlt:k<n
  ·have hltz:(k:Int)<(n:Int):=by omega
   obtain ⟨x,hx⟩:∃ x,bs[k]?=some x:=⟨_,List.getElem?_eq_getElem (by have:=HN.out;omega)⟩
   have HX:Aside (bs[k]?=some x):=hx
   rcases HL.out with h0 | ⟨b,off,rfl,hb,hc⟩
   ·rw [h0] at hx;simp at hx
   have c0:wr.cell? ⟨b,off+k,none⟩=some (.pointer (some ⟨x,0,none⟩)):=(BW.out.cell (p:=⟨b,off+k,none⟩) hb).trans (hc k x hx)
   clear hc hx
   have q1:∀ v:World,Below w.heap.size w v→¬ y=x→(binOp .eql 114 (.pointer (some ⟨y,0,none⟩)) (.pointer (some ⟨x,0,none⟩))).run Tryz.prog v=.ok (.bool false) v:=fun v hv hne=>by
    obtain ⟨i0,hi,hz⟩:=Ib
    obtain ⟨ca,hca⟩:=HC.out y (.inl rfl)
    obtain ⟨cb,hcb⟩:=HC.out x (.inr (List.mem_of_getElem? HX.out))
    exact run_eql_ptr_other v Tryz.underlying114 hi hz (fun e=>hne (by injection e)) ((hv.block _ (Array.getElem?_eq_some_iff.1 hca).1).trans hca) ((hv.block _ (Array.getElem?_eq_some_iff.1 hcb).1).trans hcb)
   by_cases hxy:y=x
   ·subst hxy
    have qs:=fun v:World=>eqPP v y
    clear q1
    go_wp2
    go_ret
    exact ⟨⟨_,rfl,.inl ⟨by omega,List.mem_of_getElem? HX.out⟩⟩,BW.out⟩
   ·have q2:=q1 wr BW.out hxy
    clear q1
    have HZ:Aside (∀ z∈bs.take (k+1),z≠y):=by
     show ∀ z∈bs.take (k+1),z≠y
     intro z hz
     rw [List.take_add_one] at hz
     rcases List.mem_append.1 hz with hz | hz
     ·exact HA.out z hz
     ·rw [HX.out] at hz
      simp at hz
      rw [hz]
      exact fun e=>hxy e.symm
    go_wp2
    go_roundg (n-(k+1))
    case measure=>omega
    case rel=>exact ⟨k+1,by omega,by omega,by go_num,BW.out,HZ.out⟩
  ·have hltz:¬ (k:Int)<(n:Int):=by omega
   have hkn:k=n:=by omega
   go_wp2
   go_ret
   exact ⟨⟨_,rfl,.inr ⟨rfl,fun hy=>HA.out y (by rw [hkn,HN.out,List.take_length];exact hy) rfl⟩⟩,BW.out⟩
theorem xO (bs:List Nat) (y:Nat) (p:Option Addr) (cap:Nat) (w:World) (hL:jd w p bs) (hn:bs.length≤1000) (hC:∀ x,(x=y∨x∈bs)→∃ ca,w.heap[x]?=some (.cells ca 203 (0,0))) :
  Calls Tryz.prog 59 #[.slice p bs.length cap,.pointer (some ⟨y,0,none⟩)] w fun r w'=>r=.returned (.bool (decide (y∈bs)))∧Below w.heap.size w w':=by
 obtain ⟨n,hnl⟩:∃ n,n=bs.length:=⟨_,rfl⟩
 have HI:Calls Tryz.prog 92 #[.slice p n cap,.pointer (some ⟨y,0,none⟩)] w fun r w'=>(∃ n:Int,r=.returned (.int .i64 n)∧((0≤n∧y∈bs)∨(n = -1∧¬ y∈bs)))∧Below w.heap.size w w':=by
  rw [hnl];exact Cr bs y p cap w hL hn hC
 rw [← hnl] at hn ⊢
 clear hL hC hnl
 go_enter Tryz.func59,Tryz.ntmps59
 go_wp2_with (go_at_call 92;refine HI.mono ?_;clear HI;rintro e w1 ⟨⟨i,rfl,hi⟩,hB⟩)
 have HB:Aside (Below w.heap.size w w1):=hB
 go_ret
 refine ⟨?_,HB.out⟩
 rcases hi with ⟨h0,h1⟩ | ⟨h0,h1⟩
 ·simp [h0,h1]
 ·simp [h0,h1]
theorem rY {P:Program} {t:TypeId} {d:TypeDesc} (w:World) (h:P.underlying t=some d):(isAgg t).run P w=.ok d.isRow w:=by
 unfold isAgg
 rw [Sem.run_bind,run_underlying h w]
 cases d <;> simp [TypeDesc.isRow]
theorem qM {P:Program} {t:TypeId} {n:Nat} (w:World) (h:(P.info? t).map (·.size)=some n):(sizeOf t).run P w=.ok n w:=by
 cases hq:P.info? t with
 | none=>simp [hq] at h
 | some i =>
  have hs:i.size=n:=by simpa [hq] using h
  simp [sizeOf,typeInfo,hq,hs]
theorem rZ:(Tryz.prog.info? 80).map (·.size)=some 8:=by kernel_rfl
theorem Dp:(Tryz.prog.info? 81).map (·.size)=some 32:=by kernel_rfl
theorem I6:(Tryz.prog.info? 78).map (·.size)=some 1:=by kernel_rfl
theorem vX (cs:Array Value) (o:Nat) (ho:o<4) (hs:cs.size=32) (w:World):(Instr.index 81 (.agg cs) (.int .i64 o)).run Tryz.prog w=.ok (.agg (cs.extract (o*8) (o*8+8))) w:=by
 have h1:(0:Int)≤(o:Int)∧(o:Int)<((4:Nat):Int):=by omega
 have h2:=rY w Tryz.underlying80
 have h3:=qM w rZ
 simp [Instr.index,run_underlying Tryz.underlying81,asIntOf,go_sem,h1,h3,part]
 intro h;omega
theorem wJ (cs:Array Value) (i:Nat) (v:Value) (hi:i<8) (hs:cs[i]?=some v) (w:World):(Instr.index 80 (.agg cs) (.int .i64 i)).run Tryz.prog w=.ok v w:=by
 have h1:(0:Int)≤(i:Int)∧(i:Int)<((8:Nat):Int):=by omega
 have h2:=rY w Tryz.underlying78
 have h3:=qM w I6
 simp [Instr.index,run_underlying Tryz.underlying80,asIntOf,go_sem,h1,h3,part]
 rw [if_pos hi,hs]
 rfl
section
variable {ops:Array Oper} {rest:List Oper} {o:Oper} {a:Act} {w:World} {Q:Exit→Act→World→Prop}
theorem Ew (hgd:o.guard=none) (x y:Operand) (ho:o.op=.index 81 x y) (cs:Array Value) (k:Nat) (hk:k<4) (hs:cs.size=32) (hx:a.eval x=.agg cs) (hy:a.eval y=.int .i64 k)
  (sub:Array Value) (hsub:sub=cs.extract (k*8) (k*8+8)) (h:wpList Tryz.prog ops Q rest (a.put o.dst (.agg sub)) w):wpList Tryz.prog ops Q (o::rest) a w :=
 wpList_plain hgd fun K hK=>by
  subst hsub
  unfold Oper.wp execOp
  simp only [ho,hx,hy,Sem.run_bind,Sem.run_pure,vX cs k hk hs w,Result.andThen_ok]
  exact hK _ _ h
theorem uN (hgd:o.guard=none) (x y:Operand) (ho:o.op=.index 80 x y) (cs:Array Value) (i:Nat) (v:Value) (hi:i<8) (hs:cs[i]?=some v) (hx:a.eval x=.agg cs) (hy:a.eval y=.int .i64 i)
  (h:wpList Tryz.prog ops Q rest (a.put o.dst v) w):wpList Tryz.prog ops Q (o::rest) a w :=
 wpList_plain hgd fun K hK=>by
  unfold Oper.wp execOp
  simp only [ho,hx,hy,Sem.run_bind,Sem.run_pure,wJ cs i v hi hs w,Result.andThen_ok]
  exact hK _ _ h
theorem Dv (hgd:o.guard=none) (x y:Operand) (ho:o.op=.store 80 x y) (c sub:Array Value) (hx:a.eval x=.pointer (some ⟨w.heap.size,0,none⟩)) (hy:a.eval y=.agg sub) (hs:sub.size=8) (hc:c.size=8) (h1:sub.all (·.oneCell')=true)
  (h:wpList Tryz.prog ops Q rest (a.put o.dst undef) (w.alloc (.cells sub 80))):wpList Tryz.prog ops Q (o::rest) a (w.alloc (.cells c 80)) :=
 wpList_plain hgd fun K hK=>by
  unfold Oper.wp execOp
  simp only [ho,hx,hy,Sem.run_bind,Sem.run_pure,run_storeAt_new w 80 c sub (by rw [rZ,hs]) (by rw [hc,hs]) h1,Result.andThen_ok]
  exact hK _ _ h
end
def bsTo (s:Sy) (L:Lay6) (k:Nat):List Nat:=(s.aZ k).map L.fb
section
variable {base:Nat} {W:World} {S:Nat} {s:Sy} {L:Lay6}
theorem DW {k:Nat} (h:s.fds k=none):bsTo s L (k+1)=bsTo s L k:=by
 unfold bsTo;rw [Sy.aZ,h]
theorem DV {k j:Nat} (h:s.fds k=some j) (hm:s.fileOf j∈s.aZ k):bsTo s L (k+1)=bsTo s L k:=by
 unfold bsTo;rw [Sy.aZ,h]
 show (addF _ _).map _=_
 rw [addF,if_pos hm]
theorem FY {k j:Nat} (h:s.fds k=some j) (hm:¬ s.fileOf j∈s.aZ k):bsTo s L (k+1)=bsTo s L k++[L.fb (s.fileOf j)]:=by
 unfold bsTo;rw [Sy.aZ,h]
 show (addF _ _).map _=_
 rw [addF,if_neg hm,List.map_append];rfl
theorem aj.Em (h:aj base W S s L) {k j:Nat} (hk:s.fds k=some j):s.fileOf j<s.files.length:=by
 have hj:=h.val1 k j hk
 rw [Sy.fileOf,List.getElem?_eq_getElem hj]
 exact h.val2 _ (List.getElem_mem hj)
theorem aj.nM (h:aj base W S s L) (k f:Nat) (hf:f∈s.aZ k):f<s.files.length:=zu (fun _ _ hk=>h.Em hk) k f hf
theorem Jd (h:aj base W S s L) {k f:Nat} (hf:f<s.files.length):decide (L.fb f∈bsTo s L k)=decide (f∈s.aZ k):=by
 rw [decide_eq_decide]
 constructor
 ·intro hx
  obtain ⟨g,hg,e⟩:=List.mem_map.1 hx
  rw [← h.injF g f (h.nM k g hg) hf e];exact hg
 ·exact fun hx=>List.mem_map.2 ⟨f,hx,rfl⟩
end
theorem aj.row {base:Nat} {W:World} {S:Nat} {s:Sy} {L:Lay6} (h:aj base W S s L):∃ cs:Array Value,cs.size=32∧W.rangeAt S 3 cs.toList∧∀ k,k<32→cs[k]?=some (.pointer ((s.fds k).map fun j=>⟨L.ob j,0,none⟩)):=by
 obtain ⟨arr,hb,hs,_,_,_,hf⟩:=h.blk
 refine ⟨arr.extract 3 (3+32),by simp [hs],World.rangeAt_of_block hb 3 32,fun k hk=>?_⟩
 rw [Array.getElem?_extract]
 simp only [hs]
 rw [if_pos (by omega)]
 exact hf k hk
theorem Ay (w:World) (c:Array Value) (t:TypeId:=80):(w.alloc (.cells c t)).rangeAt w.heap.size 0 c.toList:=fun j v hv=>by
 have hb:(w.alloc (.cells c t)).heap[w.heap.size]?=some (.cells c t):=heap_alloc_last w _
 rw [Nat.zero_add]
 simp only [World.cell?,hb]
 simpa using hv
set_option maxRecDepth 100000 in
set_option maxHeartbeats 1000000 in
theorem nZ {base:Nat} {W:World} {S:Nat} {s:Sy} {L:Lay6} (h:aj base W S s L) :
  Calls Tryz.prog 41 #[.pointer (some ⟨S,0,none⟩)] W fun r W'=>(∃ v,r=.returned v∧PRow W' W.heap.size v (bsTo s L 32))∧Below W.heap.size W W':=by
 obtain ⟨cs,hcs,hrow,hget⟩:=h.row
 have HS:Aside (aj base W S s L):=h
 have HG:Aside (∀ k,k<32→cs[k]?=some (.pointer ((s.fds k).map fun j=>⟨L.ob j,0,none⟩))):=hget
 have HR:Aside (W.rangeAt S 3 cs.toList):=hrow
 have HZ:Aside (cs.size=32):=hcs
 clear h hcs hrow hget
 go_enter Tryz.func41,Tryz.ntmps41
 go_wp2_with (refine wpList_load_mid rfl 81 (.tmp 10) rfl S 3 rfl cs.toList _ HR.out Tryz.underlying81 rfl (by rw [Dp];simp [HZ.out]) ?_;rw [Array.toArray_toList])
 go_loopg [3,12] 4 (fun gg s3 s12 wr=>∃ o:Nat,o≤4∧4-o≤gg∧s12=.int .i64 o∧Aside (PRow wr W.heap.size s3 (bsTo s L (o*8))∧Below W.heap.size W wr))
 case atStart=>exact ⟨0,by omega,by omega,rfl,PRow.nil _ _,Below.refl _ _⟩
 case round =>
  obtain ⟨o,ho,hgg,rfl,HI⟩:=hrel
  by_cases hlt:o<4
  ·have hltz:(o:Int)<4:=by omega
   obtain ⟨sub,hsub⟩:∃ sub,sub=cs.extract (o*8) (o*8+8):=⟨_,rfl⟩
   have HU:Aside (sub=cs.extract (o*8) (o*8+8)):=hsub
   have HU8:Aside (sub.size=8):=by show _=_;rw [hsub];simp [HZ.out];omega
   have HUG:Aside (∀ i,i<8→sub[i]?=some (.pointer ((s.fds (o*8+i)).map fun j=>⟨L.ob j,0,none⟩))):=by
    show ∀ i,_
    intro i hi
    rw [hsub,Array.getElem?_extract,HZ.out,if_pos (by omega)]
    exact HG.out _ (by omega)
   have HU1:Aside (sub.all (·.oneCell')=true):=by
    show _=true
    rw [Array.all_eq_true]
    intro i hi
    have h8:=HU8.out
    have:=HUG.out i (by omega)
    rw [Array.getElem?_eq_getElem hi] at this
    injection this with this
    rw [this];rfl
   clear hsub
   go_wp2_with (first | (refine Ew rfl (.tmp 11) (.tmp 12) rfl cs o hlt HZ.out rfl rfl sub HU.out ?_) | (refine Dv rfl (.tmp 5) (.tmp 14) rfl _ sub rfl rfl HU8.out rfl HU1.out ?_) | (refine wpList_load_mid rfl 80 (.tmp 5) rfl wr.heap.size 0 rfl sub.toList _ (Ay wr sub) Tryz.underlying80 rfl (by rw [rZ];simp [HU8.out]) ?_;rw [Array.toArray_toList]))
   have HB1:Aside (Below W.heap.size W (wr.alloc (.cells sub 80))):=Below.onto HI.out.2 ((Grown.refl wr).alloc _).below
   have HP1:Aside (PRow (wr.alloc (.cells sub 80)) W.heap.size u3 (bsTo s L (o*8+0))):=PRow.below HI.out.1 ((Grown.refl wr).alloc _).below
   go_loopg [3,16] 8 (fun gg s3 s16 wq=>∃ i:Nat,i≤8∧8-i≤gg∧s16=.int .i64 i∧Aside (PRow wq W.heap.size s3 (bsTo s L (o*8+i))∧Below W.heap.size W wq))
   case atStart=>exact ⟨0,by omega,by omega,rfl,HP1.out,HB1.out⟩
   case round =>
    obtain ⟨i,hi,hgg2,rfl,HJ⟩:=hrel
    by_cases hlt2:i<8
    ·have hltz2:(i:Int)<8:=by omega
     cases hfd:s.fds (o*8+i) with
     | none =>
      have HX:Aside (sub[i]?=some (.pointer none)):=by have:=HUG.out i hlt2;rw [hfd] at this;exact this
      have HE:Aside (bsTo s L (o*8+(i+1))=bsTo s L (o*8+i)):=DW hfd
      go_wp2_with (refine uN rfl (.tmp 15) (.tmp 16) rfl sub i (.pointer none) hlt2 HX.out rfl rfl ?_)
      go_roundg (8-(i+1))
      case measure=>omega
      case rel=>exact ⟨i+1,by omega,by omega,by go_num,by rw [HE.out];exact HJ.out⟩
     | some j =>
      have HX:Aside (sub[i]?=some (.pointer (some ⟨L.ob j,0,none⟩))):=by have:=HUG.out i hlt2;rw [hfd] at this;exact this
      obtain ⟨op,hop⟩:∃ op,s.opens[j]?=some op:=⟨_,List.getElem?_eq_getElem (HS.out.val1 _ _ hfd)⟩
      have hof:s.fileOf j=op.file:=by simp [Sy.fileOf,hop]
      have HF:Aside (op.file<s.files.length):=HS.out.val2 op (List.mem_of_getElem? hop)
      have c0:wr.cell? ⟨L.ob j,0,none⟩=some (.pointer (some ⟨L.fb op.file,0,none⟩)):=(HJ.out.2.cell (p:=⟨L.ob j,0,none⟩) (HS.out.olt (List.getElem?_eq_some_iff.1 hop).1)).trans (HS.out.iB hop).1.1
      have HM:Aside (decide (L.fb op.file∈bsTo s L (o*8+i))=decide (op.file∈s.aZ (o*8+i))):=Jd HS.out HF.out
      have HC:Aside (∀ x,(x=L.fb op.file∨x∈bsTo s L (o*8+i))→∃ ca,wr.heap[x]?=some (.cells ca 203 (0,0))):=by
       show ∀ x,_
       rintro x (rfl | hx)
       ·exact ⟨_,(HJ.out.2.block _ (HS.out.flt HF.out)).trans (HS.out.fil _ _ (List.getElem?_eq_getElem HF.out))⟩
       ·obtain ⟨f,hf,rfl⟩:=List.mem_map.1 hx
        have hf:=HS.out.nM _ f hf
        exact ⟨_,(HJ.out.2.block _ (HS.out.flt hf)).trans (HS.out.fil _ _ (List.getElem?_eq_getElem hf))⟩
      have hlen:(bsTo s L (o*8+i)).length≤32:=by have:=mQ s (o*8+i);simp only [bsTo,List.length_map];omega
      obtain ⟨p,c,rfl,hLP,_⟩:=HJ.out.1.form
      have hcall:=xO (bsTo s L (o*8+i)) (L.fb op.file) p c wr hLP (by omega) HC.out
      rw [HM.out] at hcall
      have HLN:Aside ((bsTo s L (o*8+i)).length≤32):=hlen
      clear hLP
      generalize hn:(bsTo s L (o*8+i)).length=n at hcall HJ
      have HN:Aside ((bsTo s L (o*8+i)).length=n):=hn
      clear hn hlen
      by_cases hmem:op.file∈s.aZ (o*8+i)
      ·rw [decide_eq_true hmem] at hcall
       have HE:Aside (bsTo s L (o*8+(i+1))=bsTo s L (o*8+i)):=DV hfd (by rw [hof];exact hmem)
       clear hmem hof hop hfd
       go_wp2_with (first | (refine uN rfl (.tmp 15) (.tmp 16) rfl sub i _ hlt2 HX.out rfl rfl ?_) | (go_at_call 59;refine hcall.mono ?_;clear hcall;rintro e w1 ⟨rfl,hB⟩))
       go_roundg (8-(i+1))
       case measure=>omega
       case rel=>exact ⟨i+1,by omega,by omega,by go_num,by rw [HE.out];exact ⟨HJ.out.1.below hB,Below.onto HJ.out.2 hB⟩⟩
      ·rw [decide_eq_false hmem] at hcall
       have HE:Aside (bsTo s L (o*8+(i+1))=bsTo s L (o*8+i)++[L.fb op.file]):=by have:=FY (L:=L) hfd (by rw [hof];exact hmem);rw [hof] at this;exact this
       have HOB:Aside (L.ob j<wr.heap.size):=Nat.lt_of_lt_of_le (HS.out.olt (List.getElem?_eq_some_iff.1 hop).1) HJ.out.2.size
       clear hmem hof hop hfd
       go_wp2_with (first | (refine uN rfl (.tmp 15) (.tmp 16) rfl sub i _ hlt2 HX.out rfl rfl ?_) | (go_at_call 59;refine hcall.mono ?_;clear hcall;rintro e w1 ⟨rfl,hB⟩;have c1:=(hB.cell (p:=⟨L.ob j,0,none⟩) HOB.out).trans c0) | (refine BQ _ (L.fb op.file) rfl (.tmp 30) (.tmp 35) rfl W.heap.size _ _ rfl (HJ.out.1.below hB) (Nat.le_trans HLN.out (by decide)) (Nat.le_trans HJ.out.2.size hB.size) _ rfl rfl ?_;rintro v2 w2 hP2 hB2 hs2))
       have HP2:Aside (PRow w2 W.heap.size v2 (bsTo s L (o*8+(i+1)))∧Below W.heap.size W w2):=by rw [HE.out];exact ⟨hP2,(Below.onto HJ.out.2 hB).trans hB2⟩
       go_roundg (8-(i+1))
       case measure=>omega
       case rel=>exact ⟨i+1,by omega,by omega,by go_num,HP2.out⟩
    ·have hltz2:¬ (i:Int)<8:=by omega
     have hi8:i=8:=by omega
     subst hi8
     go_wp2
     go_roundg (4-(o+1))
     case measure=>omega
     case rel=>exact ⟨o+1,by omega,by omega,by go_num,by rw [show (o+1)*8=o*8+8 by omega];exact HJ.out⟩
  ·have hltz:¬ (o:Int)<4:=by omega
   have ho4:o=4:=by omega
   subst ho4
   go_wp2
   go_ret
   exact ⟨⟨_,rfl,HI.out.1⟩,HI.out.2⟩
theorem xE (s:Sy):Fits s.seen:=qC (aK s.all)
theorem pK {base:Nat} {W X:World} {S:Nat} {s:Sy} {L:Lay6} (h:aj base W S s L) (hX:Below W.heap.size W X) (q:ByteArray) (hq:q.size≤maxLen) (x:Ent) (hx:x=(getL s.seen q.data.toList).getD zeroE) (sn:Nat) (hsn:sn=s.seen.length) :
  Calls Tryz.prog 27 #[.slice L.ps sn L.sc,.string q] X fun r w'=>r=.returned (.tuple #[.agg #[.string x.path, .int .i64 x.kind, .string x.text, .bool x.opq],.bool (getL s.seen q.data.toList).isSome])∧Below X.heap.size X w':=by
 subst hsn
 have hR:=aK s.all
 have hL:=(h.kept hX).data.now.seen
 refine (lV s.seen q L.ps L.sc X hL (xE s) (by have:=hR.len;simp only [Sy.seen];omega) hq).mono ?_
 rintro r w' ⟨y,b,rfl,hg,hz,_,hB⟩
 have hg:=hg hR.sorted
 cases b with
 | true=>rw [hx,hg];exact ⟨rfl,hB⟩
 | false=>rw [hx,hg,hz rfl];exact ⟨rfl,hB⟩
set_option maxHeartbeats 1000000 in
theorem nR {base:Nat} {W:World} {S:Nat} {s:Sy} {L:Lay6} (h:aj base W S s L) {i:Nat} {f:Fl} (hf:s.files[i]?=some f) (hsz:f.path.size≤80) (X:World) (hX:Below W.heap.size W X) :
  Calls Tryz.prog 181 #[.pointer (some ⟨S,0,none⟩),.pointer (some ⟨L.fb i,0,none⟩)] X fun r w'=>r=.returned (.string (s.textOf f))∧Below X.heap.size X w':=by
 have hk:=h.kept hX
 have cs:=hk.cells.2.2
 obtain ⟨⟨c0,c1,_⟩,_⟩:=hk.kT hf
 by_cases h0:f.path.data.toList=[]
 ·have h1:=kC h0
  have HT:Aside (s.textOf f=f.text):=by show _=_;rw [Sy.textOf,if_pos h0]
  clear h0 hk hsz hX h
  go_enter Tryz.func181,Tryz.ntmps181
  go_wp2
  go_ret
  exact ⟨by rw [HT.out];rfl,Below.refl _ _⟩
 ·have h1:=iX h0
  obtain ⟨x,hx⟩:∃ x,x=(getL s.seen f.path.data.toList).getD zeroE:=⟨_,rfl⟩
  have HT:Aside (s.textOf f=x.text):=by show _=_;rw [Sy.textOf,if_neg h0,hx]
  obtain ⟨sn,hsn⟩:∃ sn,sn=s.seen.length:=⟨_,rfl⟩
  have hgt:=fun Y (hY:Below X.heap.size X Y)=>pK hk hY f.path (by unfold maxLen;omega) x hx sn hsn
  rw [← hsn] at cs
  generalize (getL s.seen f.path.data.toList).isSome=b at hgt
  have HS:Aside (S<X.heap.size∧L.fb i<X.heap.size):=⟨hk.lt,hk.flt (List.getElem?_eq_some_iff.1 hf).1⟩
  clear h0 hk hsz hX h hx hsn hf
  obtain ⟨xp,xk,xt,xo⟩:=x
  simp only at hgt
  have n1:=World.new_ne X ⟨S,2,none⟩ cs
  have n2:=World.new_ne X ⟨L.fb i,0,none⟩ c0
  have hS:=HS.out.1
  have hFb:=HS.out.2
  go_enter Tryz.func181,Tryz.ntmps181
  go_wp2
  go_region_held3 (fun w'=>w'.cell? ⟨S,2,none⟩=some (.slice L.ps sn L.sc)∧w'.cell? ⟨L.fb i,0,none⟩=some (.string f.path)) (go_keep) (first
   | (go_at_call 27;refine (hgt _ (Below.refl _ _).drew).mono ?_;clear hgt;rintro r w3 ⟨rfl,hN3⟩;have HN3:Aside _:=hN3;have z1:=(hN3.cell (p:=⟨S,2,none⟩) hS).trans cs;have z2:=(hN3.cell (p:=⟨L.fb i,0,none⟩) hFb).trans c0;clear hN3)
   | (go_at_call 27;refine (hgt _ (((Below.refl _ _).alloc (Nat.le_refl _) _).drew)).mono ?_;clear hgt;rintro r w3 ⟨rfl,hN3⟩;have HN3:Aside _:=hN3;have z1:=(hN3.cell (p:=⟨S,2,none⟩) (by simp;omega)).trans (Lib.cell?_alloc_some _ cs);have z2:=(hN3.cell (p:=⟨L.fb i,0,none⟩) (by simp;omega)).trans (Lib.cell?_alloc_some _ c0);obtain ⟨⟨b0,b1,b2,b3⟩,⟨g0,g1,g2,g3⟩⟩:=new4 (w:=X) (B:=X.heap.size+1) (Nat.lt_succ_self _) (((Below.refl _ _).drew).trans (hN3.mono (Nat.le_of_eq (World.size_alloc X _).symm)));clear hN3))
  ·have HB:Aside (Below X.heap.size X (w3.alloc (.cells #[.string xp,.int .i64 xk,.string xt,.bool xo] 53))):=by
    have h1:Below X.heap.size X w3:=((Below.refl _ _).drew).trans HN3.out
    exact h1.alloc h1.size _
   go_wp2
   go_ret
   exact ⟨by rw [HT.out];rfl,HB.out⟩
  ·have HB:Aside (Below X.heap.size X ((((w3.setCell ⟨X.heap.size,0,none⟩ (.string xp)).setCell ⟨X.heap.size,1,none⟩ (.int .i64 xk)).setCell ⟨X.heap.size,2,none⟩ (.string xt)).setCell ⟨X.heap.size,3,none⟩ (.bool xo))):=by
    have h1:Below X.heap.size X w3:=(((Below.refl _ _).alloc (Nat.le_refl _) _).drew).trans (HN3.out.mono (by rw [show ∀ o,(X.alloc o).drew.heap.size=X.heap.size+1 from fun o=>World.size_alloc X o];omega))
    exact (((h1.setCell (p:=⟨X.heap.size,0,none⟩) (Nat.le_refl _) _).setCell (p:=⟨X.heap.size,1,none⟩) (Nat.le_refl _) _).setCell (p:=⟨X.heap.size,2,none⟩) (Nat.le_refl _) _).setCell (p:=⟨X.heap.size,3,none⟩) (Nat.le_refl _) _
   go_wp2
   go_ret
   exact ⟨by rw [HT.out];rfl,HB.out⟩
theorem bR {W X:World} {b:Nat} (h:X.heap[b]?=W.heap[b]?) (i:Nat):X.cell? ⟨b,i,none⟩=W.cell? ⟨b,i,none⟩:=by simp [World.cell?,h]
theorem aH {W:World} {b:Nat} {arr:Array Value} {t:TypeId} {fr:Nat × Nat} (h:W.heap[b]?=some (.cells arr t fr)) (i:Nat) (v:Value):(W.setCell ⟨b,i,none⟩ v).heap[b]?=some (.cells (arr.setIfInBounds i v) t fr):=by
 simp [World.setCell,Array.getElem?_modify,h]
theorem Lies.st {sp:Nat→Prop} {W:World} {p:Option Addr} {l:List Ent} (h:Lies W p l) (hn:∀ b off s,p=some ⟨b,off,s⟩→¬ sp b):St sp W (fun X=>Lies X p l):=fun X hX=>by
 rcases h with h | ⟨b,off,hp,hb,hc⟩
 ·exact .inl h
 ·exact .inr ⟨b,off,hp,Nat.lt_of_lt_of_le hb hX.size,fun j e he i v hv=>(bR (hX.block b hb (hn b off none hp)) _).trans (hc j e he i v hv)⟩
theorem dw.st {sp:Nat→Prop} {W:World} {p:Option Addr} {l:List Lay} (h:dw W p l) (hn:∀ b off s,p=some ⟨b,off,s⟩→¬ sp b):St sp W (fun X=>dw X p l):=fun X hX=>by
 rcases h with h | ⟨b,off,hp,hb,hc⟩
 ·exact .inl h
 ·exact .inr ⟨b,off,hp,Nat.lt_of_lt_of_le hb hX.size,fun j e he=>(bR (hX.block b hb (hn b off none hp)) _).trans (hc j e he)⟩
theorem LLies.st {sp:Nat→Prop} {W:World} {p:Option Addr} {l:List LK.Lk} (h:LK.Lies W p l) (hn:∀ b off s,p=some ⟨b,off,s⟩→¬ sp b):St sp W (fun X=>LK.Lies X p l):=fun X hX=>by
 rcases h with h | ⟨b,off,hp,hb,hc⟩
 ·exact .inl h
 ·exact .inr ⟨b,off,hp,Nat.lt_of_lt_of_le hb hX.size,fun j e he i v hv=>(bR (hX.block b hb (hn b off none hp)) _).trans (hc j e he i v hv)⟩
theorem UnOK.st {sp:Nat→Prop} {W:World} {y:Lay} {lo:List Lay} {pl:Option Addr} {cl B:Nat} (h:UnOK W y lo pl cl) (hn:jF B y lo pl) (hB:∀ b,sp b→b<B):St sp W (fun X=>UnOK X y lo pl cl):=fun X hX=>by
 have no:∀ b,B≤b→¬ sp b:=fun b hb hs=>absurd (hB b hs) (by omega)
 refine ⟨⟨Lies.st h.up.lies (fun b off s e=>no b (hn.1 b off s e)) X hX,h.up.fits,h.up.cap,h.up.small⟩,h.upn,dw.st h.lies (fun b off s e=>no b (hn.2.1 b off s e)) X hX,fun x hx=>⟨?_,(h.each x hx).2⟩,h.nil,h.cap⟩
 have:=(h.each x hx).1
 exact ⟨Lies.st this.lies (fun b off s e=>no b (hn.2.2 x hx b off s e)) X hX,this.fits,this.cap,this.small⟩
def Gl (base:Nat) (W:World):Prop:=0 < base∧∃ m,W.cell? ⟨0,0,none⟩=some (.int .i64 m)
theorem Gl.kept {base:Nat} {W X:World} (h:Gl base W) (hB:Below base W X):Gl base X:=⟨h.1,h.2.imp fun m hm=>(hB.cell (p:=⟨0,0,none⟩) h.1).trans hm⟩
section
variable {base:Nat} {W X:World} {S:Nat} {s:Sy} {L:Lay6}
theorem aj.one (h:aj base W S s L) {j:Nat} (hj:j<s.opens.length):L.ob j≠S:=fun e=>by
 obtain ⟨arr,hb,_⟩:=h.blk
 have:=h.opn j _ (List.getElem?_eq_getElem hj)
 rw [e,hb] at this
 simp at this
theorem aj.fne (h:aj base W S s L) {i:Nat} (hi:i<s.files.length):L.fb i≠S:=fun e=>by
 obtain ⟨arr,hb,_⟩:=h.blk
 have:=h.fil i _ (List.getElem?_eq_getElem hi)
 rw [e,hb] at this
 simp at this
theorem aj.ofne (h:aj base W S s L) {i j:Nat} (hi:i<s.files.length) (hj:j<s.opens.length):L.ob j≠L.fb i:=fun e=>by
 have h1:=h.fil i _ (List.getElem?_eq_getElem hi)
 have h2:=h.opn j _ (List.getElem?_eq_getElem hj)
 rw [e,h1] at h2
 simp at h2
theorem aj.cK (h:aj base W S s L) {b:Nat} (hb:Sp S s L b):base≤b∧b<W.heap.size:=by
 rcases hb with (rfl | hx) | ⟨j,hj,rfl⟩ | ⟨i,hi,rfl⟩
 ·exact ⟨h.base.1,h.lt⟩
 ·exact h.exb b hx
 ·exact ⟨h.base.2.1 j hj,h.olt hj⟩
 ·exact ⟨h.base.2.2 i hi,h.flt hi⟩
end
def PM.Sy.aJ (s:Sy) (up:List Ent) (lows:List (List Ent)):Sy:={ s with up:=up,lows:=lows }
def AV (base S:Nat) (s':Sy) (L:Lay6) (W W':World):Prop:=∃ L':Lay6,aj base W' S s' L'∧L'.ob=L.ob∧L'.fb=L.fb∧L'.ex=L.ex∧Below base W W'∧Keep (·=S) W W'
theorem aj.reset {base:Nat} {W X:World} {S:Nat} {s:Sy} {L:Lay6} (h:aj base W S s L) (hk:Keep (·=S) W X) (y:Lay) (lo:List Lay) (pl:Option Addr) (cl:Nat) (p:Option Addr) (c:Nat)
  (hA:∃ arr:Array Value,X.heap[S]?=some (.cells arr 83 (0,0))∧arr.size=35∧arr[0]?=some (.slice y.ad y.es.length y.cap)∧arr[1]?=some (.slice pl lo.length cl)∧arr[2]?=some (.slice p (aB (y.es::lo.map (·.es))).length c)∧∀ k,k<32→arr[3+k]?=some (.pointer ((s.fds k).map fun j=>⟨L.ob j,0,none⟩)))
  (hU:St (Sp S s L) W (fun X=>UnOK X y lo pl cl)) (hL:St (Sp S s L) X (fun X=>Lies X p (aB (y.es::lo.map (·.es))))) (hc:(aB (y.es::lo.map (·.es))).length≤c) (hn:p=none→c=0) :
  aj base X S (s.aJ y.es (lo.map (·.es))) { L with y:=y,lo:=lo,pl:=pl,cl:=cl,ps:=p,sc:=c }:=by
 have hks:Keep (Sp S s L) W X:=⟨hk.size,fun b hb hn=>hk.block b hb (fun e=>hn (.inl (.inl e)))⟩
 refine ⟨hA,fun j o ho=>(hk.block _ (h.olt (List.getElem?_eq_some_iff.1 ho).1) (h.one (List.getElem?_eq_some_iff.1 ho).1)).trans (h.opn j o ho),fun i f hf=>(hk.block _ (h.flt (List.getElem?_eq_some_iff.1 hf).1) (h.fne (List.getElem?_eq_some_iff.1 hf).1)).trans (h.fil i f hf),h.injO,h.injF,?_,rfl,rfl,hc,hn,h.val1,h.val2,fun b hb=>⟨(h.exb b hb).1,Nat.lt_of_lt_of_le (h.exb b hb).2 hk.size⟩,h.base⟩
 intro Y hY
 exact ⟨hU Y (hks.trans hY),hL Y hY,(h.data Y (hks.trans hY)).locks⟩
set_option maxHeartbeats 1000000 in
theorem jV {base:Nat} {W:World} {S:Nat} {s:Sy} {L:Lay6} (h:aj base W S s L) (hg:Gl base W) (y:Lay) (lo:List Lay) (pl:Option Addr) (cl:Nat) (hU:St (Sp S s L) W (fun X=>UnOK X y lo pl cl)) (h0:(ay (y.es::lo.map (·.es))).1=0) :
  Calls Tryz.prog 124 #[.pointer (some ⟨S,0,none⟩),.agg #[.slice y.ad y.es.length y.cap,.slice pl lo.length cl]] W fun r W'=>r=.returned (.tuple #[])∧AV base S (s.aJ y.es (lo.map (·.es))) L W W':=by
 obtain ⟨c0,c1,c2⟩:=h.cells
 have f0:=h.frz 0
 have f1:=h.frz 1
 have f2:=h.frz 2
 have n0:=World.new_ne W ⟨S,0,none⟩ c0
 have n1:=World.new_ne W ⟨S,1,none⟩ c1
 have n3:¬ W.heap.size=S:=by have:=h.lt;omega
 have n4:¬ S=W.heap.size:=by have:=h.lt;omega
 have HS:Aside (aj base W S s L):=h
 obtain ⟨yn,hyn⟩:∃ yn,yn=y.es.length:=⟨_,rfl⟩
 obtain ⟨ln,hln⟩:∃ ln,ln=lo.length:=⟨_,rfl⟩
 obtain ⟨W1,hW1⟩:∃ W1,(W.setCell ⟨S,0,none⟩ (.slice y.ad y.es.length y.cap)).setCell ⟨S,1,none⟩ (.slice pl lo.length cl)=W1:=⟨_,rfl⟩
 obtain ⟨W2,hW2⟩:∃ W2,W1.alloc (.cells #[.slice y.ad y.es.length y.cap,.slice pl lo.length cl] 26)=W2:=⟨_,rfl⟩
 have hB12:Below W1.heap.size W1 W2:=by rw [← hW2];exact ((Grown.refl W1).alloc _).below
 have hs1:W1.heap.size=W.heap.size:=by rw [← hW1];simp [World.setCell]
 have hk2:Keep (Sp S s L) W W2:=by
  refine Keep.trans ?_ (Keep.of_below _ hB12)
  rw [← hW1];exact (Keep.set (.inl (.inl rfl)) _ _ _).trans (Keep.set (.inl (.inl rfl)) _ _ _)
 have hB2:Below base W W2:=by
  have h1:Below base W W1:=by rw [← hW1];exact ((Below.refl _ _).setCell (p:=⟨S,0,none⟩) h.base.1 _).setCell (p:=⟨S,1,none⟩) h.base.1 _
  exact h1.trans (hB12.mono (by rw [hs1];exact Nat.le_trans h.base.1 (Nat.le_of_lt h.lt)))
 obtain ⟨m,hm⟩:=(hg.kept hB2).2
 obtain ⟨sl,hsl⟩:∃ sl,sl=aB (y.es::lo.map (·.es)):=⟨_,rfl⟩
 have hsn:=qD y lo m pl cl W2 (hU W2 hk2) hm
 rw [h0,← hsl] at hsn
 obtain ⟨sn,hsn'⟩:∃ sn,sn=sl.length:=⟨_,rfl⟩
 have hkS:Keep (·=S) W W2:=by
  refine Keep.trans ?_ (Keep.of_below _ hB12)
  rw [← hW1];exact (Keep.set (sp:=(·=S)) rfl _ _ _).trans (Keep.set (sp:=(·=S)) rfl _ _ _)
 have HK:Aside (Keep (·=S) W W2∧Below base W W2):=⟨hkS,hB2⟩
 have HN:Aside (yn=y.es.length∧ln=lo.length∧sn=sl.length∧sl=aB (y.es::lo.map (·.es))):=⟨hyn,hln,hsn',hsl⟩
 have hSn:S<W.heap.size:=h.lt
 have HU:Aside (St (Sp S s L) W (fun X=>UnOK X y lo pl cl)):=hU
 rw [← hyn,← hln] at hW1 hW2 ⊢
 have HW:Aside (W1.alloc (.cells #[.slice y.ad yn y.cap,.slice pl ln cl] 26)=W2∧(W.setCell ⟨S,0,none⟩ (.slice y.ad yn y.cap)).setCell ⟨S,1,none⟩ (.slice pl ln cl)=W1):=⟨hW2,hW1⟩
 have hsn2:Calls Tryz.prog 21 #[.agg #[.slice y.ad yn y.cap,.slice pl ln cl]] W2 (fun r w'=>∃ p c,r=.returned (.tuple #[.slice p sn c,.int .i64 0])∧Aside (Lies w' p sl∧sl.length≤c∧(p=none→c=0)∧Below W2.heap.size W2 w'∧∀ b off s,p=some ⟨b,off,s⟩→W2.heap.size≤b)):=by
  rw [hyn,hln,hsn']
  exact hsn.mono fun r w' ⟨p,c,e,a1,a2,a3,a4,a5⟩=>⟨p,c,e,a1,a2,a3,a4,a5⟩
 have HA:Aside (∃ arr:Array Value,W2.heap[S]?=some (.cells arr 83 (0,0))∧arr.size=35∧arr[0]?=some (.slice y.ad yn y.cap)∧arr[1]?=some (.slice pl ln cl)∧∀ k,k<32→arr[3+k]?=some (.pointer ((s.fds k).map fun j=>⟨L.ob j,0,none⟩))):=by
  show ∃ arr:Array Value,_
  obtain ⟨arr,hb,hsz,_,_,_,hf⟩:=h.blk
  have hb2:=aH (aH hb 0 (.slice y.ad yn y.cap)) 1 (.slice pl ln cl)
  rw [hW1] at hb2
  refine ⟨_,(hB12.block S (by rw [hs1];exact h.lt)).trans hb2,by simp [hsz],?_,?_,fun k hk=>?_⟩
  ·rw [Array.getElem?_setIfInBounds_ne (by omega),Array.getElem?_setIfInBounds_self_of_lt (by omega)]
  ·rw [Array.getElem?_setIfInBounds_self_of_lt (by simp;omega)]
  ·rw [Array.getElem?_setIfInBounds_ne (by omega),Array.getElem?_setIfInBounds_ne (by omega)];exact hf k hk
 have HS2:Aside (W2.frozen? ⟨S,2,none⟩=false∧∃ v,W2.cell? ⟨S,2,none⟩=some v):=by
  obtain ⟨arr,hb,hsz,_⟩:=HA.out
  exact ⟨by simp [World.frozen?,hb],by simp [World.cell?,hb,hsz]⟩
 have hs2:W2.heap.size=W.heap.size+1:=by rw [← hW2,← hW1];simp [World.setCell]
 rw [← hW2,← hW1] at hsn2
 clear hkS hk2 hB2 hm hB12 hsn hs1 hsl hsn' hW2 hW1 hU h0 h hyn hln
 go_enter Tryz.func124,Tryz.ntmps124
 go_wp2_with (go_at_call 21;refine hsn2.mono ?_;clear hsn2;rintro r w3 ⟨p,c,rfl,H3⟩;rw [HW.out.2,HW.out.1] at H3;have d2:w3.frozen? ⟨S,2,none⟩=false:=(H3.out.2.2.2.1.frozen (p:=⟨S,2,none⟩) (by show S<_;omega)).trans HS2.out.1;obtain ⟨v2,hv2⟩:=HS2.out.2;have e2:w3.cell? ⟨S,2,none⟩=some v2:=(H3.out.2.2.2.1.cell (p:=⟨S,2,none⟩) (by show S<_;omega)).trans hv2)
 refine bodyPost_end (results_none rfl _ _ _) rfl ?_
 refine ⟨rfl,?_⟩
 obtain ⟨hL3,hlc,hpn,hB3,hnew⟩:=H3.out
 obtain ⟨e1,e2',e3,e4⟩:=HN.out
 subst e1 e2' e3 e4
 obtain ⟨arr,hb,hsz,a0,a1,af⟩:=HA.out
 have hb3:=(hB3.block S (by omega)).trans hb
 refine ⟨_,aj.reset HS.out ((HK.out.1.trans (Keep.of_below _ hB3)).trans (Keep.set (sp:=(·=S)) rfl _ 2 _)) y lo pl cl p c ⟨_,aH hb3 2 _,by simp [hsz],?_,?_,?_,fun k hk=>?_⟩ HU.out ?_ hlc hpn,rfl,rfl,rfl,?_,(HK.out.1.trans (Keep.of_below _ hB3)).trans (Keep.set (sp:=(·=S)) rfl _ 2 _)⟩
 ·rw [Array.getElem?_setIfInBounds_ne (by omega)];exact a0
 ·rw [Array.getElem?_setIfInBounds_ne (by omega)];exact a1
 ·rw [Array.getElem?_setIfInBounds_self_of_lt (by omega)]
 ·rw [Array.getElem?_setIfInBounds_ne (by omega)];exact af k hk
 ·refine St.on (Lies.st hL3 (fun b off s' e hsp=>?_)) (Keep.set (.inl (.inl rfl)) _ 2 _)
  have h1:=hnew b off s' e
  have h2:=(HS.out.cK hsp).2
  omega
 ·exact (HK.out.2.trans (hB3.mono (Nat.le_trans HS.out.base.1 (by omega)))).setCell (p:=⟨S,2,none⟩) HS.out.base.1 _
def PM.Sy.aV (s:Sy) (o:Nat):Int:=match (List.range 8).find? (fun k=>(s.fds (o*8+k)).isNone) with
 | some k=>k
 | none => -1
theorem Et {s:Sy} {o k:Nat} (hk:k<8) (h0:s.fds (o*8+k)=none) (h1:∀ j,j<k→¬ s.fds (o*8+j)=none):s.aV o=k:=by
 have:(List.range 8).find? (fun k=>(s.fds (o*8+k)).isNone)=some k:=by
  rw [List.find?_range_eq_some]
  exact ⟨by simp [h0],by simpa using hk,fun j hj=>by
   have:=h1 j hj
   cases h:s.fds (o*8+j) with
   | none=>exact absurd h this
   | some x=>rfl⟩
 rw [Sy.aV,this]
theorem Es {s:Sy} {o:Nat} (h1:∀ j,j<8→¬ s.fds (o*8+j)=none):s.aV o = -1:=by
 have:(List.range 8).find? (fun k=>(s.fds (o*8+k)).isNone)=none:=by
  rw [List.find?_eq_none]
  intro j hj
  have:=h1 j (by simpa using hj)
  simp [Option.isNone_iff_eq_none,this]
 rw [Sy.aV,this]
theorem lU (s:Sy) (o:Nat):s.aV o = -1∨∃ k:Nat,k<8∧s.aV o=k∧s.fds (o*8+k)=none:=by
 unfold Sy.aV
 cases h:(List.range 8).find? (fun k=>(s.fds (o*8+k)).isNone) with
 | none=>exact .inl rfl
 | some k =>
  have h1:=List.find?_some h
  have h2:=List.mem_of_find?_eq_some h
  exact .inr ⟨k,by simpa using h2,rfl,by simpa using h1⟩
theorem eqNP (w:World) (a:Addr):(binOp .eql 78 (.pointer none) (.pointer (some a))).run Tryz.prog w=.ok (.bool false) w:=by
 obtain ⟨i0,hi,hz⟩:∃ i0,Tryz.prog.info? 116=some i0∧i0.size≠0:=by
  have h:(Tryz.prog.info? 116).map (fun i=>i.size)=some 3:=by kernel_rfl
  cases hi:Tryz.prog.info? 116 with
  | none=>rw [hi] at h;cases h
  | some i0 =>
   rw [hi] at h
   simp only [Option.map_some,Option.some.injEq] at h
   exact ⟨i0,rfl,by omega⟩
 have h:∀ d:Nat,(Op.equalIn (d+1) 78 (.pointer none) (.pointer (some a))).run Tryz.prog w=.ok false w:=fun d=>by
  simp [Op.equalIn,run_underlying Tryz.underlying78,sizeOf,typeInfo]
 simp only [binOp]
 simp [Op.equal,Op.maxDepth,h 9999]
set_option maxRecDepth 100000 in
theorem Cq {base:Nat} {W:World} {S:Nat} {s:Sy} {L:Lay6} (h:aj base W S s L) (o:Nat) (ho:o<4) :
  Calls Tryz.prog 169 #[.slice (some ⟨S,3+o*8,none⟩) 8 8,.pointer none] W fun r w'=>r=.returned (.int .i64 (s.aV o))∧Below W.heap.size W w':=by
 have HS:Aside (aj base W S s L):=h
 clear h
 generalize hR:s.aV o=R
 have HR:Aside (s.aV o=R):=hR
 clear hR
 go_enter Tryz.func169,Tryz.ntmps169
 go_wp2
 go_loopg [8] 8 (fun gg s7 wr=>∃ k:Nat,k≤8∧8-k≤gg∧s7=.int .i64 k∧Aside (Below W.heap.size W wr)∧Aside (∀ j,j<k→¬ s.fds (o*8+j)=none))
 case atStart=>exact ⟨0,Nat.zero_le _,by omega,rfl,Below.refl _ _,fun j hj=>absurd hj (by omega)⟩
 case round =>
  obtain ⟨k,hk,hgg,rfl,BW,HA⟩:=hrel
  by_cases hlt:k<8
  ·have hltz:(k:Int)<8:=by omega
   have c0:wr.cell? ⟨S,3+o*8+k,none⟩=some (.pointer ((s.fds (o*8+k)).map fun j=>⟨L.ob j,0,none⟩)):=by
    rw [Nat.add_assoc 3];exact (HS.out.kept BW.out).fd (by omega)
   cases hf:s.fds (o*8+k) with
   | none =>
    rw [hf] at c0
    have c0:wr.cell? ⟨S,3+o*8+k,none⟩=some (.pointer none):=c0
    have HZ:Aside (R=(k:Int)):=by show _=_;rw [← HR.out];exact Et hlt hf HA.out
    go_wp2
    go_ret
    exact ⟨by rw [HZ.out];rfl,BW.out⟩
   | some j =>
    rw [hf] at c0
    have c0:wr.cell? ⟨S,3+o*8+k,none⟩=some (.pointer (some ⟨L.ob j,0,none⟩)):=c0
    have HZ:Aside (∀ i,i<k+1→¬ s.fds (o*8+i)=none):=by
     show ∀ i,_
     intro i hi
     rcases Nat.lt_or_ge i k with h | h
     ·exact HA.out i h
     ·rw [show i=k by omega,hf];simp
    have qs:=fun v:World=>eqNP v ⟨L.ob j,0,none⟩
    go_wp2
    go_roundg (8-(k+1))
    case measure=>omega
    case rel=>exact ⟨k+1,by omega,by omega,by go_num,BW.out,HZ.out⟩
  ·have hltz:¬ (k:Int)<8:=by omega
   have HZ:Aside (R = -1):=by show _=_;rw [← HR.out];exact Es (fun j hj=>HA.out j (by omega))
   go_wp2
   go_ret
   exact ⟨by rw [HZ.out];rfl,BW.out⟩
theorem oh {base:Nat} {W:World} {S:Nat} {s:Sy} {L:Lay6} (h:aj base W S s L) (o:Nat) (ho:o<4) :
  Calls Tryz.prog 120 #[.pointer (some ⟨S,3+o*8,none⟩)] W fun r w'=>r=.returned (.tuple #[.int .i64 (if s.aV o<0 then 0 else s.aV o),.int .i64 (if s.aV o<0 then 5 else 0)])∧Below W.heap.size W w':=by
 have hI:=Cq h o ho
 clear h
 generalize s.aV o=R at hI ⊢
 by_cases hR:R<0
 ·rw [if_pos hR,if_pos hR]
  go_enter Tryz.func120,Tryz.ntmps120
  go_wp2_with (go_at_call 169;refine hI.mono ?_;clear hI;rintro e w1 ⟨rfl,hB⟩)
  go_ret2
  exact ⟨rfl,hB⟩
 ·rw [if_neg hR,if_neg hR]
  go_enter Tryz.func120,Tryz.ntmps120
  go_wp2_with (go_at_call 169;refine hI.mono ?_;clear hI;rintro e w1 ⟨rfl,hB⟩)
  go_ret2
  exact ⟨rfl,hB⟩
def PM.has (use x:Int):Bool:=bits BinOp.and IntKind.i64 use x != 0
end Go.Proofs.YthfeoiffoeagkaaGreatDoor
