/-
  slices.DeleteFunc over a row of the call's own; tree.without.
-/
import Derived.Test.YthfeoiffoeagkaaGreatDoorZA3
import Derived.Shelf.Spec.SlicesInsertGrow
namespace Go.Proofs.YthfeoiffoeagkaaGreatDoor
open Go.RowKit PM Go.Sort
set_option linter.unusedVariables false
theorem qU {w:World} {g cap:Nat} {l:List Ent} (h:Own w g cap l) {i n c:Nat} (hn:0<n) (hi:i+n≤cap) :
  ∃ zs,∀ ty,(Builtin.clear_ #[23] ty #[.slice (some ⟨g,i*4,none⟩) n c]).run Tryz.prog w=.ok (.tuple #[]) (w.setCells g (i*4) zs):=by
 refine ⟨(Builtin.zeroCells #[.string ⟨#[]⟩,.int .i64 0,.string ⟨#[]⟩,.bool false] n).toList,fun ty=>?_⟩
 have hlen:(Builtin.zeroCells #[.string ⟨#[]⟩,.int .i64 0,.string ⟨#[]⟩,.bool false] n).toList.length=n*4:=by simp [Builtin.zeroCells]
 have hst:=run_storeCells_cells (P:=Tryz.prog) g (i*4) (Builtin.zeroCells #[.string ⟨#[]⟩,.int .i64 0,.string ⟨#[]⟩,.bool false] n).toList 0 w
  (fun j hj=>by rw [hlen] at hj;exact h.there (by omega)) (fun j _=>h.frozen _) (fun v hv=>by
    simp only [Builtin.zeroCells,Array.toList_map,List.mem_map] at hv
    obtain ⟨k,_,rfl⟩:=hv
    have:k % 4<4:=Nat.mod_lt _ (by decide)
    show (#[Value.string ⟨#[]⟩,.int .i64 0,.string ⟨#[]⟩,.bool false][k % 4]!).oneCell'=true
    generalize k % 4=r at this
    match r,this with
    | 0,_=>rfl
    | 1,_=>rfl
    | 2,_=>rfl
    | 3,_=>rfl)
 obtain ⟨m,rfl⟩:∃ m,n=m+1:=⟨n-1,by omega⟩
 have hst':(storeCells ⟨g,i*4,none⟩ (Builtin.zeroCells #[.string ⟨#[]⟩,.int .i64 0,.string ⟨#[]⟩,.bool false] (m+1)).toList).run Tryz.prog w=.ok () (w.setCells g (i*4) (Builtin.zeroCells #[.string ⟨#[]⟩,.int .i64 0,.string ⟨#[]⟩,.bool false] (m+1)).toList):=hst
 simp [Builtin.clear_,run_underlying Tryz.underlying23,Value.cells,hst']
structure dV (pr:Ent→Bool) (l:List Ent) (w:World) (g cap i j:Nat) (dk:List Ent) (W:World):Prop where
 own:Own W g cap dk
 len:dk.length=l.length
 head:dk.take i=(l.take j).filter fun x => !pr x
 tail:dk.drop j=l.drop j
 gby:w.grownBy W (some g)
theorem dV.at {pr:Ent→Bool} {l:List Ent} {w:World} {g cap i j:Nat} {dk:List Ent} {W:World} (h:dV pr l w g cap i j dk W) {y:Ent} (hy:l[j]?=some y):dk[j]?=some y:=by
 have:=congrArg (·[0]?) h.tail
 simpa [List.getElem?_drop,hy] using this
theorem dh {l:List Ent} {j:Nat} {y:Ent} (hy:l[j]?=some y):l.take (j+1)=l.take j++[y]:=by
 obtain ⟨h1,h2⟩:=List.getElem?_eq_some_iff.1 hy
 rw [List.take_succ_eq_append_getElem h1,h2]
theorem dV.skip {pr:Ent→Bool} {l:List Ent} {w:World} {g cap i j:Nat} {dk:List Ent} {W W2:World} (h:dV pr l w g cap i j dk W) {y:Ent} (hy:l[j]?=some y) (hp:pr y=true) (hG:Grown W W2):dV pr l w g cap i (j+1) dk W2 :=
 ⟨h.own.grown hG,h.len,by rw [dh hy,List.filter_append,h.head];simp [hp],by have:=congrArg (·.drop 1) h.tail;simpa [List.drop_drop] using this,eu h.gby hG⟩
theorem dV.keep {pr:Ent→Bool} {l:List Ent} {w:World} {g cap i j:Nat} {dk:List Ent} {W W2:World} (h:dV pr l w g cap i j dk W) {y:Ent} (hy:l[j]?=some y) (hp:pr y=false) (hG:Grown W W2) (hij:i<j) :
  dV pr l w g cap (i+1) (j+1) (dk.set i y) ((((W2.setCell ⟨g,i*4,none⟩ (.string y.path)).setCell ⟨g,i*4+1,none⟩ (.int .i64 y.kind)).setCell ⟨g,i*4+2,none⟩ (.string y.text)).setCell ⟨g,i*4+3,none⟩ (.bool y.opq)):=by
 have hj:=(List.getElem?_eq_some_iff.1 hy).1
 have hi:i<dk.length:=by rw [h.len];omega
 refine ⟨(h.own.grown hG).set hi y,by rw [List.length_set,h.len],?_,?_,aY (aY (aY (aY (eu h.gby hG) _ _) _ _) _ _) _ _⟩
 ·rw [dh hy,List.filter_append,← h.head,dh (y:=y) (by rw [List.getElem?_set,if_pos rfl,if_pos hi])]
  rw [List.take_set_of_le (Nat.le_refl _)]
  simp [hp]
 ·have:=congrArg (·.drop 1) h.tail
  rw [List.drop_set_of_lt (by omega)]
  simpa [List.drop_drop] using this
theorem iQ.parts {pr:Ent→Bool} {t:List Ent} {w w':World} {r:Ending} {n:Nat} (hn:n=t.length) (h:iQ pr t w r w') :
  Grown w w'∧((r=.returned (.int .i64 (-1))∧∀ x∈t,pr x=false)∨∃ (k:Nat) (y:Ent),k<n∧t[k]?=some y∧r=.returned (.int .i64 k)∧pr y=true∧∀ x∈t.take k,pr x=false):=by
 obtain ⟨h1,h2 | ⟨k,y,h3,h4⟩⟩:=h
 ·exact ⟨h1,.inl h2⟩
 ·exact ⟨h1,.inr ⟨k,y,by rw [hn];exact (List.getElem?_eq_some_iff.1 h3).1,h3,h4⟩⟩
set_option maxHeartbeats 4000000 in
theorem mZ (pr:Ent→Bool) (gf:Nat) (lb:Array Value) (eg:∀ args w,(callFunc gf args).run Tryz.prog w=.ok (.enter gf args) w) (l:List Ent) (g cap:Nat) (w:World) (hO:Own w g cap l) (hn:l.length<4611686018427387904)
  (hp:∀ W x,w.grownBy W (some g)→x∈l→Calls Tryz.prog gf (#[.agg #[.string x.path, .int .i64 x.kind, .string x.text, .bool x.opq]]++lb) W fun e w'=>e=.returned (.bool (pr x))∧Grown W w') :
  Calls Tryz.prog 220 #[.slice (some ⟨g,0,none⟩) l.length cap,.func (.func gf) #[] lb] w fun e w' =>
   e=.returned (.slice (some ⟨g,0,none⟩) (l.filter fun x => !pr x).length cap)∧Own w' g cap (l.filter fun x => !pr x)∧w.grownBy w' (some g):=by
 have hI:=mO pr gf lb eg l (some ⟨g,0,none⟩) cap w hO.lies hn (fun W x hG hx=>hp W x (eu (fG w _) hG) hx)
 have HO:Aside (Own w g cap l):=hO
 have HP:Aside _:=hp
 have hcap:l.length≤cap:=hO.len
 have hc63:=hO.max
 unfold maxLen at hc63
 clear hp hO
 obtain ⟨n,hnl⟩:∃ n,n=l.length:=⟨_,rfl⟩
 have HN:Aside (n=l.length):=hnl
 rw [← hnl] at hn hcap hI ⊢
 clear hnl
 go_enter Tryz.func220,Tryz.ntmps220
 go_wp2_with (go_at_call 256;refine hI.mono ?_;clear hI;intro e w1 hIP;rcases iQ.parts HN.out hIP with ⟨hG,⟨rfl,ha⟩ | ⟨k0,y0,hk0,hy0,rfl,hpy0,ha⟩⟩ <;> clear hIP)
 ·go_ret
  have hf:(l.filter fun x => !pr x)=l:=List.filter_eq_self.2 fun x hx=>by simp [ha x hx]
  rw [hf]
  exact ⟨by rw [← HN.out];rfl,HO.out.grown hG,eu (fG w _) hG⟩
 ·have HI0:Aside (dV pr l w g cap k0 (k0+1) l w1):=⟨HO.out.grown hG,rfl,by rw [dh hy0,List.filter_append,List.filter_eq_self.2 (fun x hx=>by simp [ha x hx])];simp [hpy0],rfl,eu (fG w _) hG⟩
  clear hy0 ha hG
  have hne1:((k0:Int) == -1)=false:=beq_eq_false_iff_ne.2 (by omega)
  go_wp2
  go_loopg [5,6,7] n (fun gg s5 s6 _ wr=>∃ (i j:Nat) (dk:List Ent),s5=.int .i64 i∧s6=.int .i64 j∧i<j∧j≤n∧n-j≤gg∧Aside (dV pr l w g cap i j dk wr))
  case atStart=>exact ⟨k0,k0+1,l,rfl,by go_num,by omega,by omega,by omega,HI0.out⟩
  case round =>
   obtain ⟨i,j,dk,rfl,rfl,hij,hjn,hgg,INV⟩:=hrel
   have hglt:=INV.out.own.lt
   have hne:g≠wr.heap.size:=by omega
   by_cases hlt:j<n
   ·have hltz:(j:Int)<(n:Int):=by omega
    obtain ⟨y,hy⟩:∃ y,l[j]?=some y:=⟨_,List.getElem?_eq_getElem (by have:=HN.out;omega)⟩
    have HY:Aside (l[j]?=some y):=hy
    obtain ⟨⟨c0,c1,c2,c3⟩,_⟩:=INV.out.own.cells (INV.out.at hy)
    have hcall:=HP.out _ y (jK INV.out.gby (.cells #[.string y.path, .int .i64 y.kind, .string y.text, .bool y.opq] 53)) (List.mem_of_getElem? hy)
    obtain ⟨z,hz⟩:∃ z,dk[i]?=some z:=⟨_,List.getElem?_eq_getElem (by rw [INV.out.len];have:=HN.out;omega)⟩
    have HZ:Aside (dk[i]?=some z):=hz
    clear hy hz
    cases hq:pr y with
    | true =>
     rw [hq] at hcall
     go_wp2_with (go_at_fn gf;refine hcall.mono ?_;clear hcall;rintro e w2 ⟨rfl,hG2⟩)
     go_roundg (n-(j+1))
     case measure=>omega
     case rel=>exact ⟨i,j+1,dk,rfl,by go_num,by omega,by omega,Nat.le_refl _,INV.out.skip HY.out hq (((Grown.refl wr).alloc _).trans hG2)⟩
    | false =>
     rw [hq] at hcall
     go_wp2_with (go_at_fn gf;refine hcall.mono ?_;clear hcall;rintro e w2 ⟨rfl,hG2⟩;obtain ⟨⟨b0,b1,b2,b3⟩,_⟩:=new4 (by simp) hG2.below;obtain ⟨⟨a0,a1,a2,a3⟩,⟨f0,f1,f2,f3⟩⟩:=(INV.out.own.grown (((Grown.refl wr).alloc _).trans hG2)).cells HZ.out)
     go_roundg (n-(j+1))
     case measure=>omega
     case rel=>exact ⟨i+1,j+1,dk.set i y,by go_num,by go_num,by omega,by omega,Nat.le_refl _,INV.out.keep HY.out hq (((Grown.refl wr).alloc _).trans hG2) hij⟩
   ·obtain rfl:j=n:=by omega
    have hltz:¬ (j:Int)<(j:Int):=by omega
    obtain ⟨zs,hzs⟩:=qU INV.out.own (i:=i) (n:=j-i) (c:=cap-i) (by omega) (by omega)
    have hic:¬ cap=i:=by omega
    go_wp2
    go_ret
    have hf:(l.filter fun x => !pr x)=dk.take i:=by rw [INV.out.head,HN.out,List.take_length]
    have hl:(dk.take i).length=i:=by rw [List.length_take,INV.out.len];have:=HN.out;omega
    rw [hf,hl]
    exact ⟨rfl,(INV.out.own.take i).beyond (by rw [hl];exact Nat.le_refl _),fK _ _ _ INV.out.gby⟩
theorem zU (e:Ent) (q:ByteArray) (B:Nat) (w:World) (hB:B<w.heap.size) (hc:w.cell? ⟨B,0,none⟩=some (.string q)) :
  Calls Tryz.prog 255 #[.agg #[.string e.path, .int .i64 e.kind, .string e.text, .bool e.opq],.pointer (some ⟨B,0,none⟩)] w fun r w'=>r=.returned (.bool (decide (e.p=q.data.toList)))∧Grown w w':=by
 have hne:B≠w.heap.size:=by omega
 have HE:Aside ((e.path.toList == q.toList)=decide (e.p=q.data.toList)):=by
  show _=_
  rw [Lib.toList_data,Lib.toList_data,Bool.eq_iff_iff];simp [Ent.p]
 go_enter Tryz.func255,Tryz.ntmps255
 go_wp2
 go_ret
 exact ⟨aR HE.out,(Grown.refl w).alloc _⟩
theorem nI:∃ i0,Tryz.prog.info? 53=some i0∧i0.zero=some (.agg #[.string ⟨#[]⟩,.int .i64 0,.string ⟨#[]⟩,.bool false])∧i0.size=4∧i0.bytes=48:=by
 have h:(Tryz.prog.info? 53).map (fun i=>(i.zero,i.size,i.bytes))=some (some (.agg #[.string ⟨#[]⟩,.int .i64 0,.string ⟨#[]⟩,.bool false]),4,48):=by kernel_rfl
 cases hi:Tryz.prog.info? 53 with
 | none=>rw [hi] at h;cases h
 | some i0 =>
  rw [hi] at h
  simp only [Option.map_some,Option.some.injEq,Prod.mk.injEq] at h
  exact ⟨i0,rfl,h.1,h.2.1,h.2.2⟩
theorem flat_get {t:List Ent} {k:Nat} {u:Value} (h:(t.flatMap encE)[k]?=some u):∃ j e i,t[j]?=some e∧(encE e)[i]?=some u∧k=j*4+i:=by
 induction t generalizing k with
 | nil=>simp at h
 | cons x r ih =>
  rw [List.flatMap_cons] at h
  by_cases hk:k<4
  ·rw [List.getElem?_append_left (by rw [eP];exact hk)] at h
   exact ⟨0,x,k,rfl,h,by omega⟩
  ·rw [List.getElem?_append_right (by rw [eP];omega),eP] at h
   obtain ⟨j,e,i,h1,h2,h3⟩:=ih h
   exact ⟨j+1,e,i,by simpa using h1,h2,by omega⟩
theorem pz {t:List Ent} {j i:Nat} {e:Ent} {v:Value} (h:t[j]?=some e) (hv:(encE e)[i]?=some v):(t.flatMap encE)[j*4+i]?=some v:=by
 have hi:=lM hv
 induction t generalizing j with
 | nil=>simp at h
 | cons x r ih =>
  rw [List.flatMap_cons]
  cases j with
  | zero=>simp at h;subst h;rw [List.getElem?_append_left (by rw [eP];omega)];simpa using hv
  | succ j =>
   rw [List.getElem?_append_right (by rw [eP];omega),eP,show (j+1)*4+i-4=j*4+i by omega]
   exact ih (by simpa using h)
theorem gq {t:List Ent} {u:Value} (h:u∈t.flatMap encE):u.oneCell'=true:=by
 obtain ⟨e,_,he⟩:=List.mem_flatMap.1 h
 simp [encE] at he
 rcases he with rfl | rfl | rfl | rfl <;> rfl
theorem Lies.flat {w:World} {ad:Addr} {t:List Ent} (h:Lies w (some ad) t) {W:World} (hW:Below w.heap.size w W):∀ j u,(t.flatMap encE)[j]?=some u→W.cell? (ad.add j)=some u:=by
 intro k u hu
 obtain ⟨j,e,i,h1,h2,rfl⟩:=flat_get hu
 rcases h with rfl | ⟨b,off,he,hb,hc⟩
 ·simp at h1
 ·cases he
  rw [Addr.add_lit,hW.cell (p:=⟨b,off+(j*4+i),none⟩) hb,← Nat.add_assoc]
  exact hc j e h1 i u h2
theorem Own.iC {w:World} {base n:Nat} {v:Value} {t:List Ent} (h:w.ownsRow base 53 4 v n (t.flatMap encE)) (hv:v≠.slice none 0 0) (hn:n=t.length):∃ g c,v=.slice (some ⟨g,0,none⟩) t.length c∧base≤g∧Own w g c t:=by
 obtain ⟨h1,h2 | ⟨g,cap,cur,hv',hg,hh,hnc,hm,hs,ht⟩⟩:=h
 ·exact absurd h2.1 hv
 ·subst hn
  refine ⟨g,cap,hv',hg,cur,hh,hs,hnc,hm,fun j e he i v hvv=>?_⟩
  have:=pz he hvv
  rw [← ht,List.getElem?_take] at this
  split at this
  ·rw [← Array.getElem?_toList];exact this
  ·cases this
theorem iY (w:World) (H:Nat) (hH:H=w.heap.size):(w.alloc (.cells #[] 53)).ownsRow H 53 4 (.slice (some ⟨H,0,none⟩) 0 0) 0 []:=by
 subst hH
 exact ⟨rfl,.inr ⟨w.heap.size,0,#[],rfl,Nat.le_refl _,(by show (w.heap.push _)[w.heap.size]?=_;simp),Nat.le_refl _,by decide,rfl,rfl⟩⟩
theorem iH {ops:Array Oper} {rest:List Oper} {o:Oper} {a:Act} {Q:Exit→Act→World→Prop} (W:World) (hgd:o.guard=none) (s x:Operand)
  (ho:o.op=.call { callee:=.builtin .append,args:=#[s,x],argTypes:=#[23,23] }) (H:Nat) (hs:a.eval s=.slice (some ⟨H,0,none⟩) 0 0) (hown:W.ownsRow H 53 4 (.slice (some ⟨H,0,none⟩) 0 0) 0 [])
  (p:Option Addr) (n cap:Nat) (t:List Ent) (hx:a.eval x=.slice p n cap) (hn:n=t.length) (hL:Lies W p t) (hnil:p=none→cap=0) (h80:n≤80) (hH:H≤W.heap.size)
  (h:∀ g c w',Own w' g c t→H≤g→Below H W w'→wpList Tryz.prog ops Q rest (a.put o.dst (.slice (some ⟨g,0,none⟩) n c)) w'):wpList Tryz.prog ops Q (o::rest) a W:=by
 obtain ⟨i0,hi,hz0,hz1,hz2⟩:=nI
 cases p with
 | none =>
  obtain rfl:cap=0:=hnil rfl
  have ht:t=[]:=by
   rcases hL with h | ⟨b,off,he,_⟩
   ·exact h
   ·cases he
  subst ht
  obtain rfl:n=0:=hn
  refine wpList_append_own_none hgd s x 23 ho H 53 i0 4 Tryz.underlying23 hi _ 0 [] hs hown hx ?_
  obtain ⟨g,c,hv,hg,ho'⟩:=Own.iC (t:=[]) hown (by simp) rfl
  simp only [List.length_nil] at hv
  rw [hv]
  exact h g c W ho' hg (Below.refl _ _)
 | some ad =>
  refine wpList_append_own W hgd s x 23 ho H 53 i0 _ 4 48 Tryz.underlying23 hi hz0 hz1 hz2 rfl (by decide) _ 0 [] hs hown ad n cap (t.flatMap encE) hx (by rw [dH,hn]) (hL.flat (Below.refl _ _)) (fun u hu=>gq hu) (by unfold maxLen;omega) (by omega) hH ?_
  intro v' w' hrow hg hiff
  rw [List.nil_append,Nat.zero_add] at hrow
  obtain ⟨g,c,hv,hgg,ho'⟩:=Own.iC hrow (by intro e;have:=(hiff.1 e).1;cases this) hn
  rw [hv,← hn]
  exact h g c w' ho' hgg ((Below.refl H W).grown hg hH (fun k hk=>by simp [Value.ownBlock] at hk;omega))
def mh (t:List Ent) (q:List UInt8) (w:World) (e:Ending) (w':World):Prop :=
 ∃ g c,e=.returned (.slice (some ⟨g,0,none⟩) (remL t q).length c)∧w.heap.size≤g∧Own w' g c (remL t q)∧Below w.heap.size w w'
set_option maxHeartbeats 4000000 in
theorem jY (t:List Ent) (q:ByteArray) (p:Option Addr) (cap:Nat) (w:World) (hL:Lies w p t) (hnil:p=none→cap=0) (hn:t.length≤80) :
  Calls Tryz.prog 219 #[.slice p t.length cap,.string q] w (mh t q.data.toList w):=by
 have eg:∀ args w,(callFunc 255 args).run Tryz.prog w=.ok (.enter 255 args) w:=enters_of Tryz.func255 (by kernel_rfl) rfl
 have hdel:∀ (g c:Nat) (W:World),Own W g c t→w.heap.size+1≤g→Below (w.heap.size+1) (w.alloc (.cells #[.string q] 9)) W →
   Calls Tryz.prog 220 #[.slice (some ⟨g,0,none⟩) t.length c,.func (.func 255) #[] #[.pointer (some ⟨w.heap.size,0,none⟩)]] W fun e w'=>e=.returned (.slice (some ⟨g,0,none⟩) (remL t q.data.toList).length c)∧Own w' g c (remL t q.data.toList)∧Below (w.heap.size+1) (w.alloc (.cells #[.string q] 9)) w':=by
  intro g c W hO hg hB
  have hBs:=hB.size
  simp at hBs
  refine (mZ (fun e=>decide (e.p=q.data.toList)) 255 #[.pointer (some ⟨w.heap.size,0,none⟩)] eg t g c W hO (by omega) (fun W2 x hG hx=>zU x q w.heap.size W2 (by have:=hG.size;omega) ?_)).mono ?_
  ·rw [gN hG (by show w.heap.size<W.heap.size;omega) (by show w.heap.size≠g;omega),hB.cell (p:=⟨w.heap.size,0,none⟩) (by simp)]
   simp
  ·rintro e w' ⟨rfl,hO',hG⟩
   exact ⟨rfl,hO',hB.grown hG (by simpa using hBs) (fun k hk=>by simp at hk;omega)⟩
 have HL:Aside (Lies w p t):=hL
 clear hL eg
 obtain ⟨n,hnl⟩:∃ n,n=t.length:=⟨_,rfl⟩
 have HN:Aside (n=t.length):=hnl
 rw [← hnl] at hn hdel ⊢
 clear hnl
 generalize hrl:(remL t q.data.toList).length=rl at hdel
 have HR:Aside ((remL t q.data.toList).length=rl):=hrl
 clear hrl
 go_enter Tryz.func219,Tryz.ntmps219
 go_wp2_with (at_builtin;refine iH _ rfl _ _ rfl (w.heap.size+1) rfl ?_ p n cap t rfl HN.out ?_ hnil hn ?_ ?_)
 ·exact iY (w.alloc (.cells #[.string q] 9)) _ (by simp)
 ·exact (HL.out.grown ((Grown.refl w).alloc _)).grown ((Grown.refl _).alloc _)
 ·simp
 ·intro g c w1 hO hg hB
  have hB':Below (w.heap.size+1) (w.alloc (.cells #[.string q] 9)) w1:=((Below.refl _ _).alloc (by simp) _).trans hB
  have hcall:=hdel g c w1 hO hg hB'
  clear hdel
  have H1:Aside (w.heap.size+1≤g):=hg
  clear hO hB hg
  go_wp2_with (go_at_call 220;refine hcall.mono ?_;clear hcall;rintro e w2 ⟨rfl,hO2,hB2⟩)
  go_ret
  exact ⟨g,c,by rw [HR.out];rfl,by have:=H1.out;omega,hO2,bF hB2⟩
theorem Bz (a b c:Int) (W:World):Calls Tryz.prog 157 #[.slice (some ⟨W.heap.size,0,none⟩) 3 3] (W.alloc (.cells #[.int .i64 a,.int .i64 b,.int .i64 c] 31)) fun e w'=>e=.returned (.int .i64 (orL [a,b,c]))∧w'=W.alloc (.cells #[.int .i64 a,.int .i64 b,.int .i64 c] 31) :=
 vT [a,b,c] W.heap.size 3 _ (by simp) (fun j x hx=>by
  match j,hx with
  | 0,hx=>simp at hx;subst hx;simp
  | 1,hx=>simp at hx;subst hx;simp
  | 2,hx=>simp at hx;subst hx;simp
  | j+3,hx=>simp at hx)
theorem gW (a b:Int) (W:World):Calls Tryz.prog 157 #[.slice (some ⟨W.heap.size,0,none⟩) 2 2] (W.alloc (.cells #[.int .i64 a,.int .i64 b] 31)) fun e w'=>e=.returned (.int .i64 (orL [a,b]))∧w'=W.alloc (.cells #[.int .i64 a,.int .i64 b] 31) :=
 vT [a,b] W.heap.size 2 _ (by simp) (fun j x hx=>by
  match j,hx with
  | 0,hx=>simp at hx;subst hx;simp
  | 1,hx=>simp at hx;subst hx;simp
  | j+2,hx=>simp at hx)
def dn (err:Int) (l:List Ent) (w:World) (e:Ending) (w':World):Prop :=
 ∃ p c,e=.returned (.tuple #[.slice p l.length c,.int .i64 err])∧Lies w' p l∧l.length≤c∧(p=none→c=0)∧Below w.heap.size w w'
theorem dn.none {err:Int} {w w':World} (hB:Below w.heap.size w w'):dn err [] w (.returned (.tuple #[.slice .none 0 0,.int .i64 err])) w':=⟨.none,0,rfl,Lies.nil _ _,Nat.le_refl _,fun _=>rfl,hB⟩
def bB (t:List Ent) (q:List UInt8):Int:=orL [(aD false t).1,kY t q,jS t q]
theorem Fw (t:List Ent) (q:List UInt8) (r:Int) (hr:Sorted t→r=kY t q):orL [(aD false t).1,r,jS t q]=bB t q:=by
 unfold bB
 by_cases h:(aD false t).1=0
 ·rw [hr (bM.1 h).sorted]
 ·simp [orL,h]
theorem iM {a:Int} {r:List Int}:orL (a::r)=0↔a=0∧orL r=0:=by
 rw [orL]
 by_cases h:a=0 <;> simp [h]
theorem oN {t:List Ent} {q:List UInt8} (h:bB t q=0):Right false t∧(∃ e∈t,e.p=q)∧∀ x∈t,under x.p q=false:=by
 unfold bB at h
 obtain ⟨h1,h⟩:=iM.1 h
 obtain ⟨h2,h⟩:=iM.1 h
 obtain ⟨h3,_⟩:=iM.1 h
 refine ⟨bM.1 h1,?_,?_⟩
 ·unfold kY at h2
  split at h2
  ·assumption
  ·omega
 ·unfold jS at h3
  split at h3
  ·omega
  ·rename_i g;intro x hx;simpa using fun hu=>g (List.any_eq_true.2 ⟨x,hx,hu⟩)
theorem lQ (a b:Value) (w:World):Sem.run Tryz.prog (Instr.field 46 (.agg #[a,b]) 0) w=.ok a w:=by
 first | kernel_rfl | simp [go_sem] | rfl
set_option maxHeartbeats 2000000 in
set_option maxRecDepth 100000 in
theorem Dk (t:List Ent) (q:ByteArray) (m:Int) (p:Option Addr) (cap:Nat) (w:World) (hL:Lies w p t) (hF:Fits t) (hn:t.length<4611686018427387904) (hcap:t.length≤cap) (hnil:p=none→cap=0) (hq:q.size≤maxLen) (hm:w.cell? ⟨0,0,none⟩=some (.int .i64 m)) :
  Calls Tryz.prog 178 #[.slice p t.length cap,.string q] w (dn (bB t q.data.toList) (if bB t q.data.toList=0 then remL t q.data.toList else []) w):=by
 have hwr:=fun W (hB:Below w.heap.size w W)=>iZ t m p cap W (hL.kept hB) hF hn hcap (held hB hm)
 have hms:=fun W (hB:Below w.heap.size w W)=>tT t q p cap W (hL.kept hB) hF hn hq
 have hfu:=fun W (hB:Below w.heap.size w W)=>yQ t q p cap W (hL.kept hB) hF hn hq
 have hwo:=fun (h:bB t q.data.toList=0) W (hB:Below w.heap.size w W)=>jY t q p cap W (hL.kept hB) hnil (oN h).1.len
 have HRE:Aside (∀ r:Int,(Sorted t→r=kY t q.data.toList)→orL [(aD false t).1,r,jS t q.data.toList]=bB t q.data.toList):=Fw t q.data.toList
 have hB:Below w.heap.size w w:=Below.refl _ _
 clear hL hF hcap hnil hm
 generalize t.length=n at *
 generalize (aD false t).1=f at hwr HRE
 generalize ((aD false t).2:Int)=fa at hwr
 generalize jS t q.data.toList=u at hfu HRE
 obtain ⟨l,hl⟩:∃ l,l=if bB t q.data.toList=0 then remL t q.data.toList else []:=⟨_,rfl⟩
 rw [← hl]
 have HL:Aside (l=if bB t q.data.toList=0 then remL t q.data.toList else []):=hl
 clear hl
 generalize bB t q.data.toList=er at HRE hwo HL ⊢
 have hfld:=lQ
 go_enter Tryz.func178,Tryz.ntmps178
 go_wp2_with (first
  | (go_at_call 24;refine (hwr _ hB).mono ?_;clear hwr;rintro e w1 ⟨rfl,hN⟩;replace hB:=Below.onto hB hN;clear hN)
  | (go_at_call 217;refine (hms _ hB).mono ?_;clear hms;rintro e w2 ⟨r,rfl,hr,hN⟩;have HE:Aside (orL [f,r,u]=er):=HRE.out r hr;clear hr HRE;replace hB:=Below.onto hB hN;clear hN)
  | (go_at_call 218;refine (hfu _ hB).mono ?_;clear hfu;rintro e w3 ⟨rfl,hN⟩;replace hB:=Below.onto hB hN;clear hN)
  | (go_at_call 157;refine (Bz _ _ _ _).mono ?_;rintro e w4 ⟨rfl,hw⟩;subst hw;replace hB:=hB.alloc hB.size (.cells #[.int .i64 f,.int .i64 r,.int .i64 u] 31);rw [HE.out];by_cases her:er=0)
  | (go_at_call 219;refine (hwo her _ hB).mono ?_;clear hwo;rintro e w5 ⟨g,c,rfl,hg,hO,hN⟩;replace hB:=Below.onto hB hN;clear hN))
 ·go_ret2
  have hl:=HL.out
  rw [if_pos her] at hl
  subst hl her
  exact ⟨some ⟨g,0,none⟩,c,rfl,hO.lies,hO.len,nofun,hB⟩
 ·go_ret2
  have hl:=HL.out
  rw [if_neg her] at hl
  subst hl
  exact dn.none hB
theorem oq (w:World) (cs:Array Value) (cap:Nat) (l:List Ent) (hs:cs.size=cap*4) (hl:l.length≤cap) (hm:cap≤maxLen) (hc:∀ (k:Nat) (v:Value),(l.flatMap encE)[k]?=some v→cs[k]?=some v):Own (w.alloc (.cells cs 53)) w.heap.size cap l :=
 ⟨cs,(by show (w.heap.push _)[w.heap.size]?=_;simp),hs,hl,hm,fun j e he i v hv=>hc _ v (pz he hv)⟩
theorem xM (n:Nat):(Builtin.zeroCells #[.string ⟨#[]⟩,.int .i64 0,.string ⟨#[]⟩,.bool false] n).size=n*4:=by simp [Builtin.zeroCells]
theorem append_left {cs:List Value} {r:Array Value} {k:Nat} {v:Value} (h:cs[k]?=some v):(cs.toArray++r)[k]?=some v:=by
 have hk:=(List.getElem?_eq_some_iff.1 h).1
 rw [Array.getElem?_append_left (by simpa using hk)];simpa using h
theorem oD (W:World) (dT sT ty:TypeId) (hu:Tryz.prog.underlying dT=some (.slice 53)) (g o dLen dCap:Nat) (a:Addr) (sLen sCap:Nat) (ns:List Ent) (hn:ns.length=Nat.min sLen dLen)
  (hsrc:∀ j v,(ns.flatMap encE)[j]?=some v→W.cell? (a.add j)=some v) (hc:∀ j,j<ns.length*4→(W.cell? ⟨g,o+j,none⟩).isSome=true) (hf:∀ j,j<ns.length*4→W.frozen? ⟨g,o+j,none⟩=false) :
  (Builtin.copy_ #[dT,sT] ty #[.slice (some ⟨g,o,none⟩) dLen dCap,.slice (some a) sLen sCap]).run Tryz.prog W=.ok (goInt ns.length) (W.setCells g o (ns.flatMap encE)):=by
 obtain ⟨i0,hi,hz0,hz1,hz2⟩:=nI
 have hl:=run_loadCells_list (P:=Tryz.prog) W a (ns.flatMap encE) hsrc
 have hst:=run_storeCells_cells (P:=Tryz.prog) g o (ns.flatMap encE) 0 W (fun j hj=>by rw [dH] at hj;exact hc j hj) (fun j hj=>by rw [dH] at hj;exact hf j hj) (fun v hv=>gq hv)
 rw [dH] at hl
 simp [Builtin.copy_,run_underlying hu,Builtin.lenOf,Builtin.firstCells,sizeOf,typeInfo,hi,hz1,← hn,hl,hst]
theorem zB (l:List Ent) (e:Ent) (g cap:Nat) (w:World) (hO:Own w g cap l) (vb:Nat) (hv:∀ j u,(encE e)[j]?=some u→w.cell? ⟨vb,j,none⟩=some u) (hn:l.length≤10000) :
  ∃ g' c' w',(∀ ty,(Builtin.append_ #[23,22] ty #[.slice (some ⟨g,0,none⟩) l.length cap,.slice (some ⟨vb,0,none⟩) 1 1]).run Tryz.prog w=.ok (.slice (some ⟨g',0,none⟩) (l.length+1) c') w')∧Own w' g' c' (l++[e])∧(g'=g∨w.heap.size≤g')∧w.grownBy w' (some g):=by
 obtain ⟨i0,hi,hz0,hz1,hz2⟩:=nI
 have hsrc:Src Tryz.prog i0.size 22 (.slice (some ⟨vb,0,none⟩) 1 1) 1 (encE e) w:=by
  rw [hz1]
  exact Src.ofSlice w Tryz.underlying22 ⟨vb,0,none⟩ 1 1 (encE e) rfl (fun j u hj=>by rw [Addr.add_lit,Nat.zero_add];exact hv j u hj) (fun u hu=>gq (t:=[e]) (by simpa using hu))
 by_cases hroom:l.length+1≤cap
 ·refine ⟨g,cap,w.setCells g (l.length*4) (encE e),fun ty=>?_,?_,.inl rfl,fK _ _ _ (fG _ _)⟩
  ·have:=run_append_room_src (P:=Tryz.prog) w 23 22 ty 53 i0 Tryz.underlying23 hi g 0 l.length cap _ 1 (encE e) hsrc hroom
    (fun j hj=>by rw [hz1,Nat.zero_add];rw [eP] at hj;exact hO.there (by omega)) (fun j _=>hO.frozen _)
   rw [hz1,Nat.zero_add] at this
   exact this
  ·have:=hO.over (ns:=[e]) (j:=l.length) (Nat.le_refl _) (by simpa using hroom)
   rw [List.take_length,List.drop_of_length_le (by simp),List.append_nil] at this
   simpa using this
 ·have hold:(Builtin.firstCells i0.size l.length (.slice (some ⟨g,0,none⟩) l.length cap)).run Tryz.prog w.drew=.ok (l.flatMap encE).toArray w.drew:=by
   rw [hz1]
   exact run_firstCells_some w.drew 4 l.length ⟨g,0,none⟩ l.length cap (l.flatMap encE) (dH l) (hO.lies.flat (W:=w.drew) ((Below.refl _ _).drew))
  have hr:=fun ty=>run_append_grow_src (P:=Tryz.prog) w 23 22 ty 53 i0 _ Tryz.underlying23 hi hz0 (some ⟨g,0,none⟩) l.length cap (l.flatMap encE) hold _ 1 (encE e) hsrc (by omega) (by omega) (by rw [hz2];exact growslice_fits (by omega) (by omega))
  refine ⟨_,_,_,hr,?_,.inr (Nat.le_refl _),bf (fG w _) (((Below.refl w.heap.size w).drew).alloc (Nat.le_refl _) _)⟩
  have hge:=grownCap_ge w (l.length+1) cap 53
  refine oq w.drew _ _ _ ?_ (by simpa using hge) (grownCap_le_maxLen w _ _ _ (by unfold maxLen;omega)) (fun k v hk=>append_left (by simpa using hk))
  rw [Array.size_append]
  simp only [Value.cells,xM,List.size_toArray,List.length_append,dH,eP]
  omega
theorem Gn (l:List Ent) (e:Ent) (i:Nat) (hi:i<l.length):(l.take (i+1)++l.drop i).take i++[e]++(l.take (i+1)++l.drop i).drop (i+1)=l.take i++e::l.drop i:=by
 rw [List.take_append_of_le_length (by rw [List.length_take];omega),List.take_take,Nat.min_eq_left (by omega),List.drop_append,List.length_take,Nat.min_eq_left (by omega),Nat.sub_self,List.drop_of_length_le (by rw [List.length_take];omega)]
 simp
theorem Fa {w:World} {g cap:Nat} {l:List Ent} (h:Own w g cap l) (e:Ent) {i:Nat} (hi:i<l.length) (hr:l.length+1≤cap) :
  Own ((w.setCells g ((i+1)*4) ((l.drop i).flatMap encE)).setCells g (i*4) (encE e)) g cap (l.take i++e::l.drop i):=by
 have h1:=h.over (ns:=l.drop i) (j:=i+1) (by omega) (by rw [List.length_drop];omega)
 have hz:l.drop (i+1+(l.drop i).length)=[]:=List.drop_of_length_le (by rw [List.length_drop];omega)
 rw [hz,List.append_nil] at h1
 have h2:=h1.over (ns:=[e]) (j:=i) (by simp;omega) (by simp;omega)
 rw [List.length_singleton,Gn l e i hi] at h2
 simpa using h2
def lH (l:List Ent) (g:Nat) (w:World) (r:Ending) (w':World):Prop :=
 ∃ g' c',r=.returned (.slice (some ⟨g',0,none⟩) l.length c')∧Own w' g' c' l∧(g'=g∨w.heap.size≤g')∧w.grownBy w' (some g)
set_option maxHeartbeats 4000000 in
set_option maxRecDepth 100000 in
theorem Cv (l:List Ent) (e:Ent) (g cap:Nat) (w:World) (hO:Own w g cap l) (vb:Nat) (hv:∀ j u,(encE e)[j]?=some u→w.cell? ⟨vb,j,none⟩=some u) (hn:l.length≤10000) :
  Calls Tryz.prog 214 #[.slice (some ⟨g,0,none⟩) l.length cap,.int .i64 l.length,.slice (some ⟨vb,0,none⟩) 1 1] w (lH (l++[e]) g w):=by
 obtain ⟨g',c',w',hr,hO',hg',hgb⟩:=zB l e g cap w hO vb hv hn
 have hcap:=hO.len
 have hc63:=hO.max
 unfold maxLen at hc63
 have HN:Aside (l.length+1=(l++[e]).length):=by show _=_;simp
 clear hO hv
 generalize l.length=n at *
 go_enter Tryz.func214,Tryz.ntmps214
 go_wp2_with (at_builtin;refine Lib.wpList_append_run _ rfl _ _ _ _ rfl _ _ rfl rfl _ _ (hr _) ?_)
 all_goals go_ret
 all_goals exact ⟨g',c',by rw [← HN.out];rfl,hO',hg',hgb⟩
theorem zG {w:World} {b:Nat} {cs:Array Value} {t:TypeId} {f:Nat × Nat} (h:w.heap[b]?=some (.cells cs t f)):w.shape? b=some (t,cs.size):=by simp [World.shape?,h]
theorem E9 {w:World} {g cap:Nat} {l:List Ent} (h:Own w g cap l):w.shape? g=some (53,cap*4):=by
 obtain ⟨cur,hc,hs,_⟩:=h
 rw [zG hc,hs]
set_option maxHeartbeats 4000000 in
set_option maxRecDepth 100000 in
theorem yV (l:List Ent) (e:Ent) (i g cap:Nat) (w:World) (hO:Own w g cap l) (vb:Nat) (hb:w.heap[vb]?=some (.cells (encE e).toArray 53 (0,0))) (hvb:vb≠g) (hi:i<l.length) (hroom:l.length+1≤cap) (hn:l.length≤10000) :
  Calls Tryz.prog 214 #[.slice (some ⟨g,0,none⟩) l.length cap,.int .i64 i,.slice (some ⟨vb,0,none⟩) 1 1] w (lH (l.take i++e::l.drop i) g w):=by
 have hc63:=hO.max
 unfold maxLen at hc63
 have hov:∀ lb cb,(callFunc 252 #[.slice (some ⟨vb,0,none⟩) 1 1,.slice (some ⟨g,(i+1)*4,none⟩) lb cb]).run Tryz.prog w=.ok (.value (.bool false)) w:=fun lb cb=>by
  rw [run_callFunc_extern Tryz.func252 (by kernel_rfl) (by kernel_rfl) (by kernel_rfl) (e:=Extern.SlicesOverlaps.overlaps #[22,22] #[4]) (by kernel_rfl),
   Lib.run_overlaps_apart w 22 4 53 Tryz.underlying22 4 Tryz.sizeOf53 ⟨vb,0,none⟩ ⟨g,(i+1)*4,none⟩ 1 1 lb cb hvb 53 53 4 (cap*4) (zG hb) (E9 hO) (by omega) (by simp [World.frozen?,hb]) (by simp [World.frozen?,hb])]
  rfl
 have hcp1:∀ ty dc sc,(Builtin.copy_ #[23,23] ty #[.slice (some ⟨g,(i+1)*4,none⟩) (l.length+1-(i+1)) dc,.slice (some ⟨g,i*4,none⟩) (l.length+1-i) sc]).run Tryz.prog w.drew=.ok (goInt (l.drop i).length) (w.drew.setCells g ((i+1)*4) ((l.drop i).flatMap encE)):=fun ty dc sc =>
  oD w.drew _ _ ty Tryz.underlying23 g ((i+1)*4) _ dc ⟨g,i*4,none⟩ _ sc (l.drop i) (by rw [List.length_drop];simp only [Nat.min_def];split <;> omega)
   (fun j v hj=>by
     obtain ⟨a,x,b,h1,h2,rfl⟩:=flat_get hj
     rw [List.getElem?_drop] at h1
     rw [Addr.add_lit,show i*4+(a*4+b)=(i+a)*4+b by omega]
     exact hO.cell h1 h2)
   (fun j hj=>by rw [List.length_drop] at hj;exact hO.there (by omega)) (fun j _=>hO.frozen _)
 have hO1:Own (w.drew.setCells g ((i+1)*4) ((l.drop i).flatMap encE)) g cap (l.take (i+1)):=((hO.kept (w':=w.drew) rfl).take (i+1)).beyond (by rw [List.length_take];omega)
 have hcell1:∀ j u,(encE e)[j]?=some u→(w.drew.setCells g ((i+1)*4) ((l.drop i).flatMap encE)).cell? ⟨vb,j,none⟩=some u:=fun j u hu=>by
  rw [World.cell?_setCells_out g _ _ _ ⟨vb,j,none⟩ (fun h _=>absurd h hvb)]
  simp only [World.cell?,World.drew,hb]
  simpa using hu
 obtain ⟨W1,hW1⟩:∃ W1,W1=w.drew.setCells g ((i+1)*4) ((l.drop i).flatMap encE):=⟨_,rfl⟩
 have HO:Aside (Own (W1.setCells g (i*4) (encE e)) g cap (l.take i++e::l.drop i)):=by rw [hW1];exact Fa (hO.kept (w':=w.drew) rfl) e hi hroom
 have HG:Aside (w.grownBy (W1.setCells g (i*4) (encE e)) (some g)):=by rw [hW1];exact fK _ _ _ (fK _ _ _ (bf (fG w _) (Below.refl _ _).drew))
 rw [← hW1] at hcp1 hO1 hcell1
 have hcp2:∀ (W:World),(∀ x,W.cell? x=W1.cell? x)→(∀ x,W.frozen? x=W1.frozen? x)→∀ ty dc,(Builtin.copy_ #[23,22] ty #[.slice (some ⟨g,i*4,none⟩) (l.length+1-i) dc,.slice (some ⟨vb,0,none⟩) 1 1]).run Tryz.prog W=.ok (goInt 1) (W.setCells g (i*4) (encE e)):=fun W hWc hWf ty dc=>by
  have:=oD W 23 22 ty Tryz.underlying23 g (i*4) (l.length+1-i) dc ⟨vb,0,none⟩ 1 1 [e] (by simp only [Nat.min_def,List.length_singleton];split <;> omega)
   (fun j v hj=>by rw [Addr.add_lit,Nat.zero_add,hWc];exact hcell1 j v (by simpa using hj))
   (fun j hj=>by rw [hWc];simp at hj;exact hO1.there (by omega)) (fun j _=>by rw [hWf];exact hO1.frozen _)
  simpa using this
 have HN:Aside (l.length+1=(l.take i++e::l.drop i).length):=by show _=_;simp;omega
 have hdl:(l.drop i).length=l.length-i:=List.length_drop ..
 rw [hdl] at hcp1
 generalize l.length=n at *
 have mixed:Tryz.prog.follows .mixedOrders=true:=by kernel_rfl
 have hz2:¬ ((i:Int)=(n:Int)):=by omega
 have hw1:IntKind.i64.wrap ((i:Int)+1)=(i:Int)+1:=by rw [IntKind.wrap_i64];omega
 have hb1:(0:Int)≤(i:Int)+1:=by omega
 have hin:i≤n:=by omega
 have htn:((i:Int)+1).toNat=i+1:=by omega
 have hb2:¬ (cap=i+1):=by omega
 have hb3:(i:Int)≤(n:Int)+1:=by omega
 have hb4:¬ (cap=i):=by omega
 clear hO hO1 hcell1 hdl hb hW1 
 go_enter Tryz.func214,Tryz.ntmps214
 go_wp2_with (simp only [hov])
 go_region_law_o (refine step_copy_runI rfl _ _ 23 23 rfl (.slice (some ⟨g,(i+1)*4,none⟩) (n+1-(i+1)) (cap-(i+1))) (.slice (some ⟨g,i*4,none⟩) (n+1-i) (cap-i)) (by simp [Act.eval,Act.put]) (by simp [Act.eval,Act.put]) (hcp1 _ _ _) ?_)
 go_wp2_with (at_builtin;refine wpList_copy_runI _ rfl _ _ 23 22 rfl _ _ rfl rfl (hcp2 _ (fun _=>rfl) (fun _=>rfl) _ _) ?_)
 go_ret
 exact ⟨g,cap,by rw [← HN.out];rfl,HO.out,.inl rfl,HG.out⟩
set_option maxHeartbeats 4000000 in
set_option maxRecDepth 100000 in
theorem Ac (l:List Ent) (e:Ent) (i g cap:Nat) (w:World) (hO:Own w g cap l) (vb:Nat) (hv:∀ j u,(encE e)[j]?=some u→w.cell? ⟨vb,j,none⟩=some u) (hi:i<l.length) (hroom:¬ l.length+1≤cap) (hn:l.length≤10000) :
  Calls Tryz.prog 214 #[.slice (some ⟨g,0,none⟩) l.length cap,.int .i64 i,.slice (some ⟨vb,0,none⟩) 1 1] w (lH (l.take i++e::l.drop i) g w):=by
 obtain ⟨i0,hi0,hz0,hz1,hz2⟩:=nI
 have hlen:=hO.len
 have hglt:=hO.lt
 have hvlt:vb<w.heap.size:=by
  have:=hv 0 _ rfl
  rcases Nat.lt_or_ge vb w.heap.size with h' | h'
  ·exact h'
  ·simp [World.cell?,Array.getElem?_eq_none h'] at this
 have hold:(Builtin.firstCells i0.size i (.slice (some ⟨g,0,none⟩) i cap)).run Tryz.prog w.drew=.ok ((l.take i).flatMap encE).toArray w.drew:=by
  rw [hz1]
  exact run_firstCells_some w.drew 4 i ⟨g,0,none⟩ i cap ((l.take i).flatMap encE) (by rw [dH,List.length_take];omega) ((hO.take i).lies.flat (W:=w.drew) ((Below.refl _ _).drew))
 have hrz0:=fun ty=>Lib.run_append_grow_zeros (P:=Tryz.prog) w 23 3 ty 53 i0 _ .i64 .i64 Tryz.underlying23 Tryz.underlying3 hi0 hz0 (some ⟨g,0,none⟩) i cap ((l.take i).flatMap encE) hold (l.length+1-i) (by omega) (by omega) (by omega) (by omega) (by rw [hz2];omega) (by rw [hz2];exact growslice_fits (by omega) (by omega))
 rw [show i+(l.length+1-i)=l.length+1 by omega,show ((l.length+1-i:Nat):Int)=(l.length:Int)+1-(i:Int) by omega] at hrz0
 obtain ⟨G,hG⟩:∃ G,G=grownCap w (l.length+1) cap 53:=⟨_,rfl⟩
 obtain ⟨ROW,hROW⟩:∃ ROW:Array Value,ROW=((l.take i).flatMap encE).toArray++Builtin.zeroCells (Value.agg #[.string ⟨#[]⟩,.int .i64 0,.string ⟨#[]⟩,.bool false]).cells (l.length+1-i)++Builtin.zeroCells (Value.agg #[.string ⟨#[]⟩,.int .i64 0,.string ⟨#[]⟩,.bool false]).cells (G-(l.length+1)):=⟨_,rfl⟩
 rw [← hG] at hrz0
 rw [← hROW] at hrz0
 have hGn:l.length+1≤G:=by rw [hG];exact grownCap_ge w _ _ _
 have hGm:G≤maxLen:=by rw [hG];exact grownCap_le_maxLen w _ _ _ (by unfold maxLen;omega)
 have hO1:Own (w.drew.alloc (.cells ROW 53)) w.heap.size G (l.take i):=by
  refine oq w.drew _ _ _ ?_ (by rw [List.length_take];omega) hGm (fun k v hk=>by rw [hROW,Array.append_assoc];exact append_left hk)
  rw [hROW]
  simp only [Array.size_append,Value.cells,xM,List.size_toArray,dH,List.length_take]
  omega
 have hcellv:∀ j u,(encE e)[j]?=some u→(w.drew.alloc (.cells ROW 53)).cell? ⟨vb,j,none⟩=some u:=fun j u hu=>by
  rw [((Below.refl w.heap.size w).drew.alloc (Nat.le_refl _) _).cell (p:=⟨vb,j,none⟩) hvlt];exact hv j u hu
 have hcellg:∀ j u,((l.drop i).flatMap encE)[j]?=some u→(w.drew.alloc (.cells ROW 53)).cell? ⟨g,i*4+j,none⟩=some u:=fun j u hu=>by
  rw [((Below.refl w.heap.size w).drew.alloc (Nat.le_refl _) _).cell (p:=⟨g,i*4+j,none⟩) hglt]
  obtain ⟨a,x,b,h1,h2,rfl⟩:=flat_get hu
  rw [List.getElem?_drop] at h1
  rw [show i*4+(a*4+b)=(i+a)*4+b by omega]
  exact hO.cell h1 h2
 obtain ⟨W1,hW1⟩:∃ W1,W1=w.drew.alloc (.cells ROW 53):=⟨_,rfl⟩
 have hW1':W1=(w.alloc (.cells ROW 53)).drew:=by rw [hW1];rfl
 have hgb1:w.grownBy W1 (some g):=by rw [hW1];exact bf (fG w _) ((Below.refl w.heap.size w).drew.alloc (Nat.le_refl _) _)
 rw [← hW1] at hrz0 hO1 hcellv hcellg
 have hli:(l.take i).length=i:=by rw [List.length_take];omega
 have hcpA:∀ ty dc,(Builtin.copy_ #[23,22] ty #[.slice (some ⟨w.heap.size,i*4,none⟩) (l.length+1-i) dc,.slice (some ⟨vb,0,none⟩) 1 1]).run Tryz.prog W1=.ok (goInt 1) (W1.setCells w.heap.size (i*4) (encE e)):=fun ty dc=>by
  have:=oD W1 23 22 ty Tryz.underlying23 w.heap.size (i*4) (l.length+1-i) dc ⟨vb,0,none⟩ 1 1 [e] (by simp only [Nat.min_def,List.length_singleton];split <;> omega)
   (fun j v hj=>by rw [Addr.add_lit,Nat.zero_add];exact hcellv j v (by simpa using hj))
   (fun j hj=>by simp at hj;exact hO1.there (by omega)) (fun j _=>hO1.frozen _)
  simpa using this
 have hO2:Own (W1.setCells w.heap.size (i*4) (encE e)) w.heap.size G (l.take i++[e]):=by
  have:=hO1.over (ns:=[e]) (j:=i) (by omega) (by simp;omega)
  rw [List.take_of_length_le (by omega),List.drop_of_length_le (by simp [hli]),List.append_nil] at this
  simpa using this
 obtain ⟨W2,hW2⟩:∃ W2,W2=W1.setCells w.heap.size (i*4) (encE e):=⟨_,rfl⟩
 have hcellg2:∀ j u,((l.drop i).flatMap encE)[j]?=some u→W2.cell? ⟨g,i*4+j,none⟩=some u:=fun j u hu=>by
  rw [hW2,World.cell?_setCells_out _ _ _ _ ⟨g,i*4+j,none⟩ (fun h _=>by simp at h;omega)]
  exact hcellg j u hu
 rw [← hW2] at hO2 hcpA
 have hcpB:∀ ty dc sc,(Builtin.copy_ #[23,23] ty #[.slice (some ⟨w.heap.size,(i+1)*4,none⟩) (l.length+1-(i+1)) dc,.slice (some ⟨g,i*4,none⟩) (l.length-i) sc]).run Tryz.prog W2.drew=.ok (goInt ((l.length-i:Nat):Int)) (W2.drew.setCells w.heap.size ((i+1)*4) ((l.drop i).flatMap encE)):=fun ty dc sc=>by
  have:=oD W2.drew 23 23 ty Tryz.underlying23 w.heap.size ((i+1)*4) (l.length+1-(i+1)) dc ⟨g,i*4,none⟩ (l.length-i) sc (l.drop i) (by rw [List.length_drop];simp only [Nat.min_def];split <;> omega)
   (fun j v hj=>by rw [Addr.add_lit];exact hcellg2 j v hj)
   (fun j hj=>by rw [List.length_drop] at hj;exact hO2.there (by omega)) (fun j _=>hO2.frozen _)
  rw [List.length_drop] at this
  exact this
 have HO:Aside (Own (W2.drew.setCells w.heap.size ((i+1)*4) ((l.drop i).flatMap encE)) w.heap.size G (l.take i++e::l.drop i)):=by
  have:=(hO2.kept (w':=W2.drew) rfl).over (ns:=l.drop i) (j:=i+1) (by simp [hli]) (by rw [List.length_drop];omega)
  have hd:(l.take i++[e]).drop (i+1+(l.drop i).length)=[]:=List.drop_of_length_le (by simp [hli])
  rw [List.take_of_length_le (by simp [hli]),hd] at this
  show Own _ _ _ _
  simpa using this
 have HG:Aside (w.grownBy (W2.drew.setCells w.heap.size ((i+1)*4) ((l.drop i).flatMap encE)) (some g)):=by
  have key:∀ (vs:List Value) (o:Nat) (W:World),w.grownBy W (some g)→w.grownBy (W.setCells w.heap.size o vs) (some g):=by
   intro vs
   induction vs with
   | nil=>intro o W h;exact h
   | cons v r ih =>
    intro o W h
    exact ih (o+1) _ ⟨h.os,h.tape,h.output,by simp [World.setCell];exact h.size,fun k hk hnn=>(Below.heap_setCell _ _ _ _ (by show k≠w.heap.size;omega)).trans (h.block k hk hnn)⟩
  refine key _ _ _ (bf (W:=W2) ?_ (Below.refl _ _).drew)
  rw [hW2];exact key _ _ _ hgb1
 have HN:Aside (l.length+1=(l.take i++e::l.drop i).length):=by show _=_;simp;omega
 generalize l.length=n at *
 have mixed:Tryz.prog.follows .mixedOrders=true:=by kernel_rfl
 have hz2':((i:Int) == (n:Int))=false:=beq_eq_false_iff_ne.2 (by omega)
 have hz3:(cap:Int)<(n:Int)+1:=by omega
 have hw1:IntKind.i64.wrap ((i:Int)+1)=(i:Int)+1:=by rw [IntKind.wrap_i64];omega
 have hb1:(0:Int)≤(i:Int)+1:=by omega
 have hin:i≤n:=by omega
 have htn:((i:Int)+1).toNat=i+1:=by omega
 have hb3:(i:Int)≤(n:Int):=by omega
 have hGi:¬ (G=i):=by omega
 have hGim:¬ (G=i+1):=by omega
 have hci:¬ (cap=i):=by omega
 unfold maxLen at hGm
 have HD:Aside (W1=w.drew.alloc (.cells ROW 53)):=hW1
 clear hO hO1 hO2 hcellv hcellg hcellg2 hold hROW hG hli hgb1 hW1 hW1' hW2 hv hi0 hz0 hz1 hz2
 go_enter Tryz.func214,Tryz.ntmps214
 go_wp2_with (first
  | (at_builtin;refine Lib.wpList_append_run _ rfl _ _ 23 3 rfl _ _ rfl rfl _ _ (hrz0 _) ?_)
  | (at_builtin;refine wpList_copy_runI _ rfl _ _ 23 22 rfl _ _ rfl rfl (hcpA _ _) ?_))
 go_region_law_o (refine step_copy_runI rfl _ _ 23 23 rfl (.slice (some ⟨w.heap.size,(i+1)*4,none⟩) (n+1-(i+1)) (G-(i+1))) (.slice (some ⟨g,i*4,none⟩) (n-i) (cap-i)) (by simp [Act.eval,Act.put]) (by simp [Act.eval,Act.put]) (hcpB _ _ _) ?_)
 go_wp2
 go_ret
 exact ⟨w.heap.size,G,by rw [← HN.out];rfl,HO.out,.inr (Nat.le_refl _),HG.out⟩
theorem qg (l:List Ent) (e:Ent) (i g cap:Nat) (w:World) (hO:Own w g cap l) (vb:Nat) (hb:w.heap[vb]?=some (.cells (encE e).toArray 53 (0,0))) (hvb:vb≠g) (hi:i≤l.length) (hn:l.length≤10000) :
  Calls Tryz.prog 214 #[.slice (some ⟨g,0,none⟩) l.length cap,.int .i64 i,.slice (some ⟨vb,0,none⟩) 1 1] w (lH (l.take i++e::l.drop i) g w):=by
 have hv:∀ j u,(encE e)[j]?=some u→w.cell? ⟨vb,j,none⟩=some u:=fun j u hu=>by
  simp only [World.cell?,hb]
  simpa using hu
 by_cases h1:i<l.length
 ·by_cases h2:l.length+1≤cap
  ·exact yV l e i g cap w hO vb hb hvb h1 h2 hn
  ·exact Ac l e i g cap w hO vb hv h1 h2 hn
 ·obtain rfl:i=l.length:=by omega
  rw [List.take_length,List.drop_length]
  exact Cv l e g cap w hO vb hv hn
def Rows (w:World) (base:Nat) (v:Value) (l:List Ent):Prop:=w.ownsRow base 53 4 v l.length (l.flatMap encE)
theorem Rows.nil (w:World) (base:Nat):Rows w base (.slice none 0 0) []:=World.ownsRow_nil _ _ _ _
theorem Rows.mono {w:World} {base base':Nat} {v:Value} {l:List Ent} (h:Rows w base v l) (hb:base'≤base):Rows w base' v l:=by
 refine ⟨h.1,h.2.imp id ?_⟩
 rintro ⟨g,cap,cur,e,hg,r⟩
 exact ⟨g,cap,cur,e,Nat.le_trans hb hg,r⟩
theorem Rows.below {w w':World} {base:Nat} {v:Value} {l:List Ent} (h:Rows w base v l) (hb:Below w.heap.size w w'):Rows w' base v l:=by
 refine ⟨h.1,h.2.imp id ?_⟩
 rintro ⟨g,cap,cur,e,hg,hh,r⟩
 have hlt:g<w.heap.size:=by
  rcases Nat.lt_or_ge g w.heap.size with h' | h'
  ·exact h'
  ·rw [Array.getElem?_eq_none h'] at hh;cases hh
 exact ⟨g,cap,cur,e,hg,by rw [hb.block g hlt];exact hh,r⟩
theorem Rows.form {w:World} {base:Nat} {v:Value} {l:List Ent} (h:Rows w base v l):∃ p c,v=.slice p l.length c∧Lies w p l∧l.length≤c∧(p=none→c=0):=by
 by_cases hv:v=.slice none 0 0
 ·have hl:l=[]:=by
   obtain ⟨h1,⟨_,h2⟩ | ⟨g,cap,cur,hv',_⟩⟩:=h
   ·exact List.eq_nil_of_length_eq_zero h2
   ·rw [hv'] at hv;cases hv
  subst hl
  exact ⟨none,0,hv,Lies.nil _ _,Nat.le_refl _,fun _=>rfl⟩
 ·obtain ⟨g,c,e,_,ho⟩:=Own.iC h hv rfl
  exact ⟨_,c,e,ho.lies,ho.len,fun h=>by cases h⟩
theorem jE (W:World) (y:Ent) (H:Nat) (hH:H=W.heap.size):∀ j u,(encE y)[j]?=some u→(W.alloc (.cells #[.string y.path,.int .i64 y.kind,.string y.text,.bool y.opq] 53)).cell? ((⟨H,0,none⟩:Addr).add j)=some u:=by
 subst hH
 intro j u h
 have hj:=lM h
 obtain rfl | rfl | rfl | rfl:j=0∨j=1∨j=2∨j=3:=by omega
 all_goals (simp [encE] at h;subst h;rw [Addr.add_lit];simp)
def uH (l:List Ent) (w:World) (e:Ending) (w':World):Prop:=(∃ v,e=.returned v∧Rows w' w.heap.size v l)∧Below w.heap.size w w'
theorem jR {ops:Array Oper} {rest:List Oper} {o:Oper} {a:Act} {Q:Exit→Act→World→Prop} (X:World) (y:Ent) (hgd:o.guard=none) (s x:Operand)
  (ho:o.op=.call { callee:=.builtin .append,args:=#[s,x],argTypes:=#[23,23] }) (base:Nat) (v:Value) (l:List Ent) (hs:a.eval s=v) (hrow:Rows X base v l) (hlen:l.length≤20000) (hbase:base≤X.heap.size)
  (H:Nat) (hH:H=X.heap.size) (hx:a.eval x=.slice (some ⟨H,0,none⟩) 1 1)
  (h:∀ v' w',Rows w' base v' (l++[y])→Below base X w'→(∀ ad:Addr,ad.block<X.heap.size→(∀ g,v.ownBlock=some g→ad.block≠g)→w'.cell? ad=X.cell? ad)→X.heap.size≤w'.heap.size→wpList Tryz.prog ops Q rest (a.put o.dst v') w') :
  wpList Tryz.prog ops Q (o::rest) a (X.alloc (.cells #[.string y.path, .int .i64 y.kind, .string y.text, .bool y.opq] 53)):=by
 obtain ⟨i0,hi,hz0,hz1,hz2⟩:=nI
 refine wpList_append_own _ hgd s x 23 ho base 53 i0 _ 4 48 Tryz.underlying23 hi hz0 hz1 hz2 rfl (by decide) _ _ _ hs (World.ownsRow.alloc hrow _) _ 1 1 (encE y) hx rfl (jE _ _ _ hH) (fun u hu=>gq (t:=[y]) (by simpa using hu)) (by unfold maxLen;omega) (by omega) (by simp;omega) ?_
 intro v' w' hown hgrow _
 have hsz:X.heap.size≤w'.heap.size:=by have:=hgrow.size;simp at this;omega
 refine h v' w' (by simpa [Rows] using hown) (((Below.refl base X).alloc hbase _).grown hgrow (by simp;omega) (fun j hj=>(World.ownsRow.lt hrow j hj).1)) (fun ad had hne=>?_) hsz
 have h1:w'.cell? ad=(X.alloc (.cells #[.string y.path, .int .i64 y.kind, .string y.text, .bool y.opq] 53)).cell? ad:=World.cell?_of_block (hgrow.block _ (by simp;omega) (fun e=>hne _ e.symm rfl))
 rw [h1]
 exact ((Grown.refl X).alloc _).cell had
end Go.Proofs.YthfeoiffoeagkaaGreatDoor
