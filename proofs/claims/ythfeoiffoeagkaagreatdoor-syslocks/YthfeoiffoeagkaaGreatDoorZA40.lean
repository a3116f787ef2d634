/-
  Rows of calls.
-/
import Derived.Test.YthfeoiffoeagkaaGreatDoorZA35
namespace Go.Proofs.YthfeoiffoeagkaaGreatDoor
open Go.RowKit PM Go.Sort
set_option linter.unusedVariables false
theorem mK {t:List Cl} {u:Value} (h:u∈t.flatMap encC):u.oneCell'=true:=by
 obtain ⟨e,_,he⟩:=List.mem_flatMap.1 h
 simp [encC] at he
 rcases he with rfl | rfl | rfl | rfl | rfl | rfl | rfl | rfl | rfl <;> rfl
theorem Ia:∃ i0,Tryz.prog.info? 50=some i0∧i0.zero=some (.agg #[.int .i64 0,.int .i64 0,.int .i64 0,.int .i64 0,.int .i64 0,.string ⟨#[]⟩,.string ⟨#[]⟩,.string ⟨#[]⟩,.bool false])∧i0.size=9∧i0.bytes=96:=by
 have h:(Tryz.prog.info? 50).map (fun i=>(i.zero,i.size,i.bytes))=some (some (.agg #[.int .i64 0,.int .i64 0,.int .i64 0,.int .i64 0,.int .i64 0,.string ⟨#[]⟩,.string ⟨#[]⟩,.string ⟨#[]⟩,.bool false]),9,96):=by kernel_rfl
 cases hi:Tryz.prog.info? 50 with
 | none=>rw [hi] at h;cases h
 | some i0 =>
  rw [hi] at h
  simp only [Option.map_some,Option.some.injEq,Prod.mk.injEq] at h
  exact ⟨i0,rfl,h.1,h.2.1,h.2.2⟩
def dK (w:World) (base:Nat) (v:Value) (l:List Cl):Prop:=w.ownsRow base 50 9 v l.length (l.flatMap encC)
theorem dK.nil (w:World) (base:Nat):dK w base (.slice none 0 0) []:=World.ownsRow_nil _ _ _ _
theorem dK.own {w:World} {base:Nat} {v:Value} {l:List Cl} (h:dK w base v l) {g:Nat} (hg:v.ownBlock=some g):base≤g∧∃ cur,w.heap[g]?=some (.cells cur 50 (0,0)):=by
 obtain ⟨_,⟨e,_⟩ | ⟨g',cap,cur,e,hb,hh,_⟩⟩:=h
 ·rw [e] at hg;cases hg
 ·rw [e] at hg
  simp [Value.ownBlock] at hg
  subst hg
  exact ⟨hb,cur,hh⟩
theorem dK.at {w w':World} {base:Nat} {v:Value} {l:List Cl} (h:dK w base v l) (hk:∀ g,v.ownBlock=some g→w'.heap[g]?=w.heap[g]?):dK w' base v l:=by
 refine ⟨h.1,h.2.imp id ?_⟩
 rintro ⟨g,cap,cur,e,hg,hh,r⟩
 exact ⟨g,cap,cur,e,hg,(hk g (by rw [e];rfl)).trans hh,r⟩
theorem mJ:∀ (t:List Cl),(t.flatMap encC).length=t.length*9
 | []=>rfl
 | y::r=>by rw [List.flatMap_cons,List.length_append,mJ r,List.length_cons];show 9+_=_;omega
theorem yu {ops:Array Oper} {rest:List Oper} {o:Oper} {a:Act} {Q:Exit→Act→World→Prop} (Z:World) (H:Nat) (ys:List Cl) (m:Nat) (hm:m=ys.length) (h0:0<m) (h8:m≤100) (hgd:o.guard=none) (s x:Operand)
  (ho:o.op=.call { callee:=.builtin .append,args:=#[s,x],argTypes:=#[27,27] }) (base:Nat) (v:Value) (l:List Cl) (hs:a.eval s=v) (hrow2:dK Z base v l) (hlen:l.length≤20000) (hbase:base≤Z.heap.size)
  (hx:a.eval x=.slice (some ⟨H,0,none⟩) m m)
  (hnew:∀ j u,(ys.flatMap encC)[j]?=some u→Z.cell? ((⟨H,0,none⟩:Addr).add j)=some u)
  (h:∀ v' w',dK w' base v' (l++ys)→Z.heap.size≤w'.heap.size→(∀ b,b<Z.heap.size→v.ownBlock≠some b→w'.heap[b]?=Z.heap[b]?)→(∀ g,v'.ownBlock=some g→v.ownBlock=some g∨Z.heap.size≤g)→Below base Z w'→wpList Tryz.prog ops Q rest (a.put o.dst v') w') :
  wpList Tryz.prog ops Q (o::rest) a Z:=by
 obtain ⟨i0,hi,hz0,hz1,hz2⟩:=Ia
 have hB0:Below base Z Z:=Below.refl base Z
 have hcl:(ys.flatMap encC).length=m*9:=by rw [hm];exact mJ ys
 obtain ⟨hl1,⟨hv,hn0⟩ | ⟨g,cap,cur,hv,hg,hh,hnc,hmx,hcs,ht⟩⟩:=id hrow2
 ·refine wpList_append_grows Z hgd s x 27 ho 50 i0 _ 9 96 Tryz.underlying27 hi hz0 hz1 hz2 rfl (by decide) none 0 0 [] (by rw [hs,hv]) (fun _=>⟨rfl,rfl⟩) rfl nofun ⟨H,0,none⟩ m m (ys.flatMap encC) hx hcl hnew (fun u hu=>mK (t:=ys) hu) (by omega) (by unfold maxLen;omega) (by omega) ?_
  intro v' w' hown hgrow
  have hl:l=[]:=List.eq_nil_of_length_eq_zero hn0
  subst hl
  have hR:dK w' Z.heap.size v' ys:=by rw [Nat.zero_add,hm] at hown;exact hown
  refine h v' w' ⟨hR.1,hR.2.imp id (fun ⟨g,c,cu,e,h1,r⟩=>⟨g,c,cu,e,by omega,r⟩)⟩ (by have:=hgrow.size;omega) (fun b hb hne=>(hgrow.block b (by omega) (by simp))) (fun g hg=>.inr (by have:=(hR.own hg).1;omega)) (hB0.grown hgrow (by omega) (fun k hk=>by simp at hk))
 ·rcases Nat.lt_or_ge cap (l.length+m) with hfull | hroom
  ·refine wpList_append_grows Z hgd s x 27 ho 50 i0 _ 9 96 Tryz.underlying27 hi hz0 hz1 hz2 rfl (by decide) (some ⟨g,0,none⟩) l.length cap (l.flatMap encC) (by rw [hs,hv]) nofun hl1 (fun b hb=>by cases hb;exact World.ownsRow.cells hrow2 (by rw [hv];rfl)) ⟨H,0,none⟩ m m (ys.flatMap encC) hx hcl hnew (fun u hu=>mK (t:=ys) hu) hfull (by unfold maxLen;omega) (by omega) ?_
   intro v' w' hown hgrow
   have hR:dK w' Z.heap.size v' (l++ys):=by rw [hm] at hown;simpa [dK] using hown
   refine h v' w' ⟨hR.1,hR.2.imp id (fun ⟨g,c,cu,e,h1,r⟩=>⟨g,c,cu,e,by omega,r⟩)⟩ (by have:=hgrow.size;omega) (fun b hb hne=>(hgrow.block b (by omega) (by simp))) (fun g hg=>.inr (by have:=(hR.own hg).1;omega)) (hB0.grown hgrow (by omega) (fun k hk=>by simp at hk))
  ·refine wpList_plain hgd fun K hK=>?_
   obtain ⟨v',w',hr,h2,h3,_⟩:=run_append_own (P:=Tryz.prog) Z base 27 o.type 50 i0 _ 9 96 Tryz.underlying27 hi hz0 hz1 hz2 rfl (by decide) v l.length (l.flatMap encC) hrow2 ⟨H,0,none⟩ m m (ys.flatMap encC) hcl hnew (fun u hu=>mK (t:=ys) hu) (by unfold maxLen;omega) (by omega) (by omega)
   have hr2:=run_append_room_cells (P:=Tryz.prog) Z 27 o.type 50 i0 Tryz.underlying27 hi g 0 l.length cap ⟨H,0,none⟩ m m (ys.flatMap encC) (by rw [hz1];exact hcl) hnew (fun u hu=>mK (t:=ys) hu) hroom (fun j hj=>by
    have hj:j<m*9:=by rw [hcl] at hj;exact hj
    rw [hz1]
    have:l.length*9+j<cur.size:=by omega
    rw [Nat.zero_add]
    simp [World.cell?,hh,this]) (fun j hj=>by simp [World.frozen?,hh])
   rw [← hv] at hr2
   have hev:v'=.slice (some ⟨g,0,none⟩) (l.length+m) cap:=by
    rw [hr] at hr2
    injection hr2
   have hR:dK w' base v' (l++ys):=by rw [hm] at h2;simpa [dK] using h2
   unfold Oper.wp execOp
   simp only [ho,resolve,invoke,builtin,Sem.run_bind,Sem.run_pure,Result.andThen_ok,List.map_toArray,List.map_cons,List.map_nil,hs,hx,hr]
   refine hK _ _ (h v' w' hR (by have:=h3.size;omega) (fun b hb hne=>(h3.block b (by omega) (fun e=>hne e.symm))) (fun g' hg'=>.inl ?_) (hB0.grown h3 (by omega) (fun k hk=>(World.ownsRow.lt hrow2 k hk).1)))
   rw [hev] at hg'
   rw [hv,← hg']
   rfl
theorem oC {W:World} {base:Nat} {v:Value} {l:List Cl} (h:dK W base v l) (hl:l≠[]):∃ b c,v=.slice (some ⟨b,0,none⟩) l.length c∧fC W (some ⟨b,0,none⟩) l:=by
 obtain ⟨hl1,⟨hv,hn0⟩ | ⟨g,cap,cur,hv,hg,hh,hnc,hmx,hcs,ht⟩⟩:=h
 ·exact absurd (List.eq_nil_of_length_eq_zero hn0) hl
 ·refine ⟨g,cap,hv,.inr ⟨g,0,rfl,(Array.getElem?_eq_some_iff.1 hh).1,fun i c hc j u hu=>?_⟩⟩
  have h1:=Bd hc hu
  rw [← ht] at h1
  simp only [World.cell?,hh]
  have h2:cur.toList[i*9+j]?=some u:=by
   rw [List.getElem?_take] at h1
   split at h1
   ·exact h1
   ·cases h1
  simp only [Nat.zero_add]
  simpa using h2
theorem dK.below {X Z:World} {B:Nat} {v:Value} {G:List Cl} (h:dK X B v G) (hB:Below X.heap.size X Z):dK Z B v G:=h.at fun g hg=>hB.block g (by obtain ⟨_,cur,hh⟩:=h.own hg;exact (Array.getElem?_eq_some_iff.1 hh).1)
theorem sP {Z:World} {H:Nat} {c:Cl} (h:Z.heap[H]?=some (.cells #[.int .i64 c.kind,.int .i64 c.owner,.int .i64 c.fd,.int .i64 c.n,.int .i64 c.m,.string c.path,.string c.to,.string c.text,.bool c.alone] 50)):∀ j u,([c].flatMap encC)[j]?=some u→Z.cell? ((⟨H,0,none⟩:Addr).add j)=some u:=by
 intro j u hu
 rw [Addr.add_lit]
 simp only [World.cell?,h,Nat.zero_add]
 simp [encC] at hu
 simpa using hu
theorem blk1 (X:World) (a b:Obj):((X.alloc a).alloc b).heap[X.heap.size]?=some a:=iI rfl
theorem blk2 (X:World) (a b:Obj):((X.alloc a).alloc b).heap[X.heap.size+1]?=some b:=dY rfl
theorem sj {ops:Array Oper} {o:Oper} {a:Act} {K:Act→World→Prop} {Q:Exit→Act→World→Prop} {E:Prop} {Z:World} (H:Nat) (y:Cl) (hgd:o.guard=none) (s x:Operand)
  (ho:o.op=.call { callee:=.builtin .append,args:=#[s,x],argTypes:=#[27,27] }) (base:Nat) (v:Value) (l:List Cl) (hs:a.eval s=v) (hrow:dK Z base v l) (hlen:l.length≤20000) (hbase:base≤Z.heap.size)
  (hx:a.eval x=.slice (some ⟨H,0,none⟩) 1 1) (hnew:∀ j u,([y].flatMap encC)[j]?=some u→Z.cell? ((⟨H,0,none⟩:Addr).add j)=some u)
  (h:∀ v' w',dK w' base v' (l++[y])→Z.heap.size≤w'.heap.size→(∀ b,b<Z.heap.size→v.ownBlock≠some b→w'.heap[b]?=Z.heap[b]?)→Below base Z w'→K (a.put o.dst v') w') :
  if Region.wanted o (yielded ops a.tmps)=true then Oper.wp Tryz.prog o a Z K Q else E:=by
 have hw:Region.wanted o (yielded ops a.tmps)=true:=by simp [Region.wanted,hgd]
 rw [if_pos hw]
 obtain ⟨i0,hi,hz0,hz1,hz2⟩:=Ia
 exact wp_append_own Z s x 27 ho base 50 i0 _ 9 96 Tryz.underlying27 hi hz0 hz1 hz2 rfl (by decide) v l.length (l.flatMap encC) hs hrow ⟨H,0,none⟩ 1 1 ([y].flatMap encC) hx rfl hnew (fun u hu=>mK (t:=[y]) hu) (by unfold maxLen;omega) (by omega) hbase fun v' w' h1 h2 _=>h v' w' (by simpa [dK] using h1) h2.size (fun b hb hne=>h2.block b hb (fun e=>hne e.symm)) ((Below.refl base Z).grown h2 hbase (fun k hk=>(World.ownsRow.lt hrow k hk).1))
theorem Dl (W:World) (l:List Cl) (n:Nat) (hn:n=l.length) (h8:l.length≤100) (base:Nat) (hb:base≤W.heap.size) (arr:Array Value) (harr:arr=(l.flatMap encC).toArray):dK (W.alloc (.cells arr 50)) base (.slice (some ⟨W.heap.size,0,none⟩) n n) l:=by
 subst hn harr
 exact ⟨mJ l,.inr ⟨W.heap.size,l.length,_,rfl,hb,heap_alloc_last W _,Nat.le_refl _,by unfold maxLen;omega,by rw [List.size_toArray];exact mJ l,by rw [← mJ l];exact List.take_length⟩⟩
end Go.Proofs.YthfeoiffoeagkaaGreatDoor
