/-
  Rows of answers; calls as they lie in memory; a new system.
-/
import Derived.Test.YthfeoiffoeagkaaGreatDoorZA33
import Derived.ArgAppend
namespace Go.Proofs.YthfeoiffoeagkaaGreatDoor
open Go.RowKit PM Go.Sort
set_option linter.unusedVariables false
structure Av where
 err:Int
 n:Int
 text:ByteArray
 p:Option Addr
 k:Nat
 c:Nat
def encA (y:Av):List Value:=[.int .i64 y.err,.int .i64 y.n,.string y.text,.slice y.p y.k y.c]
theorem Bc {e:Av} {i:Nat} {v:Value} (h:(encA e)[i]?=some v):i<4:=by
 have:=(List.getElem?_eq_some_iff.1 h).1;exact this
theorem Gf {t:List Av} {j i:Nat} {e:Av} {v:Value} (h:t[j]?=some e) (hv:(encA e)[i]?=some v):(t.flatMap encA)[j*4+i]?=some v:=by
 have hi:=Bc hv
 induction t generalizing j with
 | nil=>simp at h
 | cons x r ih =>
  rw [List.flatMap_cons]
  cases j with
  | zero=>simp at h;subst h;rw [List.getElem?_append_left (by show _<4;omega)];simpa using hv
  | succ j =>
   rw [List.getElem?_append_right (by show 4≤_;omega),show (j+1)*4+i-(encA x).length=j*4+i from by show (j+1)*4+i-4=_;omega]
   exact ih (by simpa using h)
theorem og {t:List Av} {u:Value} (h:u∈t.flatMap encA):u.oneCell'=true:=by
 obtain ⟨e,_,he⟩:=List.mem_flatMap.1 h
 simp [encA] at he
 rcases he with rfl | rfl | rfl | rfl <;> rfl
theorem JN:∃ i0,Tryz.prog.info? 38=some i0∧i0.zero=some (.agg #[.int .i64 0,.int .i64 0,.string ⟨#[]⟩,.slice none 0 0])∧i0.size=4∧i0.bytes=56:=by
 have h:(Tryz.prog.info? 38).map (fun i=>(i.zero,i.size,i.bytes))=some (some (.agg #[.int .i64 0,.int .i64 0,.string ⟨#[]⟩,.slice none 0 0]),4,56):=by kernel_rfl
 cases hi:Tryz.prog.info? 38 with
 | none=>rw [hi] at h;cases h
 | some i0 =>
  rw [hi] at h
  simp only [Option.map_some,Option.some.injEq,Prod.mk.injEq] at h
  exact ⟨i0,rfl,h.1,h.2.1,h.2.2⟩
def eH (w:World) (base:Nat) (v:Value) (l:List Av):Prop:=w.ownsRow base 38 4 v l.length (l.flatMap encA)
theorem eH.nil (w:World) (base:Nat):eH w base (.slice none 0 0) []:=World.ownsRow_nil _ _ _ _
theorem eH.own {w:World} {base:Nat} {v:Value} {l:List Av} (h:eH w base v l) {g:Nat} (hg:v.ownBlock=some g):base≤g∧∃ cur,w.heap[g]?=some (.cells cur 38 (0,0)):=by
 obtain ⟨_,⟨e,_⟩ | ⟨g',cap,cur,e,hb,hh,_⟩⟩:=h
 ·rw [e] at hg;cases hg
 ·rw [e] at hg
  simp [Value.ownBlock] at hg
  subst hg
  exact ⟨hb,cur,hh⟩
theorem eH.at {w w':World} {base:Nat} {v:Value} {l:List Av} (h:eH w base v l) (hk:∀ g,v.ownBlock=some g→w'.heap[g]?=w.heap[g]?):eH w' base v l:=by
 refine ⟨h.1,h.2.imp id ?_⟩
 rintro ⟨g,cap,cur,e,hg,hh,r⟩
 exact ⟨g,cap,cur,e,hg,(hk g (by rw [e];rfl)).trans hh,r⟩
theorem GZ (W:World) (y:Av):∀ j u,(encA y)[j]?=some u→(W.alloc (.cells #[.int .i64 y.err,.int .i64 y.n,.string y.text,.slice y.p y.k y.c] 38)).cell? ((⟨W.heap.size,0,none⟩:Addr).add j)=some u:=by
 intro j u h
 have hj:=Bc h
 obtain rfl | rfl | rfl | rfl:j=0∨j=1∨j=2∨j=3:=by omega
 all_goals (simp [encA] at h;subst h;rw [Addr.add_lit];simp)
theorem zX {ops:Array Oper} {rest:List Oper} {o:Oper} {a:Act} {Q:Exit→Act→World→Prop} (Z:World) (H:Nat) (y:Av) (hgd:o.guard=none) (s x:Operand)
  (ho:o.op=.call { callee:=.builtin .append,args:=#[s,x],argTypes:=#[30,30] }) (base:Nat) (v:Value) (l:List Av) (hs:a.eval s=v) (hrow2:eH Z base v l) (hlen:l.length≤20000) (hbase:base≤Z.heap.size)
  (hx:a.eval x=.slice (some ⟨H,0,none⟩) 1 1)
  (hnew:∀ j u,(encA y)[j]?=some u→Z.cell? ((⟨H,0,none⟩:Addr).add j)=some u)
  (h:∀ v' w',eH w' base v' (l++[y])→Z.heap.size≤w'.heap.size→(∀ b,b<Z.heap.size→v.ownBlock≠some b→w'.heap[b]?=Z.heap[b]?)→(∀ g,v'.ownBlock=some g→v.ownBlock=some g∨Z.heap.size≤g)→Below base Z w'→wpList Tryz.prog ops Q rest (a.put o.dst v') w') :
  wpList Tryz.prog ops Q (o::rest) a Z:=by
 obtain ⟨i0,hi,hz0,hz1,hz2⟩:=JN
 have hB0:Below base Z Z:=Below.refl base Z
 obtain ⟨hl1,⟨hv,hn0⟩ | ⟨g,cap,cur,hv,hg,hh,hnc,hm,hcs,ht⟩⟩:=id hrow2
 ·refine wpList_append_grows Z hgd s x 30 ho 38 i0 _ 4 56 Tryz.underlying30 hi hz0 hz1 hz2 rfl (by decide) none 0 0 [] (by rw [hs,hv]) (fun _=>⟨rfl,rfl⟩) rfl nofun ⟨H,0,none⟩ 1 1 (encA y) hx rfl hnew (fun u hu=>og (t:=[y]) (by simpa using hu)) (by omega) (by unfold maxLen;omega) (by omega) ?_
  intro v' w' hown hgrow
  have hl:l=[]:=List.eq_nil_of_length_eq_zero hn0
  subst hl
  have hR:eH w' Z.heap.size v' [y]:=by simpa [eH] using hown
  refine h v' w' ⟨hR.1,hR.2.imp id (fun ⟨g,c,cu,e,h1,r⟩=>⟨g,c,cu,e,by omega,r⟩)⟩ (by have:=hgrow.size;omega) (fun b hb hne=>(hgrow.block b (by omega) (by simp))) (fun g hg=>.inr (by have:=(hR.own hg).1;omega)) (hB0.grown hgrow (by omega) (fun k hk=>by simp at hk))
 ·rcases Nat.lt_or_ge cap (l.length+1) with hfull | hroom
  ·refine wpList_append_grows Z hgd s x 30 ho 38 i0 _ 4 56 Tryz.underlying30 hi hz0 hz1 hz2 rfl (by decide) (some ⟨g,0,none⟩) l.length cap (l.flatMap encA) (by rw [hs,hv]) nofun hl1 (fun b hb=>by cases hb;exact World.ownsRow.cells hrow2 (by rw [hv];rfl)) ⟨H,0,none⟩ 1 1 (encA y) hx rfl hnew (fun u hu=>og (t:=[y]) (by simpa using hu)) hfull (by unfold maxLen;omega) (by omega) ?_
   intro v' w' hown hgrow
   have hR:eH w' Z.heap.size v' (l++[y]):=by simpa [eH] using hown
   refine h v' w' ⟨hR.1,hR.2.imp id (fun ⟨g,c,cu,e,h1,r⟩=>⟨g,c,cu,e,by omega,r⟩)⟩ (by have:=hgrow.size;omega) (fun b hb hne=>(hgrow.block b (by omega) (by simp))) (fun g hg=>.inr (by have:=(hR.own hg).1;omega)) (hB0.grown hgrow (by omega) (fun k hk=>by simp at hk))
  ·refine wpList_plain hgd fun K hK=>?_
   obtain ⟨v',w',hr,h2,h3,_⟩:=run_append_own (P:=Tryz.prog) Z base 30 o.type 38 i0 _ 4 56 Tryz.underlying30 hi hz0 hz1 hz2 rfl (by decide) v l.length (l.flatMap encA) hrow2 ⟨H,0,none⟩ 1 1 (encA y) rfl hnew (fun u hu=>og (t:=[y]) (by simpa using hu)) (by unfold maxLen;omega) (by omega) (by omega)
   have hr2:=run_append_room_cells (P:=Tryz.prog) Z 30 o.type 38 i0 Tryz.underlying30 hi g 0 l.length cap ⟨H,0,none⟩ 1 1 (encA y) (by rw [hz1];rfl) hnew (fun u hu=>og (t:=[y]) (by simpa using hu)) hroom (fun j hj=>by
    have hj:j<4:=hj
    rw [hz1]
    have:l.length*4+j<cur.size:=by omega
    rw [Nat.zero_add]
    simp [World.cell?,hh,this]) (fun j hj=>by simp [World.frozen?,hh])
   rw [← hv] at hr2
   have hev:v'=.slice (some ⟨g,0,none⟩) (l.length+1) cap:=by
    rw [hr] at hr2
    injection hr2
   have hR:eH w' base v' (l++[y]):=by simpa [eH] using h2
   unfold Oper.wp execOp
   simp only [ho,resolve,invoke,builtin,Sem.run_bind,Sem.run_pure,Result.andThen_ok,List.map_toArray,List.map_cons,List.map_nil,hs,hx,hr]
   refine hK _ _ (h v' w' hR (by have:=h3.size;omega) (fun b hb hne=>(h3.block b (by omega) (fun e=>hne e.symm))) (fun g' hg'=>.inl ?_) (hB0.grown h3 (by omega) (fun k hk=>(World.ownsRow.lt hrow2 k hk).1)))
   rw [hev] at hg'
   rw [hv,← hg']
   rfl
theorem BP {ops:Array Oper} {rest:List Oper} {o:Oper} {a:Act} {Q:Exit→Act→World→Prop} (X:World) (y:Av) (hgd:o.guard=none) (s x:Operand)
  (ho:o.op=.call { callee:=.builtin .append,args:=#[s,x],argTypes:=#[30,30] }) (base:Nat) (v:Value) (l:List Av) (hs:a.eval s=v) (hrow:eH X base v l) (hlen:l.length≤20000) (hbase:base≤X.heap.size)
  (hx:a.eval x=.slice (some ⟨X.heap.size,0,none⟩) 1 1)
  (h:∀ v' w',eH w' base v' (l++[y])→X.heap.size≤w'.heap.size→(∀ b,b<X.heap.size→v.ownBlock≠some b→w'.heap[b]?=X.heap[b]?)→(∀ g,v'.ownBlock=some g→v.ownBlock=some g∨X.heap.size≤g)→Below base X w'→wpList Tryz.prog ops Q rest (a.put o.dst v') w') :
  wpList Tryz.prog ops Q (o::rest) a (X.alloc (.cells #[.int .i64 y.err,.int .i64 y.n,.string y.text,.slice y.p y.k y.c] 38)):=by
 exact zX _ X.heap.size y hgd s x ho base v l hs (World.ownsRow.alloc hrow _) hlen (by simp;omega) hx (GZ X y) fun v' w' h1 h2 h3 h4 h5=>h v' w' h1 (by simp at h2;omega) (fun b hb hne=>(h3 b (by simp;omega) hne).trans (((Grown.refl X).alloc _).below.block b hb)) (fun g hg=>(h4 g hg).imp id (fun e=>by simp at e;omega)) (((Below.refl base X).alloc hbase _).trans h5)
theorem Mine.sp {S:Nat} {s:Sy} {L:Lay6} {b:Nat} (h:Mine S s L b):Sp S s L b:=by
 rcases h with e | h
 ·exact .inl (.inl e)
 ·exact .inr h
theorem St.step {S:Nat} {s s':Sy} {L L':Lay6} {W W':World} {F:World→Prop} (h:St (Sp S s L) W F) (hk:Keep (Mine S s L) W W') (hs:∀ b,Sp S s' L' b→Sp S s L b∨W.heap.size≤b):St (Sp S s' L') W' F:=fun Y hY =>
 h Y ⟨Nat.le_trans hk.size hY.size,fun b hb hn=>(hY.block b (Nat.lt_of_lt_of_le hb hk.size) (fun h2=>(hs b h2).elim hn (fun h3=>by omega))).trans (hk.block b hb (fun hm=>hn hm.sp))⟩
theorem St.row {S:Nat} {s:Sy} {L:Lay6} {W W':World} {F:World→Prop} {G:Nat→Prop} (h:St (Sp S s L) W F) (hk:Keep L.ex W W') (hG:∀ b,G b→W.heap.size≤b):St (Sp S s { L with ex:=fun b=>G b∨L.ex b }) W' F:=fun Y hY =>
 h Y ⟨Nat.le_trans hk.size hY.size,fun b hb hn=>(hY.block b (Nat.lt_of_lt_of_le hb hk.size) (fun h2=>by
  rcases h2 with (e | (hg | hx)) | h2
  ·exact hn (.inl (.inl e))
  ·have:=hG b hg;omega
  ·exact hn (.inl (.inr hx))
  ·exact hn (.inr h2))).trans (hk.block b hb (fun hx=>hn (.inl (.inr hx))))⟩
theorem aj.Ih {base:Nat} {W W':World} {S:Nat} {s:Sy} {L:Lay6} {G:Nat→Prop} (h:aj base W S s L) (hk:Keep (fun b=>L.ex b∧¬ Mine S s L b) W W') (hG:∀ b,G b→W.heap.size≤b∧b<W'.heap.size):aj base W' S s { L with ex:=fun b=>G b∨L.ex b }:=by
 have hx:Keep L.ex W W':=hk.weak fun b hb=>hb.1
 have hbW:base≤W.heap.size:=Nat.le_trans h.base.1 (Nat.le_of_lt h.lt)
 refine ⟨?_,fun j o ho=>?_,fun i f hf=>?_,h.injO,h.injF,fun Y hY=>?_,h.up,h.low,h.scap,h.snil,h.val1,h.val2,fun b hb=>?_,h.base⟩
 ·obtain ⟨arr,ha,r⟩:=h.blk
  exact ⟨arr,(hk.block S h.lt (fun e=>e.2 (.inl rfl))).trans ha,r⟩
 ·have hj:=(List.getElem?_eq_some_iff.1 ho).1
  exact (hk.block _ (h.olt hj) (fun e=>e.2 (.inr (.inl ⟨j,hj,rfl⟩)))).trans (h.opn j o ho)
 ·have hi:=(List.getElem?_eq_some_iff.1 hf).1
  exact (hk.block _ (h.flt hi) (fun e=>e.2 (.inr (.inr ⟨i,hi,rfl⟩)))).trans (h.fil i f hf)
 ·have hd:=St.row h.data hx (fun b hb=>(hG b hb).1) Y hY
  exact ⟨hd.un,hd.seen,hd.locks⟩
 ·rcases hb with hb | hb
  ·exact ⟨Nat.le_trans hbW (hG b hb).1,(hG b hb).2⟩
  ·exact ⟨(h.exb b hb).1,Nat.lt_of_lt_of_le (h.exb b hb).2 hk.size⟩
theorem ug {base:Nat} {W:World} {S:Nat} {s:Sy} {L:Lay6} (h:aj base W S s L) {g:Nat} {cur:Array Value} (hh:W.heap[g]?=some (.cells cur 38 (0,0))):¬ Mine S s L g:=by
 rintro (e | ⟨j,hj,e⟩ | ⟨i,hi,e⟩)
 ·obtain ⟨arr,ha,_⟩:=h.blk
  rw [← e,hh] at ha
  injection ha with ha;injection ha with _ ha _;exact absurd ha (by decide)
 ·have ha:=h.opn j _ (List.getElem?_eq_getElem hj)
  rw [← e,hh] at ha
  injection ha with ha;injection ha with _ ha _;exact absurd ha (by decide)
 ·have ha:=h.fil i _ (List.getElem?_eq_getElem hi)
  rw [← e,hh] at ha
  injection ha with ha;injection ha with _ ha _;exact absurd ha (by decide)
def AvAt (sp:Nat→Prop) (W:World) (an:An) (y:Av):Prop:=y.err=an.err∧y.n=an.n∧y.text=an.text∧∃ bs:List ByteArray,y.k=bs.length∧bs.map (·.data.toList)=an.names∧bs.length≤y.c∧(y.p=none→y.c=0)∧St sp W (fun Y=>fI Y y.p bs)
theorem lZ.av {sp:Nat→Prop} {W:World} {an:An} {p:Option Addr} {n c:Nat} (h:lZ sp W an (.agg #[.int .i64 an.err,.int .i64 an.n,.string an.text,.slice p n c])):AvAt sp W an ⟨an.err,an.n,an.text,p,n,c⟩:=by
 obtain ⟨p',c',bs,e,h1,h2,h3,h4⟩:=h
 simp at e
 obtain ⟨rfl,rfl,rfl⟩:=e
 exact ⟨rfl,rfl,rfl,bs,rfl,h1,h2,h3,h4⟩
structure gY (base:Nat) (W:World) (S:Nat) (s:Sy) (L:Lay6) (v:Value) (anl:List An) (row:List Av):Prop where
 at':aj base W S s L
 rows:eH W base v row
 own:∀ g,v.ownBlock=some g→L.ex g
 len:row.length=anl.length
 each:∀ (i:Nat) (an:An) (y:Av),anl[i]?=some an→row[i]?=some y→AvAt (Sp S s L) W an y
theorem gY.kept {base:Nat} {W W':World} {S:Nat} {s:Sy} {L:Lay6} {v:Value} {anl:List An} {row:List Av} (h:gY base W S s L v anl row) (hB:Below W.heap.size W W'):gY base W' S s L v anl row:=by
 refine ⟨h.at'.kept hB,h.rows.at (fun g hg=>?_),h.own,h.len,fun i an y h1 h2=>?_⟩
 ·obtain ⟨_,cur,hh⟩:=h.rows.own hg
  exact hB.block g (Array.getElem?_eq_some_iff.1 hh).1
 ·obtain ⟨e1,e2,e3,bs,e4,e5,e6,e7,e8⟩:=h.each i an y h1 h2
  exact ⟨e1,e2,e3,bs,e4,e5,e6,e7,e8.on (Keep.of_below _ hB)⟩
theorem gY.answered {base:Nat} {W w4:World} {S:Nat} {s s':Sy} {L:Lay6} {v:Value} {anl:List An} {row:List Av} {an:An} {p:Option Addr} {n c:Nat} (h:gY base W S s L v anl row) (hd:dN base S s L s' an W (.returned (.agg #[.int .i64 an.err,.int .i64 an.n,.string an.text,.slice p n c])) w4):Below base W w4∧W.heap.size≤w4.heap.size∧eH w4 base v row ∧
  ∀ v' w5,eH w5 base v' (row++[⟨an.err,an.n,an.text,p,n,c⟩])→w4.heap.size≤w5.heap.size→(∀ b,b<w4.heap.size→v.ownBlock≠some b→w5.heap[b]?=w4.heap[b]?)→(∀ g,v'.ownBlock=some g→v.ownBlock=some g∨w4.heap.size≤g)→∃ L':Lay6,(∀ b,L.ex b→L'.ex b)∧gY base w5 S s' L' v' (anl++[an]) (row++[⟨an.err,an.n,an.text,p,n,c⟩]):=by
 obtain ⟨v0,L4,e0,q1,q2,q3,q4,q5,q6⟩:=hd
 injection e0 with e0
 subst e0
 have hrow4:eH w4 base v row:=h.rows.at (fun g hg=>by
  obtain ⟨_,cur,hh⟩:=h.rows.own hg
  exact q5.block g (Array.getElem?_eq_some_iff.1 hh).1 (ug h.at' hh))
 refine ⟨q3,q5.size,hrow4,fun v' w5 hR hsz hk hg=>?_⟩
 have hK:Keep (fun b=>L4.ex b∧¬ Mine S s' L4 b) w4 w5:=⟨hsz,fun b hb hn=>hk b hb (fun e=>hn ⟨q4 b (h.own b e),by
  obtain ⟨_,cur,hh⟩:=hrow4.own e
  exact ug q1 hh⟩)⟩
 have hKx:Keep L4.ex w4 w5:=hK.weak fun b hb=>hb.1
 refine ⟨{ L4 with ex:=fun b=>(v'.ownBlock=some b∧w4.heap.size≤b)∨L4.ex b },fun b hb=>.inr (q4 b hb),⟨q1.Ih hK (fun b hb=>⟨hb.2,?_⟩),hR,fun g hg'=>?_,by simp [h.len],fun i a y h1 h2=>?_⟩⟩
 ·obtain ⟨_,cur,hh⟩:=hR.own hb.1
  exact (Array.getElem?_eq_some_iff.1 hh).1
 ·rcases hg g hg' with e | hl
  ·exact .inr (q4 g (h.own g e))
  ·exact .inl ⟨hg',hl⟩
 ·have hG:∀ b,(v'.ownBlock=some b∧w4.heap.size≤b)→w4.heap.size≤b:=fun b hb=>hb.2
  rcases iK h1 with ⟨e,rfl⟩ | ⟨hi,h1⟩
  ·rcases iK h2 with ⟨_,rfl⟩ | ⟨hi2,_⟩
   ·obtain ⟨e1,e2,e3,bs,e4,e5,e6,e7,e8⟩:=q2.av
    exact ⟨e1,e2,e3,bs,e4,e5,e6,e7,St.row e8 hKx hG⟩
   ·have:=h.len;omega
  ·rcases iK h2 with ⟨e,_⟩ | ⟨_,h2⟩
   ·have:=h.len;omega
   ·obtain ⟨e1,e2,e3,bs,e4,e5,e6,e7,e8⟩:=h.each i a y h1 h2
    exact ⟨e1,e2,e3,bs,e4,e5,e6,e7,St.row (e8.step q5 q6) hKx hG⟩
namespace PM
noncomputable def Sy.run (s:Sy):List Cl→Sy × List An
 | []=>(s,[])
 | c::l=>(((s.answer c).1.run l).1,(s.answer c).2::((s.answer c).1.run l).2)
theorem zC (s:Sy) (l:List Cl) (c:Cl):s.run (l++[c])=(((s.run l).1.answer c).1,(s.run l).2++[((s.run l).1.answer c).2]):=by
 induction l generalizing s with
 | nil=>rfl
 | cons x r ih =>
  rw [List.cons_append,Sy.run,ih]
  rfl
theorem wK (s:Sy) (l:List Cl):(s.run l).2.length=l.length:=by
 induction l generalizing s with
 | nil=>rfl
 | cons x r ih=>rw [Sy.run];simp [ih]
def aO (up:List Ent) (lows:List (List Ent)):Sy:=⟨up,lows,[],[],fun _=>none⟩
end PM
def encC (c:Cl):List Value:=[.int .i64 c.kind,.int .i64 c.owner,.int .i64 c.fd,.int .i64 c.n,.int .i64 c.m,.string c.path,.string c.to,.string c.text,.bool c.alone]
def fC (W:World) (p:Option Addr) (l:List Cl):Prop:=l=[]∨∃ b off,p=some ⟨b,off,none⟩∧b<W.heap.size∧∀ i c,l[i]?=some c→∀ j v,(encC c)[j]?=some v→W.cell? ⟨b,off+i*9+j,none⟩=some v
theorem I7 {w:World} {base:Nat} (y:Lay) (lo:List Lay) (pl:Option Addr) (cl:Nat) (ps:Option Addr) (sc R B:Nat) (hb:base≤w.heap.size) (hRb:base≤R) (hRB:R<B) (hBw:B≤w.heap.size) (hU:UnOK w y lo pl cl) (hN:jF B y lo pl) (hS:Lies w ps (aB (y.es::lo.map (·.es)))) (hNs:∀ b off s,ps=some ⟨b,off,s⟩→B≤b) (hsc:(aB (y.es::lo.map (·.es))).length≤sc) (hsn:ps=none→sc=0) :
  aj base (w.alloc (.cells (#[.slice y.ad y.es.length y.cap,.slice pl lo.length cl,.slice ps (aB (y.es::lo.map (·.es))).length sc]++Array.replicate 32 (.pointer none)) 83)) w.heap.size (aO y.es (lo.map (·.es))) ⟨y,lo,pl,cl,ps,sc,fun _=>(none,0),fun _=>0,fun _=>0,fun b=>b=R⟩:=by
 refine ⟨⟨_,heap_alloc_last w _,by simp,by simp,by simp,by simp;rfl,fun k hk=>?_⟩,fun j o ho=>by simp [aO] at ho,fun i f hf=>by simp [aO] at hf,fun j j' hj=>by simp [aO] at hj,fun i i' hi=>by simp [aO] at hi,fun Y hY=>?_,rfl,rfl,hsc,hsn,fun k j hk=>by simp [aO] at hk,fun o ho=>by simp [aO] at ho,fun b hb=>⟨by rw [show b=R from hb];exact hRb,by rw [show b=R from hb];simp;omega⟩,⟨hb,fun j hj=>by simp [aO] at hj,fun i hi=>by simp [aO] at hi⟩⟩
 ·rw [Array.getElem?_append_right (by simp)]
  simp [hk,aO]
 ·have hK:Keep (fun b=>b=w.heap.size∨b=R) (w.alloc (.cells (#[.slice y.ad y.es.length y.cap,.slice pl lo.length cl,.slice ps (aB (y.es::lo.map (·.es))).length sc]++Array.replicate 32 (.pointer none)) 83)) Y:=hY.weak (fun b hb=>by
   rcases hb with (e | hx) | ⟨j,hj,_⟩ | ⟨i,hi,_⟩
   ·exact .inl e
   ·exact .inr hx
   ·simp [aO] at hj
   ·simp [aO] at hi)
  have hkk:Keep (fun b=>b=R) w Y:=⟨by have:=hK.size;simp at this;omega,fun b hb hne=>(hK.block b (by simp;omega) (by rintro (e | e);omega;exact hne e)).trans (((Grown.refl w).alloc _).below.block b hb)⟩
  have hst:St (fun b=>b=R) w (fun X=>UnOK X y lo pl cl):=UnOK.st hU hN (fun b h=>by rw [h];exact hRB)
  have hst2:St (fun b=>b=R) w (fun X=>Lies X ps (aB (y.es::lo.map (·.es)))):=Lies.st hS (fun b off s e h=>by have:=hNs b off s e;have h:b=R:=h;omega)
  exact ⟨hst Y hkk,hst2 Y hkk,fun i f hf=>by simp [aO] at hf⟩
theorem gY.write {base:Nat} {W W':World} {S:Nat} {s:Sy} {L:Lay6} {v:Value} {anl:List An} {row:List Av} {R:Nat} {cur:Array Value} (h:gY base W S s L v anl row) (hx:L.ex R) (hR:W.heap[R]?=some (.cells cur 29 (0,0))) (hn:¬ Mine S s L R) (hk:Keep (fun b=>b=R) W W'):∃ L':Lay6,gY base W' S s L' v anl row∧L'.y=L.y∧L'.lo=L.lo∧L'.pl=L.pl∧L'.cl=L.cl∧L'.ps=L.ps∧L'.sc=L.sc:=by
 have hK:Keep (fun b=>L.ex b∧¬ Mine S s L b) W W':=hk.weak fun b hb=>by rw [show b=R from hb];exact ⟨hx,hn⟩
 have hKx:Keep L.ex W W':=hK.weak fun b hb=>hb.1
 refine ⟨{ L with ex:=fun b=>False∨L.ex b },⟨h.at'.Ih (G:=fun _=>False) hK (fun b hb=>hb.elim),h.rows.at (fun g hg=>?_),fun g hg=>.inr (h.own g hg),h.len,fun i a y h1 h2=>?_⟩,rfl,rfl,rfl,rfl,rfl,rfl⟩
 ·obtain ⟨_,c2,hh⟩:=h.rows.own hg
  refine hk.block g (Array.getElem?_eq_some_iff.1 hh).1 (fun e=>?_)
  rw [show g=R from e,hR] at hh
  injection hh with hh;injection hh with _ hh _;exact absurd hh (by decide)
 ·obtain ⟨e1,e2,e3,bs,e4,e5,e6,e7,e8⟩:=h.each i a y h1 h2
  exact ⟨e1,e2,e3,bs,e4,e5,e6,e7,St.row (G:=fun _=>False) e8 hKx (fun b hb=>hb.elim)⟩
def pU (W:World) (p:Option Addr) (l:List An):Prop:=l=[]∨∃ b,p=some ⟨b,0,none⟩∧b<W.heap.size∧∀ i a,l[i]?=some a→∃ (q:Option Addr) (c:Nat) (bs:List ByteArray),W.cell? ⟨b,i*4,none⟩=some (.int .i64 a.err)∧W.cell? ⟨b,i*4+1,none⟩=some (.int .i64 a.n)∧W.cell? ⟨b,i*4+2,none⟩=some (.string a.text)∧W.cell? ⟨b,i*4+3,none⟩=some (.slice q bs.length c)∧bs.map (·.data.toList)=a.names∧bs.length≤c∧(q=none→c=0)∧fI W q bs
def nC (s:Sy) (anl:List An) (W:World) (r:Ending) (W':World):Prop:=∃ (y:Lay) (lo:List Lay) (pl:Option Addr) (cl:Nat) (ps:Option Addr) (sc yn ln sn op:Nat) (pa:Option Addr) (na ac:Nat),r=.returned (.tuple #[.agg #[.slice y.ad yn y.cap,.slice pl ln cl,.slice ps sn sc,.int .i64 op],.slice pa na ac,.int .i64 0])∧Below W.heap.size W W'∧Aside (yn=y.es.length∧ln=lo.length∧sn=s.seen.length∧op=s.reach.length∧y.es=s.up∧lo.map (·.es)=s.lows∧UnOK W' y lo pl cl∧Lies W' ps s.seen∧sn≤sc∧(ps=none→sc=0)∧na=anl.length∧na≤ac∧(pa=none→ac=0)∧pU W' pa anl)
def Kl (e:Int) (W:World) (r:Ending) (W':World):Prop:=r=.returned (.tuple #[.agg #[.slice none 0 0,.slice none 0 0,.slice none 0 0,.int .i64 0],.slice none 0 0,.int .i64 e])∧Below W.heap.size W W'
theorem nL {base:Nat} {W:World} {S:Nat} {s:Sy} {L:Lay6} (h:aj base W S s L) {g:Nat} {cur:Array Value} {t:TypeId} (hh:W.heap[g]?=some (.cells cur t (0,0))) (h1:t≠83) (h2:t≠116) (h3:t≠203):¬ Mine S s L g:=by
 rintro (e | ⟨j,hj,e⟩ | ⟨i,hi,e⟩)
 ·obtain ⟨arr,ha,_⟩:=h.blk
  rw [← e,hh] at ha
  injection ha with ha;injection ha with _ ha _;exact h1 ha
 ·have ha:=h.opn j _ (List.getElem?_eq_getElem hj)
  rw [← e,hh] at ha
  injection ha with ha;injection ha with _ ha _;exact h2 ha
 ·have ha:=h.fil i _ (List.getElem?_eq_getElem hi)
  rw [← e,hh] at ha
  injection ha with ha;injection ha with _ ha _;exact h3 ha
theorem gY.lies {base:Nat} {W:World} {S:Nat} {s:Sy} {L:Lay6} {v:Value} {anl:List An} {row:List Av} (h:gY base W S s L v anl row):∃ pa na ac,v=.slice pa na ac∧na=anl.length∧na≤ac∧(pa=none→ac=0)∧pU W pa anl:=by
 obtain ⟨hl1,⟨hv,hn0⟩ | ⟨g,cap,cur,hv,hg,hh,hnc,hm,hcs,ht⟩⟩:=id h.rows
 ·have:anl=[]:=List.eq_nil_of_length_eq_zero (by have:=h.len;omega)
  exact ⟨none,0,0,hv,by rw [this];rfl,Nat.le_refl _,fun _=>rfl,.inl this⟩
 ·refine ⟨_,_,_,hv,h.len,hnc,nofun,.inr ⟨g,rfl,(Array.getElem?_eq_some_iff.1 hh).1,fun i a ha=>?_⟩⟩
  have hi:i<row.length:=by rw [h.len];exact (List.getElem?_eq_some_iff.1 ha).1
  have hy:row[i]?=some row[i]:=List.getElem?_eq_getElem hi
  obtain ⟨e1,e2,e3,bs,e4,e5,e6,e7,e8⟩:=h.each i a _ ha hy
  have hcell:∀ j u,(encA row[i])[j]?=some u→W.cell? ⟨g,i*4+j,none⟩=some u:=fun j u hu=>by
   have:=World.ownsRow.cells h.rows (g:=g) (by rw [hv];rfl) (i*4+j) u (Gf hy hu)
   rwa [Addr.add_lit,Nat.zero_add] at this
  refine ⟨row[i].p,row[i].c,bs,?_,?_,?_,?_,e5,e6,e7,e8.now⟩
  ·rw [← e1];exact hcell 0 _ rfl
  ·rw [← e2];exact hcell 1 _ rfl
  ·rw [← e3];exact hcell 2 _ rfl
  ·rw [← e4];exact hcell 3 _ rfl
theorem pU.kept {W W':World} {p:Option Addr} {l:List An} (h:pU W p l) (hB:Below W.heap.size W W'):pU W' p l:=by
 rcases h with h | ⟨b,hp,hb,hc⟩
 ·exact .inl h
 ·refine .inr ⟨b,hp,Nat.lt_of_lt_of_le hb hB.size,fun i a ha=>?_⟩
  obtain ⟨q,c,bs,e1,e2,e3,e4,e5,e6,e7,e8⟩:=hc i a ha
  exact ⟨q,c,bs,(hB.cell (p:=⟨b,i*4,none⟩) hb).trans e1,(hB.cell (p:=⟨b,i*4+1,none⟩) hb).trans e2,(hB.cell (p:=⟨b,i*4+2,none⟩) hb).trans e3,(hB.cell (p:=⟨b,i*4+3,none⟩) hb).trans e4,e5,e6,e7,fI.st e8 (fun _ _ _ _ h=>h) W' ⟨hB.size,fun b hb _=>hB.block b hb⟩⟩
theorem JB {W:World} {B:Nat} {a b c d:Value} {t:TypeId} (h:W.heap[B]?=some (.cells #[a,b,c,d] t (0,0))) (a' b' c' d':Value):((((W.setCell ⟨B,0,none⟩ a').setCell ⟨B,1,none⟩ b').setCell ⟨B,2,none⟩ c').setCell ⟨B,3,none⟩ d').heap[B]?=some (.cells #[a',b',c',d'] t (0,0)):=by
 have:=aH (aH (aH (aH h 0 a') 1 b') 2 c') 3 d'
 simpa using this
theorem Jc {W w:World} {B:Nat} (h:Below W.heap.size W w) (hB:W.heap.size≤B) (a b c d:Value):Below W.heap.size W ((((w.setCell ⟨B,0,none⟩ a).setCell ⟨B,1,none⟩ b).setCell ⟨B,2,none⟩ c).setCell ⟨B,3,none⟩ d) :=
 (((h.setCell (p:=⟨B,0,none⟩) hB _).setCell (p:=⟨B,1,none⟩) hB _).setCell (p:=⟨B,2,none⟩) hB _).setCell (p:=⟨B,3,none⟩) hB _
set_option maxRecDepth 100000 in
set_option maxHeartbeats 1000000 in
theorem Kr (y:Lay) (lo:List Lay) (pl:Option Addr) (cl:Nat) (pc:Option Addr) (n cc:Nat) (W:World) (hU:UnOK W y lo pl cl) (hg:Gl W.heap.size W) (h0:¬ (ay (y.es::lo.map (·.es))).1=0) :
  Calls Tryz.prog 16 #[.agg #[.slice y.ad y.es.length y.cap,.slice pl lo.length cl],.slice pc n cc] W (Kl (ay (y.es::lo.map (·.es))).1 W):=by
 obtain ⟨X,hX⟩:∃ X,(W.alloc (.cells #[.slice y.ad y.es.length y.cap,.slice pl lo.length cl] 26)).alloc (.cells #[.slice none 0 0,.slice none 0 0,.slice none 0 0,.int .i64 0] 29)=X:=⟨_,rfl⟩
 have hBX:Below W.heap.size W X:=by rw [← hX];exact ((Below.refl _ _).alloc (Nat.le_refl _) _).alloc (by simp) _
 have br:=dY hX
 obtain ⟨m,hm⟩:=(hg.kept hBX).2
 have hsn:=qD y lo m pl cl X (hU.kept hBX) hm
 have HX:Aside ((W.alloc (.cells #[.slice y.ad y.es.length y.cap,.slice pl lo.length cl] 26)).alloc (.cells #[.slice none 0 0,.slice none 0 0,.slice none 0 0,.int .i64 0] 29)=X∧Below W.heap.size W X∧X.heap[W.heap.size+1]?=some (.cells #[.slice none 0 0,.slice none 0 0,.slice none 0 0,.int .i64 0] 29)):=⟨hX,hBX,br⟩
 rw [← hX] at hsn
 generalize (ay (y.es::lo.map (·.es))).1=e at hsn h0 ⊢
 generalize (aB (y.es::lo.map (·.es)))=sl at hsn
 generalize y.es.length=yn at *
 generalize lo.length=ln at *
 have hne:(e != 0)=true:=by simpa using h0
 clear hU hg hBX br hm hX
 go_enter Tryz.func16,Tryz.ntmps16
 go_wp2_with (go_at_call 21;refine hsn.mono ?_;clear hsn;rintro r w3 ⟨p,c,rfl,_,_,_,hB3,_⟩;rw [HX.out.1] at hB3;have k3:w3.heap[W.heap.size+1]?=some (.cells #[.slice none 0 0,.slice none 0 0,.slice none 0 0,.int .i64 0] 29):=(hB3.block _ (Array.getElem?_eq_some_iff.1 HX.out.2.2).1).trans HX.out.2.2;obtain ⟨⟨d0,d1,d2,d3⟩,z0,z1,z2,z3⟩:=bK k3;have H3:Aside (Below W.heap.size W w3∧w3.heap[W.heap.size+1]?=some (.cells #[.slice none 0 0,.slice none 0 0,.slice none 0 0,.int .i64 0] 29)):=⟨Below.onto HX.out.2.1 hB3,k3⟩;clear k3 hB3)
 obtain ⟨⟨x0,x1,x2,x3⟩,_⟩:=bK (JB H3.out.2 (.slice none 0 0) (.slice none 0 0) (.slice none 0 0) (.int .i64 0))
 refine bodyPost_ret (v:=.tuple #[.agg #[.slice none 0 0,.slice none 0 0,.slice none 0 0,.int .i64 0],.slice none 0 0,.int .i64 e]) (by simp [results,Tryz.results16,go_sem,x0,x1,x2,x3]) rfl ?_
 exact ⟨rfl,Jc H3.out.1 (by omega) _ _ _ _⟩
set_option maxRecDepth 100000 in
set_option maxHeartbeats 1000000 in
theorem Kg (y:Lay) (lo:List Lay) (pl:Option Addr) (cl:Nat) (pc:Option Addr) (n cc:Nat) (W:World) (hU:UnOK W y lo pl cl) (hg:Gl W.heap.size W) (h0:(ay (y.es::lo.map (·.es))).1=0) (hn:80<n) :
  Calls Tryz.prog 16 #[.agg #[.slice y.ad y.es.length y.cap,.slice pl lo.length cl],.slice pc n cc] W (Kl 5 W):=by
 obtain ⟨X,hX⟩:∃ X,(W.alloc (.cells #[.slice y.ad y.es.length y.cap,.slice pl lo.length cl] 26)).alloc (.cells #[.slice none 0 0,.slice none 0 0,.slice none 0 0,.int .i64 0] 29)=X:=⟨_,rfl⟩
 have hBX:Below W.heap.size W X:=by rw [← hX];exact ((Below.refl _ _).alloc (Nat.le_refl _) _).alloc (by simp) _
 have br:=dY hX
 obtain ⟨m,hm⟩:=(hg.kept hBX).2
 have hsn:=qD y lo m pl cl X (hU.kept hBX) hm
 have HX:Aside ((W.alloc (.cells #[.slice y.ad y.es.length y.cap,.slice pl lo.length cl] 26)).alloc (.cells #[.slice none 0 0,.slice none 0 0,.slice none 0 0,.int .i64 0] 29)=X∧Below W.heap.size W X∧X.heap[W.heap.size+1]?=some (.cells #[.slice none 0 0,.slice none 0 0,.slice none 0 0,.int .i64 0] 29)):=⟨hX,hBX,br⟩
 rw [← hX,h0] at hsn
 generalize (aB (y.es::lo.map (·.es)))=sl at hsn
 generalize y.es.length=yn at *
 generalize lo.length=ln at *
 have hnz:(80:Int)<(n:Int):=by omega
 clear hU hg hBX br hm hX h0
 go_enter Tryz.func16,Tryz.ntmps16
 go_wp2_with (go_at_call 21;refine hsn.mono ?_;clear hsn;rintro r w3 ⟨p,c,rfl,_,_,_,hB3,_⟩;rw [HX.out.1] at hB3;have k3:w3.heap[W.heap.size+1]?=some (.cells #[.slice none 0 0,.slice none 0 0,.slice none 0 0,.int .i64 0] 29):=(hB3.block _ (Array.getElem?_eq_some_iff.1 HX.out.2.2).1).trans HX.out.2.2;obtain ⟨⟨d0,d1,d2,d3⟩,z0,z1,z2,z3⟩:=bK k3;have H3:Aside (Below W.heap.size W w3∧w3.heap[W.heap.size+1]?=some (.cells #[.slice none 0 0,.slice none 0 0,.slice none 0 0,.int .i64 0] 29)):=⟨Below.onto HX.out.2.1 hB3,k3⟩;clear k3 hB3)
 obtain ⟨⟨x0,x1,x2,x3⟩,_⟩:=bK (JB H3.out.2 (.slice none 0 0) (.slice none 0 0) (.slice none 0 0) (.int .i64 0))
 refine bodyPost_ret (v:=.tuple #[.agg #[.slice none 0 0,.slice none 0 0,.slice none 0 0,.int .i64 0],.slice none 0 0,.int .i64 5]) (by simp [results,Tryz.results16,go_sem,x0,x1,x2,x3]) rfl ?_
 exact ⟨rfl,Jc H3.out.1 (by omega) _ _ _ _⟩
def Head (W:World) (S:Nat) (s0:Sy) (l:List Cl) (k:Nat) (v:Value) (wr:World):Prop:=∃ L row,gY W.heap.size wr S (s0.run (l.take k)).1 L v (s0.run (l.take k)).2 row∧Below W.heap.size W wr∧wr.heap[W.heap.size+1]?=some (.cells #[.slice none 0 0,.slice none 0 0,.slice none 0 0,.int .i64 0] 29)∧L.ex (W.heap.size+1)
theorem FL (a b c:Value):#[a,b,c]++Array.replicate 32 (.pointer none)=#[a,b,c,.pointer none,.pointer none,.pointer none,.pointer none,.pointer none,.pointer none,.pointer none,.pointer none,.pointer none,.pointer none,.pointer none,.pointer none,.pointer none,.pointer none,.pointer none,.pointer none,.pointer none,.pointer none,.pointer none,.pointer none,.pointer none,.pointer none,.pointer none,.pointer none,.pointer none,.pointer none,.pointer none,.pointer none,.pointer none,.pointer none,.pointer none,.pointer none]:=by kernel_rfl
set_option maxRecDepth 100000 in
set_option maxHeartbeats 4000000 in
theorem IV (y:Lay) (lo:List Lay) (pl:Option Addr) (cl:Nat) (pc:Option Addr) (cc:Nat) (l:List Cl) (W:World) (hU:UnOK W y lo pl cl) (hg:Gl W.heap.size W) (h0:(ay (y.es::lo.map (·.es))).1=0) (hn:l.length≤80) (hC:fC W pc l) (hs:∀ c∈l,c.Small) (hF:∀ k,k≤l.length→((aO y.es (lo.map (·.es))).run (l.take k)).1.Fine) :
  Calls Tryz.prog 16 #[.agg #[.slice y.ad y.es.length y.cap,.slice pl lo.length cl],.slice pc l.length cc] W (nC ((aO y.es (lo.map (·.es))).run l).1 ((aO y.es (lo.map (·.es))).run l).2 W):=by
 obtain ⟨X,hX⟩:∃ X,(W.alloc (.cells #[.slice y.ad y.es.length y.cap,.slice pl lo.length cl] 26)).alloc (.cells #[.slice none 0 0,.slice none 0 0,.slice none 0 0,.int .i64 0] 29)=X:=⟨_,rfl⟩
 have hBX:Below W.heap.size W X:=by rw [← hX];exact ((Below.refl _ _).alloc (Nat.le_refl _) _).alloc (by simp) _
 have br:=dY hX
 have bu:=iI hX
 have hsX:X.heap.size=W.heap.size+2:=by rw [← hX];simp
 obtain ⟨m,hm⟩:=(hg.kept hBX).2
 have hsn:=qD y lo m pl cl X (hU.kept hBX) hm
 rw [h0] at hsn
 obtain ⟨hz5,hzm,hzr⟩:=eG.1 h0
 have h4:lo.length≤4:=by simpa using hz5
 have hcp:=fun Y (hY:Below W.heap.size W Y)=>xW y lo pl cl Y (hU.kept hY) (hzr _ (by simp)).len (fun x hx=>(hzr x.es (by simp;exact .inr ⟨x,hx,rfl⟩)).len) h4
 obtain ⟨s0,hs0⟩:∃ s0,s0=aO y.es (lo.map (·.es)):=⟨_,rfl⟩
 have HX:Aside ((W.alloc (.cells #[.slice y.ad y.es.length y.cap,.slice pl lo.length cl] 26)).alloc (.cells #[.slice none 0 0,.slice none 0 0,.slice none 0 0,.int .i64 0] 29)=X∧Below W.heap.size W X∧X.heap[W.heap.size+1]?=some (.cells #[.slice none 0 0,.slice none 0 0,.slice none 0 0,.int .i64 0] 29)∧X.heap[W.heap.size]?=some (.cells #[.slice y.ad y.es.length y.cap,.slice pl lo.length cl] 26)):=⟨hX,hBX,br,bu⟩
 have HC:Aside (fC W pc l∧(∀ c∈l,c.Small)∧Gl W.heap.size W∧(∀ k,k≤l.length→(s0.run (l.take k)).1.Fine)∧s0=aO y.es (lo.map (·.es))):=⟨hC,hs,hg,by rw [hs0];exact hF,hs0⟩
 rw [← hs0]
 rw [← hX] at hsn
 obtain ⟨sl,hsl⟩:∃ sl,sl=aB (y.es::lo.map (·.es)):=⟨_,rfl⟩
 have HSL:Aside (sl=aB (y.es::lo.map (·.es))):=hsl
 obtain ⟨el,hel⟩:∃ el,el=lo.map (·.es):=⟨_,rfl⟩
 have HEL:Aside (el=lo.map (·.es)):=hel
 rw [← hsl] at hsn
 obtain ⟨sn,hsnn⟩:∃ sn,sn=sl.length:=⟨_,rfl⟩
 have HSN:Aside (sn=sl.length):=hsnn
 obtain ⟨yn,hyn⟩:∃ yn,yn=y.es.length:=⟨_,rfl⟩
 obtain ⟨ln,hln⟩:∃ ln,ln=lo.length:=⟨_,rfl⟩
 obtain ⟨n,hnn⟩:∃ n,n=l.length:=⟨_,rfl⟩
 have HN:Aside (yn=y.es.length∧ln=lo.length∧n=l.length):=⟨hyn,hln,hnn⟩
 have hsn2:Calls Tryz.prog 21 #[.agg #[.slice y.ad yn y.cap,.slice pl ln cl]] ((W.alloc (.cells #[.slice y.ad yn y.cap,.slice pl ln cl] 26)).alloc (.cells #[.slice none 0 0,.slice none 0 0,.slice none 0 0,.int .i64 0] 29)) (fun r w'=>∃ p c,r=.returned (.tuple #[.slice p sn c,.int .i64 0])∧Aside (Lies w' p sl∧sl.length≤c∧(p=none→c=0)∧∀ b off s,p=some ⟨b,off,s⟩→X.heap.size≤b)∧Below X.heap.size X w'):=by
  rw [hyn,hln,hsnn]
  refine hsn.mono fun r w' ⟨p,c,e,a1,a2,a3,a4,a5⟩=>⟨p,c,e,⟨a1,a2,a3,fun b off s e=>(by have:=a5 b off s e;rw [HX.out.1] at this;exact this)⟩,by rw [HX.out.1] at a4;exact a4⟩
 rw [← hyn,← hln] at hcp HX
 rw [← hyn,← hln,← hnn]
 rw [← hnn] at hn
 have hnz:¬ (80:Int)<(n:Int):=by omega
 clear hU hg hBX br bu hm hX h0 hC hs hF hsn hz5 hzm hzr h4 hs0 hsl hel hsnn hyn hln hnn
 go_enter Tryz.func16,Tryz.ntmps16
 go_wp2_with (first
  | (go_at_call 21;refine hsn2.mono ?_;clear hsn2;rintro r w3 ⟨ps,sc,rfl,HS3,hB3⟩;have k3:w3.heap[W.heap.size+1]?=some (.cells #[.slice none 0 0,.slice none 0 0,.slice none 0 0,.int .i64 0] 29):=(hB3.block _ (Array.getElem?_eq_some_iff.1 HX.out.2.2.1).1).trans HX.out.2.2.1;have u3:w3.heap[W.heap.size]?=_:=(hB3.block _ (Array.getElem?_eq_some_iff.1 HX.out.2.2.2).1).trans HX.out.2.2.2;have c0:w3.cell? ⟨W.heap.size,0,none⟩=some (.slice y.ad yn y.cap):=(by simp [World.cell?,u3]);have c1:w3.cell? ⟨W.heap.size,1,none⟩=some (.slice pl ln cl):=(by simp [World.cell?,u3]);have hW3:Below W.heap.size W w3:=Below.onto HX.out.2.1 hB3;have H3:Aside (w3.heap[W.heap.size+1]?=some (.cells #[.slice none 0 0,.slice none 0 0,.slice none 0 0,.int .i64 0] 29)):=k3;have hX3:X.heap.size≤w3.heap.size:=hB3.size;clear k3 u3 hB3)
  | (go_at_call 39;refine (hcp _ hW3).mono ?_;clear hcp;rintro r w4 ⟨u,lo4,ul,uc,un,vn,rfl,H4⟩;have H4W:Aside (Below W.heap.size W w4∧w4.heap[W.heap.size+1]?=some (.cells #[.slice none 0 0,.slice none 0 0,.slice none 0 0,.int .i64 0] 29)∧Lies w4 ps sl∧X.heap.size≤w3.heap.size∧X.heap.size≤w4.heap.size):=⟨Below.onto hW3 H4.out.2.2.2.2.2.1,(H4.out.2.2.2.2.2.1.block _ (Array.getElem?_eq_some_iff.1 H3.out).1).trans H3.out,HS3.out.1.kept H4.out.2.2.2.2.2.1,hX3,Nat.le_trans hX3 H4.out.2.2.2.2.2.1.size⟩))
 have HH:Aside (Head W w4.heap.size s0 l 0 (.slice none 0 0) (w4.alloc (.cells #[.slice u.ad un u.cap,.slice ul vn uc,.slice ps sn sc,.pointer none,.pointer none,.pointer none,.pointer none,.pointer none,.pointer none,.pointer none,.pointer none,.pointer none,.pointer none,.pointer none,.pointer none,.pointer none,.pointer none,.pointer none,.pointer none,.pointer none,.pointer none,.pointer none,.pointer none,.pointer none,.pointer none,.pointer none,.pointer none,.pointer none,.pointer none,.pointer none,.pointer none,.pointer none,.pointer none,.pointer none,.pointer none] 83))):=by
  obtain ⟨r1,r2,r3,r4,r5,r6,r7⟩:=H4.out
  have hbs:aB (u.es::lo4.map (·.es))=sl:=by rw [r3,r4,HSL.out]
  have hsys:=I7 (w:=w4) (base:=W.heap.size) u lo4 ul uc ps sc (W.heap.size+1) X.heap.size H4W.out.1.size (by omega) (by omega) H4W.out.2.2.2.2 r5 ⟨fun b off s e=>Nat.le_trans H4W.out.2.2.2.1 (r7.1 b off s e),fun b off s e=>Nat.le_trans H4W.out.2.2.2.1 (r7.2.1 b off s e),fun x hx b off s e=>Nat.le_trans H4W.out.2.2.2.1 (r7.2.2 x hx b off s e)⟩ (by rw [hbs];exact H4W.out.2.2.1) HS3.out.2.2.2 (by rw [hbs];exact HS3.out.2.1) HS3.out.2.2.1
  rw [hbs,← r1,← r2,← HSN.out,FL,r3,r4,← HC.out.2.2.2.2] at hsys
  refine ⟨_,[],⟨hsys,eH.nil _ _,nofun,rfl,fun i an y h1=>by simp [Sy.run] at h1⟩,?_,?_,rfl⟩
  ·exact H4W.out.1.alloc H4W.out.1.size _
  ·exact (((Grown.refl w4).alloc _).below.block _ (Array.getElem?_eq_some_iff.1 H4W.out.2.1).1).trans H4W.out.2.1
 obtain ⟨S,hS⟩:∃ S,S=w4.heap.size:=⟨_,rfl⟩
 rw [← hS] at HH ⊢
 generalize w4.alloc (.cells #[.slice u.ad un u.cap,.slice ul vn uc,.slice ps sn sc,.pointer none,.pointer none,.pointer none,.pointer none,.pointer none,.pointer none,.pointer none,.pointer none,.pointer none,.pointer none,.pointer none,.pointer none,.pointer none,.pointer none,.pointer none,.pointer none,.pointer none,.pointer none,.pointer none,.pointer none,.pointer none,.pointer none,.pointer none,.pointer none,.pointer none,.pointer none,.pointer none,.pointer none,.pointer none,.pointer none,.pointer none,.pointer none] 83)=W5 at HH ⊢
 clear hS H4 H4W H3 HS3 c0 c1 hW3
 go_loopg [10,33] n (fun gg v i wr=>∃ k:Nat,k≤n∧n-k≤gg∧i=.int .i64 k∧Aside (Head W S s0 l k v wr))
 case atStart=>exact ⟨0,Nat.zero_le _,by omega,rfl,HH.out⟩
 case round =>
  obtain ⟨k,hk,hgg,rfl,HI⟩:=hrel
  by_cases hlt:k<n
  ·have hltz:(k:Int)<(n:Int):=by omega
   obtain ⟨c,hc⟩:∃ c,l[k]?=some c:=⟨_,List.getElem?_eq_getElem (by have:=HN.out.2.2;omega)⟩
   have hsm:=HC.out.2.1 c (List.mem_of_getElem? hc)
   obtain ⟨L,row,hP,hBr,hbR,hxR⟩:=HI.out
   have hcells:∃ b off,pc=some ⟨b,off,none⟩∧b<W.heap.size∧∀ j v,(encC c)[j]?=some v→wr.cell? ⟨b,off+k*9+j,none⟩=some v:=by
    rcases HC.out.1 with e | ⟨b,off,e,hb,hh⟩
    ·rw [e] at hc;simp at hc
    ·exact ⟨b,off,e,hb,fun j v hv=>(hBr.cell (p:=⟨b,off+k*9+j,none⟩) hb).trans (hh k c hc j v hv)⟩
   obtain ⟨b,off,rfl,hbl,hcc⟩:=hcells
   have hfine:=HC.out.2.2.2.1 k (by have:=HN.out.2.2;omega)
   have hbase:W.heap.size≤wr.heap.size:=hBr.size
   have HK1:Aside (l.take (k+1)=l.take k++[c]):=by show _=_;rw [List.take_add_one,hc];rfl
   obtain ⟨ck,co,cf,cn,cm,cp,ct,cx,ca⟩:=c
   have q0:wr.cell? ⟨b,off+k*9,none⟩=some (.int .i64 ck):=hcc 0 _ rfl
   have q1:wr.cell? ⟨b,off+k*9+1,none⟩=some (.int .i64 co):=hcc 1 _ rfl
   have q2:wr.cell? ⟨b,off+k*9+2,none⟩=some (.int .i64 cf):=hcc 2 _ rfl
   have q3:wr.cell? ⟨b,off+k*9+3,none⟩=some (.int .i64 cn):=hcc 3 _ rfl
   have q4:wr.cell? ⟨b,off+k*9+4,none⟩=some (.int .i64 cm):=hcc 4 _ rfl
   have q5:wr.cell? ⟨b,off+k*9+5,none⟩=some (.string cp):=hcc 5 _ rfl
   have q6:wr.cell? ⟨b,off+k*9+6,none⟩=some (.string ct):=hcc 6 _ rfl
   have q7:wr.cell? ⟨b,off+k*9+7,none⟩=some (.string cx):=hcc 7 _ rfl
   have q8:wr.cell? ⟨b,off+k*9+8,none⟩=some (.bool ca):=hcc 8 _ rfl
   have hB1:Below wr.heap.size wr (wr.alloc (.cells #[.int .i64 ck,.int .i64 co,.int .i64 cf,.int .i64 cn,.int .i64 cm,.string cp,.string ct,.string cx,.bool ca] 50)):=((Grown.refl wr).alloc _).below
   have hP1:=hP.kept hB1
   have han:=BO hP1.at' (HC.out.2.2.1.kept (Below.onto hBr hB1)) hfine ⟨ck,co,cf,cn,cm,cp,ct,cx,ca⟩ hsm
   simp only at han
   have HR1:Aside (Below W.heap.size W (wr.alloc (.cells #[.int .i64 ck,.int .i64 co,.int .i64 cf,.int .i64 cn,.int .i64 cm,.string cp,.string ct,.string cx,.bool ca] 50))∧(wr.alloc (.cells #[.int .i64 ck,.int .i64 co,.int .i64 cf,.int .i64 cn,.int .i64 cm,.string cp,.string ct,.string cx,.bool ca] 50)).heap[W.heap.size+1]?=some (.cells #[.slice none 0 0,.slice none 0 0,.slice none 0 0,.int .i64 0] 29)∧gY W.heap.size (wr.alloc (.cells #[.int .i64 ck,.int .i64 co,.int .i64 cf,.int .i64 cn,.int .i64 cm,.string cp,.string ct,.string cx,.bool ca] 50)) S (s0.run (l.take k)).1 L _ (s0.run (l.take k)).2 row∧L.ex (W.heap.size+1)):=⟨Below.onto hBr hB1,(hB1.block _ (Array.getElem?_eq_some_iff.1 hbR).1).trans hbR,hP1,hxR⟩
   have HS1:Aside (s0.run (l.take (k+1))=(((s0.run (l.take k)).1.answer ⟨ck,co,cf,cn,cm,cp,ct,cx,ca⟩).1,(s0.run (l.take k)).2++[((s0.run (l.take k)).1.answer ⟨ck,co,cf,cn,cm,cp,ct,cx,ca⟩).2])):=by show _=_;rw [HK1.out,zC]
   obtain ⟨s1,hs1⟩:∃ s1,s1=((s0.run (l.take k)).1.answer ⟨ck,co,cf,cn,cm,cp,ct,cx,ca⟩).1:=⟨_,rfl⟩
   obtain ⟨an,han2⟩:∃ an,an=((s0.run (l.take k)).1.answer ⟨ck,co,cf,cn,cm,cp,ct,cx,ca⟩).2:=⟨_,rfl⟩
   rw [← hs1,← han2] at han HS1
   have hrl:row.length≤80:=by
    have:=hP.len
    rw [wK] at this
    have h2:(l.take k).length≤k:=by simp;omega
    omega
   clear hs1 han2 hP hP1 hBr hbR hcc hfine hsm hc hB1 hbl
   have hgo:True:=trivial
   go_wp2_with (first
    | (go_at_call 40;refine han.mono ?_;clear han;intro r w6 hD;obtain ⟨p6,c6,n6,rfl,HD⟩:=yM hD;clear hD;have hans:=HR1.out.2.2.1.answered HD.out;have HA6:Aside (_):=hans;have HR6:Aside (eH w6 W.heap.size _ row∧W.heap.size≤w6.heap.size∧Below W.heap.size W w6∧w6.heap[W.heap.size+1]?=some (.cells #[.slice none 0 0,.slice none 0 0,.slice none 0 0,.int .i64 0] 29)):=(by obtain ⟨z1,z2,z3,_⟩:=hans;obtain ⟨_,L6,_,_,_,_,_,hk6,_⟩:=HD.out;exact ⟨z3,Nat.le_trans hbase (Nat.le_trans (by simp) z2),HR1.out.1.trans z1,(hk6.block _ (Array.getElem?_eq_some_iff.1 HR1.out.2.1).1 (nL HR1.out.2.2.1.at' HR1.out.2.1 (by decide) (by decide) (by decide))).trans HR1.out.2.1⟩);clear hans)
    | (at_builtin;clear hgo;refine BP w6 ⟨an.err,an.n,an.text,p6,n6,c6⟩ rfl _ _ rfl W.heap.size _ row rfl HR6.out.1 (by omega) HR6.out.2.1 rfl ?_;intro v7 w7 hR7 hs7 hk7 hg7 hB7;have HH7:Aside (Head W S s0 l (k+1) v7 w7):=(by obtain ⟨z1,z2,z3,z4⟩:=HA6.out;obtain ⟨L7,hx7,hP7⟩:=z4 v7 w7 hR7 hs7 hk7 hg7;refine ⟨L7,_,by rw [HS1.out];exact hP7,HR6.out.2.2.1.trans hB7,(hk7 _ (Array.getElem?_eq_some_iff.1 HR6.out.2.2.2).1 (fun e=>?_)).trans HR6.out.2.2.2,hx7 _ HR1.out.2.2.2⟩;obtain ⟨_,cur,hh⟩:=HR6.out.1.own e;rw [HR6.out.2.2.2] at hh;injection hh with hh;injection hh with _ hh _;exact absurd hh (by decide));clear hR7 hs7 hk7 hg7 hB7 HA6 HR6))
   go_roundg (n-(k+1))
   case measure=>omega
   case rel=>exact ⟨k+1,by omega,by omega,by go_num,HH7.out⟩
  ·have hltz:¬ (k:Int)<(n:Int):=by omega
   obtain rfl:k=n:=by omega
   have HT:Aside (l.take k=l):=by show _=_;rw [HN.out.2.2];exact List.take_length
   have hI:=HI.out
   rw [Head,HT.out] at hI
   obtain ⟨L,row,hP,hBr,hbR,hxR⟩:=hI
   obtain ⟨pa,na,ac,hv,ha1,ha2,ha3,ha4⟩:=hP.lies
   subst hv
   have HAA:Aside (na=(s0.run l).2.length∧na≤ac∧(pa=none→ac=0)∧pU wr pa (s0.run l).2):=⟨ha1,ha2,ha3,ha4⟩
   clear ha1 ha2 ha3 ha4
   go_wp2
   obtain ⟨ha1,ha2,ha3,ha4⟩:=HAA.out
   obtain ⟨d0,d1,d2⟩:=hP.at'.cells
   have hfl:=nZ (hP.at'.kept (Below.refl _ _).drew)
   obtain ⟨sf,hsf⟩:∃ sf,sf=(s0.run l).1:=⟨_,rfl⟩
   obtain ⟨al,hal⟩:∃ al,al=(s0.run l).2:=⟨_,rfl⟩
   rw [← hsf] at hP hfl d2
   rw [← hal] at hP ha1 ha4
   have HSF:Aside (sf=(s0.run l).1∧al=(s0.run l).2):=⟨hsf,hal⟩
   obtain ⟨e0,he0⟩:∃ e0,e0=L.y.es.length:=⟨_,rfl⟩
   obtain ⟨e1,he1⟩:∃ e1,e1=L.lo.length:=⟨_,rfl⟩
   obtain ⟨e2,he2⟩:∃ e2,e2=sf.seen.length:=⟨_,rfl⟩
   rw [← he0] at d0
   rw [← he1] at d1
   rw [← he2] at d2
   have HP:Aside (gY W.heap.size wr S sf L (.slice pa na ac) al row∧Below W.heap.size W wr∧wr.heap[W.heap.size+1]?=some (.cells #[.slice none 0 0,.slice none 0 0,.slice none 0 0,.int .i64 0] 29)∧na=al.length∧na≤ac∧(pa=none→ac=0)∧pU wr pa al∧e0=L.y.es.length∧e1=L.lo.length∧e2=sf.seen.length∧L.ex (W.heap.size+1)):=⟨hP,hBr,hbR,ha1,ha2,ha3,ha4,he0,he1,he2,hxR⟩
   have hfl2:Calls Tryz.prog 41 #[.pointer (some ⟨S,0,none⟩)] wr.drew (fun r w'=>∃ pf nf cf,r=.returned (.slice pf nf cf)∧nf=sf.reach.length∧Below wr.heap.size wr w'):=hfl.mono fun r w' ⟨⟨v,e,hr⟩,hB⟩=>by
    obtain ⟨p,c,hv,_,_,_,_⟩:=hr.form
    exact ⟨p,_,c,by rw [e,hv],by simp [bsTo,Sy.reach],((Below.refl _ _).drew).trans hB⟩
   have lS:S<wr.heap.size:=hP.at'.lt
   clear hP hBr hbR ha1 ha2 ha3 ha4 he0 he1 he2 hfl hsf hal HI hxR
   go_region_held3 (fun w'=>w'.cell? ⟨S,0,none⟩=some (.slice L.y.ad e0 L.y.cap)∧w'.cell? ⟨S,1,none⟩=some (.slice L.pl e1 L.cl)∧w'.cell? ⟨S,2,none⟩=some (.slice L.ps e2 L.sc)) (go_keep) (first | (go_at_call 41;refine hfl2.mono ?_;clear hfl2;rintro r w8 ⟨pf,nf,cf,rfl,hnf,hB8⟩;have z0:=(hB8.cell (p:=⟨S,0,none⟩) lS).trans d0;have z1:=(hB8.cell (p:=⟨S,1,none⟩) lS).trans d1;have z2:=(hB8.cell (p:=⟨S,2,none⟩) lS).trans d2;have k8:w8.heap[W.heap.size+1]?=some (.cells #[.slice none 0 0,.slice none 0 0,.slice none 0 0,.int .i64 0] 29):=(hB8.block _ (Array.getElem?_eq_some_iff.1 HP.out.2.2.1).1).trans HP.out.2.2.1;obtain ⟨⟨x0,x1,x2,x3⟩,y0,y1,y2,y3⟩:=bK k8;have H8:Aside (Below wr.heap.size wr w8∧w8.heap[W.heap.size+1]?=some (.cells #[.slice none 0 0,.slice none 0 0,.slice none 0 0,.int .i64 0] 29)∧nf=sf.reach.length):=⟨hB8,k8,hnf⟩;have nS:¬ S=W.heap.size+1:=(fun e=>(nL HP.out.1.at' HP.out.2.2.1 (by decide) (by decide) (by decide)) (.inl e.symm));have nS2:¬ W.heap.size+1=S:=(fun e=>nS e.symm);clear k8 hB8 hnf))
   all_goals
    obtain ⟨⟨x0,x1,x2,x3⟩,_⟩:=bK (JB H8.out.2.1 (.slice L.y.ad e0 L.y.cap) (.slice L.pl e1 L.cl) (.slice L.ps e2 L.sc) (.int .i64 nf))
    go_wp2
    refine bodyPost_ret (v:=.tuple #[.agg #[.slice L.y.ad e0 L.y.cap,.slice L.pl e1 L.cl,.slice L.ps e2 L.sc,.int .i64 nf],.slice pa na ac,.int .i64 0]) (by simp [results,Tryz.results16,go_sem,x0,x1,x2,x3]) rfl ?_
    obtain ⟨hP,hBr,hbR,ha1,ha2,ha3,ha4,he0,he1,he2,hxR⟩:=HP.out
    obtain ⟨hB8,hk8,hnf⟩:=H8.out
    have hK:Keep (fun b=>b=W.heap.size+1) w8 ((((w8.setCell ⟨W.heap.size+1,0,none⟩ (.slice L.y.ad e0 L.y.cap)).setCell ⟨W.heap.size+1,1,none⟩ (.slice L.pl e1 L.cl)).setCell ⟨W.heap.size+1,2,none⟩ (.slice L.ps e2 L.sc)).setCell ⟨W.heap.size+1,3,none⟩ (.int .i64 nf)):=(((Keep.set (sp:=fun b=>b=W.heap.size+1) rfl _ _ _).trans (Keep.set (sp:=fun b=>b=W.heap.size+1) rfl _ _ _)).trans (Keep.set (sp:=fun b=>b=W.heap.size+1) rfl _ _ _)).trans (Keep.set (sp:=fun b=>b=W.heap.size+1) rfl _ _ _)
    have hP8:=hP.kept hB8
    obtain ⟨L',hP9,f1,f2,f3,f4,f5,f6⟩:=hP8.write hxR hk8 (nL hP8.at' hk8 (by decide) (by decide) (by decide)) hK
    obtain ⟨pa',na',ac',hv',b1,b2,b3,b4⟩:=hP9.lies
    injection hv' with v1 v2 v3
    subst v1 v2 v3
    have hd:=hP9.at'.data.now
    rw [← HSF.out.1,← HSF.out.2]
    rw [← f1] at he0
    rw [← f2] at he1
    refine ⟨L.y,L.lo,L.pl,L.cl,L.ps,L.sc,e0,e1,e2,nf,pa,na,ac,rfl,Jc (Below.onto hBr hB8) (by omega) _ _ _ _,by rw [he0,f1],by rw [he1,f2],he2,hnf,hP.at'.up,hP.at'.low,?_,?_,?_,hP.at'.snil,b1,b2,b3,b4⟩
    ·have:=hd.un
     rw [f1,f2,f3,f4] at this
     exact this
    ·have:=hd.seen
     rw [f5] at this
     exact this
    ·rw [he2];exact hP.at'.scap
end Go.Proofs.YthfeoiffoeagkaaGreatDoor
