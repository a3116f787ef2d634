/-
  (*sys.system).answer.
-/
import Derived.Test.YthfeoiffoeagkaaGreatDoorQA42
import Derived.Deep.RegionLaw
import Derived.ArgAppend
namespace Go.Proofs.YthfeoiffoeagkaaGreatDoor
open Go.RowKit PM Go.Sort
set_option linter.unusedVariables false
namespace PM
def errAns (e : Int) : An:=⟨e,0,⟨#[]⟩,[]⟩
noncomputable def Sy.answer (s : Sy) (c : Cl) : Sy × An:=if (s.stepR c).1 = 0 then (s.stepR c).2 else (s,errAns (s.stepR c).1)
end PM
theorem errAns_at (sp : Nat → Prop) (W : World) (e : Int) : AnsAt sp W (errAns e) (.agg #[.int .i64 e,.int .i64 0,.string ⟨#[]⟩,.slice none 0 0]):=⟨none,0,[],rfl,rfl,Nat.le_refl _,fun _ => rfl,fun _ _ => .inl rfl⟩
theorem AnsAt.on {sp : Nat → Prop} {W W' : World} {an : An} {v : Value} (h : AnsAt sp W an v) (hk : Keep sp W W') : AnsAt sp W' an v:=by
 obtain ⟨p,c,bs,e,h1,h2,h3,h4⟩:=h
 exact ⟨p,c,bs,e,h1,h2,h3,h4.on hk⟩
theorem answer_end {base : Nat} {W W1 w4 : World} {S : Nat} {s s' : Sy} {L L1 L4 : Lay6} {an : An} {R : Nat} {a b c d : Value} (h : SysAt base W S s L) (h1 : SysAt base W1 S s L1) (hB1 : Below W.heap.size W W1) (hR : W.heap.size ≤ R) (hRl : R < W1.heap.size) (hx1 : ∀ b,L1.ex b ↔ b = R ∨ L.ex b) (ho1 : L1.ob = L.ob) (hf1 : L1.fb = L.fb) (hbk : W1.heap[R]? = some (.cells #[.int .i64 0,.int .i64 0,.string ⟨#[]⟩,.slice none 0 0] 38)) (h4 : SysAt base w4 S s' L4) (hb4 : Below base W1 w4) (hx4 : ∀ b,L1.ex b → L4.ex b) (hk4 : Keep (Mine S s L1) W1 w4) (hs4 : ∀ b,Sp S s' L4 b → Sp S s L1 b ∨ W1.heap.size ≤ b) (hA : AnsAt (Sp S s' L4) w4 an (.agg #[a,b,c,d])) :
  DoPost base S s L s' an W (.returned (.agg #[a,b,c,d])) ((((w4.setCell ⟨R,0,none⟩ a).setCell ⟨R,1,none⟩ b).setCell ⟨R,2,none⟩ c).setCell ⟨R,3,none⟩ d):=by
 have hxR : L4.ex R:=hx4 R ((hx1 R).2 (.inl rfl))
 have hnR : ¬ Mine S s L1 R:=by
  rintro (e | ⟨j,hj,e⟩ | ⟨i,hi,e⟩)
  ·have:=h.lt;omega
  ·rw [ho1] at e;have:=h.olt hj;omega
  ·rw [hf1] at e;have:=h.flt hi;omega
 have hb:=(hk4.block R hRl hnR).trans hbk
 obtain ⟨k1,k2⟩:=h4.answer hxR hb a b c d
 have hbW : base ≤ W.heap.size:=Nat.le_trans h.base.1 (Nat.le_of_lt h.lt)
 have hkA : Keep (Sp S s' L4) w4 ((((w4.setCell ⟨R,0,none⟩ a).setCell ⟨R,1,none⟩ b).setCell ⟨R,2,none⟩ c).setCell ⟨R,3,none⟩ d):=(((Keep.set (.inl (.inr hxR)) _ _ _).trans (Keep.set (.inl (.inr hxR)) _ _ _)).trans (Keep.set (.inl (.inr hxR)) _ _ _)).trans (Keep.set (.inl (.inr hxR)) _ _ _)
 have hs1:=hB1.size
 refine ⟨_,L4,rfl,k1,hA.on hkA,(hB1.mono hbW).trans (hb4.trans k2),fun b hb => hx4 b ((hx1 b).2 (.inr hb)),⟨Nat.le_trans hs1 (Nat.le_trans hk4.size (by simp [World.setCell])),fun x hx hn => ?_⟩,fun b hb => ?_⟩
 ·have hne : ∀ (Y : World) (i : Nat) (v : Value),(Y.setCell ⟨R,i,none⟩ v).heap[x]? = Y.heap[x]?:=fun Y i v => Below.heap_setCell _ _ _ _ (by show x ≠ R;omega)
  rw [hne,hne,hne,hne]
  refine (hk4.block x (by omega) (fun hm => hn ?_)).trans (hB1.block x hx)
  rcases hm with e | ⟨j,hj,e⟩ | ⟨i,hi,e⟩
  ·exact .inl e
  ·rw [ho1] at e;exact .inr (.inl ⟨j,hj,e⟩)
  ·rw [hf1] at e;exact .inr (.inr ⟨i,hi,e⟩)
 ·rcases hs4 b hb with ((e | hx) | ⟨j,hj,e⟩ | ⟨i,hi,e⟩) | hl
  ·exact .inl (.inl (.inl e))
  ·rcases (hx1 b).1 hx with e | hx
   ·right;omega
   ·exact .inl (.inl (.inr hx))
  ·rw [ho1] at e;exact .inl (.inr (.inl ⟨j,hj,e⟩))
  ·rw [hf1] at e;exact .inl (.inr (.inr ⟨i,hi,e⟩))
  ·right;omega
theorem stepPost_when {base S : Nat} {s : Sy} {L : Lay6} {err : Int} {s' : Sy} {an : An} {W W' : World} {r : Ending} (h : StepPost base S s L err s' an W r W') (he : err = 0) : ∃ g cap,r = .returned (.tuple #[.func (.func g) #[] cap,.int .i64 0]) ∧ Below W.heap.size W W' ∧ (∀ args w,(callFunc g args).run Tryz.prog w = .ok (.enter g args) w) ∧ Calls Tryz.prog g cap W' (DoPost base S s L s' an W'):=by
 obtain ⟨v,e,hB,h2⟩:=h
 obtain ⟨g,cap,rfl,h3,h4⟩:=h2 he
 subst he
 exact ⟨g,cap,e,hB,h3,h4⟩
theorem do_parts {base S : Nat} {s : Sy} {L : Lay6} {s' : Sy} {an : An} {W W' : World} {r : Ending} (h : DoPost base S s L s' an W r W') : ∃ (p : Option Addr) (c n : Nat),r = .returned (.agg #[.int .i64 an.err,.int .i64 an.n,.string an.text,.slice p n c]) ∧ Aside (DoPost base S s L s' an W (.returned (.agg #[.int .i64 an.err,.int .i64 an.n,.string an.text,.slice p n c])) W'):=by
 obtain ⟨v,L',e,h1,h2,h3⟩:=h
 obtain ⟨p,c,bs,e2,h4⟩:=h2
 subst e2
 exact ⟨p,c,bs.length,e,_,L',rfl,h1,⟨p,c,bs,rfl,h4⟩,h3⟩
set_option maxRecDepth 100000 in
set_option maxHeartbeats 1000000 in
theorem answer_any {base : Nat} {W : World} {S : Nat} {s : Sy} {L : Lay6} (h : SysAt base W S s L) (hg : Gl base W) (hf : s.Fine) (c : Cl) (hc : c.Small) :
  Calls Tryz.prog 40 #[.pointer (some ⟨S,0,none⟩),.agg #[.int .i64 c.kind, .int .i64 c.owner, .int .i64 c.fd, .int .i64 c.n, .int .i64 c.m, .string c.path, .string c.to, .string c.text, .bool c.alone]] W (DoPost base S s L (s.answer c).1 (s.answer c).2 W):=by
 obtain ⟨W0,hW0⟩ : ∃ W0,W.alloc (.cells #[.int .i64 c.kind, .int .i64 c.owner, .int .i64 c.fd, .int .i64 c.n, .int .i64 c.m, .string c.path, .string c.to, .string c.text, .bool c.alone] 50) = W0:=⟨_,rfl⟩
 have hB0 : Below W.heap.size W W0:=by rw [← hW0];exact ((Grown.refl W).alloc _).below
 have hs0 : W0.heap.size = W.heap.size + 1:=by rw [← hW0];simp
 obtain ⟨W1,hW1⟩ : ∃ W1,W0.alloc (.cells #[.int .i64 0,.int .i64 0,.string ⟨#[]⟩,.slice none 0 0] 38) = W1:=⟨_,rfl⟩
 have hB01 : Below W0.heap.size W0 W1:=by rw [← hW1];exact ((Grown.refl W0).alloc _).below
 have hB1:=Below.onto hB0 hB01
 have hs1 : W1.heap.size = W.heap.size + 2:=by rw [← hW1,World.size_alloc,hs0]
 have hbk : W1.heap[W.heap.size + 1]? = some (.cells #[.int .i64 0,.int .i64 0,.string ⟨#[]⟩,.slice none 0 0] 38):=by
  rw [← hW1,← hs0];exact heap_alloc_last W0 _
 have h1:=(h.kept hB0).aside (.cells #[.int .i64 0,.int .i64 0,.string ⟨#[]⟩,.slice none 0 0] 38)
 rw [hW1,hs0] at h1
 have hbase : base ≤ W.heap.size:=Nat.le_trans h.base.1 (Nat.le_of_lt h.lt)
 have hF:=stepOf_any h1 (hg.kept (hB1.mono hbase)) hf c hc
 obtain ⟨L1,hL1⟩ : ∃ L1 : Lay6,L1 = { L with ex:=fun b => b = W.heap.size + 1 ∨ L.ex b }:=⟨_,rfl⟩
 rw [← hL1] at h1 hF
 have HA : Aside (SysAt base W S s L ∧ SysAt base W1 S s L1 ∧ Below W.heap.size W W1 ∧ W.heap.size + 1 < W1.heap.size ∧ (∀ b,L1.ex b ↔ b = W.heap.size + 1 ∨ L.ex b) ∧ L1.ob = L.ob ∧ L1.fb = L.fb ∧ W1.heap[W.heap.size + 1]? = some (.cells #[.int .i64 0,.int .i64 0,.string ⟨#[]⟩,.slice none 0 0] 38)):=⟨h,h1,hB1,by omega,fun b => by rw [hL1],by rw [hL1],by rw [hL1],hbk⟩
 obtain ⟨⟨b0,b1,b2,b3⟩,z0,z1,z2,z3⟩:=cells4 hbk
 have HW : Aside ((W.alloc (.cells #[.int .i64 c.kind, .int .i64 c.owner, .int .i64 c.fd, .int .i64 c.n, .int .i64 c.m, .string c.path, .string c.to, .string c.text, .bool c.alone] 50)).alloc (.cells #[.int .i64 0,.int .i64 0,.string ⟨#[]⟩,.slice none 0 0] 38) = W1):=by rw [hW0];exact hW1
 obtain ⟨ck,co,cf,cn,cm,cp,ct,cx,ca⟩:=c
 simp only at hF HW ⊢
 have HV : Aside ((s.answer ⟨ck,co,cf,cn,cm,cp,ct,cx,ca⟩) = if (s.stepR ⟨ck,co,cf,cn,cm,cp,ct,cx,ca⟩).1 = 0 then (s.stepR ⟨ck,co,cf,cn,cm,cp,ct,cx,ca⟩).2 else (s,errAns (s.stepR ⟨ck,co,cf,cn,cm,cp,ct,cx,ca⟩).1)):=rfl
 generalize s.answer ⟨ck,co,cf,cn,cm,cp,ct,cx,ca⟩ = A at HV ⊢
 generalize s.stepR ⟨ck,co,cf,cn,cm,cp,ct,cx,ca⟩ = R at HV hF
 obtain ⟨er,s',an⟩:=R
 simp only at HV hF
 rw [← HW.out] at hF
 clear h h1 hg hf hB0 hB01 hB1 hs0 hs1 hbk hW0 hW1 hL1 hc b0 b1 b2 b3 z0 z1 z2 z3
 by_cases hz : er = 0
 ·subst hz
  go_enter Tryz.func40,Tryz.ntmps40
  go_wp2_with (go_at_call 58;refine hF.mono ?_;clear hF;intro r w3 hS;obtain ⟨g,cap,rfl,hB3,eg,hD⟩:=stepPost_when hS (by trivial);clear hS;rw [HW.out] at hB3;have H3 : Aside (Below W1.heap.size W1 w3 ∧ w3.heap[W.heap.size + 1]? = some (.cells #[.int .i64 0,.int .i64 0,.string ⟨#[]⟩,.slice none 0 0] 38)):=⟨hB3,(hB3.block _ HA.out.2.2.2.1).trans HA.out.2.2.2.2.2.2.2⟩;clear hB3)
  go_wp2_with (go_at_fn g;refine Calls.mono hD ?_;clear hD;intro r w4 hS;obtain ⟨p,k,n,rfl,HD⟩:=do_parts hS;clear hS;have hb4 : w4.heap[W.heap.size + 1]? = some (.cells #[.int .i64 0,.int .i64 0,.string ⟨#[]⟩,.slice none 0 0] 38):=(by obtain ⟨_,L4,_,_,_,_,_,hk,_⟩:=HD.out;refine (hk.block _ (Array.getElem?_eq_some_iff.1 H3.out.2).1 ?_).trans H3.out.2;rintro (e | ⟨j,hj,e⟩ | ⟨i,hi,e⟩);(have:=HA.out.1.lt;omega);(rw [HA.out.2.2.2.2.2.1] at e;have:=HA.out.1.olt hj;omega);(rw [HA.out.2.2.2.2.2.2.1] at e;have:=HA.out.1.flt hi;omega));obtain ⟨⟨b0,b1,b2,b3⟩,z0,z1,z2,z3⟩:=cells4 hb4;clear hb4)
  refine bodyPost_ret (v:=.agg #[.int .i64 an.err,.int .i64 an.n,.string an.text,.slice p n k]) (by simp [results,Tryz.results40,go_sem,b0,b1,b2,b3]) rfl ?_
  rw [HV.out,if_pos (by trivial)]
  obtain ⟨h,h1,hB1,hl,hx,ho,hfb,hbk⟩:=HA.out
  obtain ⟨v,L4,e,q1,q2,q3,q4,q5,q6⟩:=HD.out
  injection e with e
  subst e
  have hb3 : base ≤ W1.heap.size:=Nat.le_trans h1.base.1 (Nat.le_of_lt h1.lt)
  exact answer_end h h1 hB1 (by omega) hl hx ho hfb hbk q1 ((H3.out.1.mono hb3).trans q3) q4 ((Keep.of_below _ H3.out.1).trans q5) (fun b hb => (q6 b hb).imp id (fun hl => Nat.le_trans H3.out.1.size hl)) q2
 ·have hne : (er != 0) = true:=by simpa using hz
  go_enter Tryz.func40,Tryz.ntmps40
  go_wp2_with (go_at_call 58;refine hF.mono ?_;clear hF;intro r w3 hS;obtain ⟨v,rfl,hB3,_⟩:=hS;rw [HW.out] at hB3;have H3 : Aside (Below W1.heap.size W1 w3 ∧ w3.heap[W.heap.size + 1]? = some (.cells #[.int .i64 0,.int .i64 0,.string ⟨#[]⟩,.slice none 0 0] 38)):=⟨hB3,(hB3.block _ HA.out.2.2.2.1).trans HA.out.2.2.2.2.2.2.2⟩;clear hB3;obtain ⟨⟨b0,b1,b2,b3⟩,z0,z1,z2,z3⟩:=cells4 H3.out.2)
  refine bodyPost_ret (v:=.agg #[.int .i64 er,.int .i64 0,.string ⟨#[]⟩,.slice none 0 0]) (by simp [results,Tryz.results40,go_sem,b0,b1,b2,b3]) rfl ?_
  rw [HV.out,if_neg hz]
  obtain ⟨h,h1,hB1,hl,hx,ho,hfb,hbk⟩:=HA.out
  have hb3 : base ≤ W1.heap.size:=Nat.le_trans h1.base.1 (Nat.le_of_lt h1.lt)
  exact answer_end h h1 hB1 (by omega) hl hx ho hfb hbk (h1.kept H3.out.1) (H3.out.1.mono hb3) (fun b hb => hb) (Keep.of_below _ H3.out.1) (fun b hb => .inl hb) (errAns_at _ _ _)
theorem empty_at {W : World} {H : Nat} (h : W.heap[H]? = some (.cells #[] 53 (0,0))) : W.ownsRow H 53 4 (.slice (some ⟨H,0,none⟩) 0 0) 0 [] :=
 ⟨rfl,.inr ⟨H,0,#[],rfl,Nat.le_refl _,h,Nat.le_refl _,by decide,rfl,rfl⟩⟩
theorem step_copyE {ops : Array Oper} {o : Oper} {a : Act} {K : Act → World → Prop} {Q : Exit → Act → World → Prop} {E : Prop} {X : World} (hgd : o.guard = none) (s x : Operand)
  (ho : o.op = .call { callee:=.builtin .append,args:=#[s,x],argTypes:=#[23,23] }) (H : Nat) (hs : a.eval s = .slice (some ⟨H,0,none⟩) 0 0) (hh : X.heap[H]? = some (.cells #[] 53 (0,0)))
  (p : Option Addr) (n cap : Nat) (t : List Ent) (hx : a.eval x = .slice p n cap) (hn : n = t.length) (hL : Lies X p t) (hnil : p = none → cap = 0) (h80 : n ≤ 80)
  (h : ∀ g c w',Own w' g c t → H ≤ g → Below H X w' → (∀ b,b < X.heap.size → b ≠ H → w'.heap[b]? = X.heap[b]?) → K (a.put o.dst (.slice (some ⟨g,0,none⟩) n c)) w') :
  if Region.wanted o (yielded ops a.tmps) = true then Oper.wp Tryz.prog o a X K Q else E:=by
 have hw : Region.wanted o (yielded ops a.tmps) = true:=by simp [Region.wanted,hgd]
 rw [if_pos hw]
 have hown:=empty_at hh
 have hH : H ≤ X.heap.size:=Nat.le_of_lt (Array.getElem?_eq_some_iff.1 hh).1
 obtain ⟨i0,hi,hz0,hz1,hz2⟩:=info38
 cases p with
 | none =>
  obtain rfl : cap = 0:=hnil rfl
  have ht : t = []:=by
   rcases hL with h | ⟨b,off,he,_⟩
   ·exact h
   ·cases he
  subst ht
  obtain rfl : n = 0:=hn
  have hrun:=run_append_owned_none (P:=Tryz.prog) (w:=X) H 23 o.type 53 i0 4 Tryz.underlying23 hi _ 0 [] hown
  unfold Oper.wp execOp
  simp only [ho,resolve,invoke,builtin,Sem.run_bind,Sem.run_pure,Result.andThen_ok,List.map_toArray,List.map_cons,List.map_nil,hs,hx,hrun]
  obtain ⟨g,c,hv,hg,ho'⟩:=Own.of_row (t:=[]) hown (by simp) rfl
  simp only [List.length_nil] at hv
  rw [hv]
  exact h g c X ho' hg (Below.refl _ _) (fun _ _ _ => rfl)
 | some ad =>
  refine wp_append_own X s x 23 ho H 53 i0 _ 4 48 Tryz.underlying23 hi hz0 hz1 hz2 rfl (by decide) _ 0 [] hs hown ad n cap (t.flatMap encE) hx (by rw [flat_len,hn]) (hL.flat (Below.refl _ _)) (fun u hu => flat_one hu) (by unfold maxLen;omega) (by omega) hH ?_
  intro v' w' hrow hg hiff
  rw [List.nil_append,Nat.zero_add] at hrow
  obtain ⟨g,c,hv,hgg,ho'⟩:=Own.of_row hrow (by intro e;have:=(hiff.1 e).1;cases this) hn
  rw [hv,← hn]
  exact h g c w' ho' hgg ((Below.refl H X).grown hg hH (fun k hk => by simp [Value.ownBlock] at hk;omega)) (fun b hb hne => hg.block b hb (fun e => hne (by simp [Value.ownBlock] at e;exact e)))
def CopyPost (up : List Ent) (lows : List (List Ent)) (w : World) (r : Ending) (w' : World) : Prop:=∃ (y : Lay) (lo : List Lay) (pl : Option Addr) (cl yn ln : Nat),r = .returned (.agg #[.slice y.ad yn y.cap,.slice pl ln cl]) ∧ Aside (yn = y.es.length ∧ ln = lo.length ∧ y.es = up ∧ lo.map (·.es) = lows ∧ UnOK w' y lo pl cl ∧ Below w.heap.size w w' ∧ UnNew w.heap.size y lo pl)
theorem UnPost.copy {up : List Ent} {lows : List (List Ent)} {w w' : World} {a b : Value} (h : UnPost 0 up lows w (.returned (.tuple #[.agg #[a,b],.int .i64 0])) w') : CopyPost up lows w (.returned (.agg #[a,b])) w':=by
 obtain ⟨y,lo,pl,cl,e,h1⟩:=h
 injection e with e
 injection e with e
 have e:=(Array.mk.inj e)
 injection e with e _
 rw [e]
 exact ⟨y,lo,pl,cl,_,_,rfl,rfl,rfl,h1⟩
set_option maxRecDepth 100000 in
set_option maxHeartbeats 4000000 in
theorem unionCopy_any (y : Lay) (ls : List Lay) (pl : Option Addr) (cl : Nat) (w : World) (hUn : UnOK w y ls pl cl) (hy80 : y.es.length ≤ 80) (hl80 : ∀ x ∈ ls,x.es.length ≤ 80) (h4 : ls.length ≤ 4) :
  Calls Tryz.prog 39 #[.agg #[.slice y.ad y.es.length y.cap,.slice pl ls.length cl]] w (CopyPost y.es (ls.map (·.es)) w):=by
 obtain ⟨X,hX⟩ : ∃ X,(w.alloc (.cells #[.slice y.ad y.es.length y.cap,.slice pl ls.length cl] 26)).alloc (.cells #[.slice none 0 0,.slice none 0 0] 26) = X:=⟨_,rfl⟩
 have hBX : Below w.heap.size w X:=by rw [← hX];exact ((Below.refl _ _).alloc (Nat.le_refl _) _).alloc (by simp) _
 have hsX : X.heap.size = w.heap.size + 2:=by rw [← hX];simp
 have hcp : ∀ W,Below X.heap.size X W → Calls Tryz.prog 57 #[.slice pl ls.length cl] W (CopiesPost (ls.map (·.es)) W):=fun W hW => by
  have h:=(hUn.kept hBX).kept hW
  exact copies_any ls pl cl W h.lies (fun x hx => ⟨(h.each x hx).1.lies,(h.each x hx).2,hl80 x hx⟩) h4
 have bx:=box1_new hX
 have br:=box2_new hX
 have HU : Aside (UnOK w y ls pl cl ∧ Below w.heap.size w X ∧ (w.alloc (.cells #[.slice y.ad y.es.length y.cap,.slice pl ls.length cl] 26)).alloc (.cells #[.slice none 0 0,.slice none 0 0] 26) = X ∧ (∀ x ∈ ls,x.es.length ≤ 80) ∧ y.es.length ≤ 80 ∧ X.heap.size = w.heap.size + 2 ∧ X.heap[w.heap.size]? = some (.cells #[.slice y.ad y.es.length y.cap,.slice pl ls.length cl] 26) ∧ X.heap[w.heap.size + 1]? = some (.cells #[.slice none 0 0,.slice none 0 0] 26)):=⟨hUn,hBX,hX,hl80,hy80,hsX,bx,br⟩
 have hla : ∀ W,Below X.heap.size X W → Lies W y.ad y.es:=fun W hW => ((hUn.kept hBX).kept hW).up.lies
 have hupn:=hUn.upn
 have q0 : X.cell? ⟨w.heap.size,0,none⟩ = some (.slice y.ad y.es.length y.cap):=by simp [World.cell?,bx]
 have q1 : X.cell? ⟨w.heap.size,1,none⟩ = some (.slice pl ls.length cl):=by simp [World.cell?,bx]
 have r0 : X.cell? ⟨w.heap.size + 1,0,none⟩ = some (.slice none 0 0):=by simp [World.cell?,br]
 have lw : w.heap.size < X.heap.size:=by omega
 have lr : w.heap.size + 1 < X.heap.size:=by omega
 obtain ⟨yn,hyn⟩ : ∃ yn,yn = y.es.length:=⟨_,rfl⟩
 obtain ⟨ln,hln⟩ : ∃ ln,ln = ls.length:=⟨_,rfl⟩
 have HN : Aside (yn = y.es.length ∧ ln = ls.length):=⟨hyn,hln⟩
 have HX : Aside ((w.alloc (.cells #[.slice y.ad yn y.cap,.slice pl ln cl] 26)).alloc (.cells #[.slice none 0 0,.slice none 0 0] 26) = X):=by rw [hyn,hln];exact hX
 rw [← hyn] at q0
 rw [← hln] at q1 hcp
 rw [← hyn,← hln]
 have hy80' : yn ≤ 80:=by omega
 have n0:=World.new_ne X ⟨w.heap.size,0,none⟩ q0
 have n1:=World.new_ne X ⟨w.heap.size + 1,0,none⟩ r0
 clear hUn hBX hX bx br hyn hln hsX hl80 hy80
 have hgoA : True:=trivial
 have hgoC : True:=trivial
 go_enter Tryz.func39,Tryz.ntmps39
 go_wp2
 rw [HX.out]
 go_region_law (first
  | (refine step_copyE rfl _ _ rfl X.heap.size (by first | (simp [Act.eval];done) | fail) (by first | exact heap_alloc_last X _ | fail) y.ad yn y.cap y.es (by first | (simp [Act.eval];done) | fail) HN.out.1 (by first | exact hla _ (((Grown.refl X).alloc _).below.drew) | fail) hupn hy80' ?_;clear hgoA;intro g c w4 hO hg hB4 hk4;have HO4 : Aside (Own w4 g c y.es ∧ X.heap.size ≤ g):=⟨hO,hg⟩;have hX4 : Below X.heap.size X w4:=(((Below.refl _ _).alloc (Nat.le_refl _) _).drew).trans hB4;have m1:=(hX4.cell (p:=⟨w.heap.size,1,none⟩) lw).trans q1;clear hO hg hB4 hk4;have hord1 : True:=trivial)
  | (go_simp;go_at_call 57;refine (hcp _ (Below.refl _ _).drew).mono ?_;clear hcp hgoC;rintro r w3 ⟨⟨v8,lo,rfl,hR8,hm8,hL8⟩,hN8⟩;obtain ⟨p8,c8,hv8,_⟩:=hR8.form2;subst hv8;obtain ⟨l8,hl8⟩ : ∃ l8,l8 = lo.length:=⟨_,rfl⟩;have HL8 : Aside (l8 = lo.length):=hl8;rw [← hl8] at hR8 ⊢;clear hl8;have hX3 : Below X.heap.size X w3:=((Below.refl _ _).drew).trans hN8;have m0:=(hX3.cell (p:=⟨w.heap.size,0,none⟩) lw).trans q0;have H8 : Aside (RowsT w3 X.heap.size (.slice p8 l8 c8) lo ∧ lo.map (·.es) = ls.map (·.es) ∧ ∀ x ∈ lo,LayOwn X.heap.size w3 x):=⟨hR8,hm8,hL8⟩;clear hR8 hm8 hL8 hN8;have n3:=World.new_ne w3 ⟨w.heap.size,0,none⟩ m0;have hord3 : True:=trivial)
  | (go_simp;go_at_call 57;refine (hcp _ (((Grown.refl X).alloc _).below.drew)).mono ?_;clear hcp hgoC;rintro r w3 ⟨⟨v8,lo,rfl,hR8,hm8,hL8⟩,hN8⟩;obtain ⟨p8,c8,hv8,_⟩:=hR8.form2;subst hv8;obtain ⟨l8,hl8⟩ : ∃ l8,l8 = lo.length:=⟨_,rfl⟩;have HL8 : Aside (l8 = lo.length):=hl8;rw [← hl8] at hR8 ⊢;clear hl8;have hX3 : Below X.heap.size X w3:=Below.onto (((Grown.refl X).alloc _).below.drew) hN8;have m0:=(hX3.cell (p:=⟨w.heap.size,0,none⟩) lw).trans q0;have H8 : Aside (RowsT w3 (X.heap.size + 1) (.slice p8 l8 c8) lo ∧ lo.map (·.es) = ls.map (·.es) ∧ (∀ x ∈ lo,LayOwn (X.heap.size + 1) w3 x) ∧ w3.heap[X.heap.size]? = some (.cells #[] 53)):=⟨by simpa using hR8,hm8,by simpa using hL8,(hN8.block _ (by show X.heap.size < (X.alloc _).heap.size;simp)).trans (heap_alloc_last X _)⟩;clear hR8 hm8 hL8 hN8;have hord2 : True:=trivial)
  | (clear hord1;go_simp;go_at_call 57;refine (hcp _ hX4).mono ?_;clear hcp hgoC;rintro r w8 ⟨⟨v8,lo,rfl,hR8,hm8,hL8⟩,hN8⟩;obtain ⟨p8,c8,hv8,_⟩:=hR8.form2;subst hv8;obtain ⟨l8,hl8⟩ : ∃ l8,l8 = lo.length:=⟨_,rfl⟩;have HL8 : Aside (l8 = lo.length):=hl8;rw [← hl8] at hR8 ⊢;clear hl8;have hX8 : Below X.heap.size X w8:=Below.onto hX4 hN8;have H8 : Aside (RowsT w8 X.heap.size (.slice p8 l8 c8) lo ∧ lo.map (·.es) = ls.map (·.es) ∧ (∀ x ∈ lo,LayOwn X.heap.size w8 x) ∧ Own w8 g c y.es ∧ X.heap.size ≤ g):=⟨hR8.mono hX4.size,hm8,fun x hx => (by obtain ⟨b,e1,e2,e3⟩:=hL8 x hx;exact ⟨b,e1,e2,Nat.le_trans hX4.size e3⟩),HO4.out.1.below hN8 HO4.out.1.lt,HO4.out.2⟩;clear hR8 hm8 hL8 hN8 HO4;have k8 : w8.heap[w.heap.size + 1]? = some (.cells #[.slice none 0 0,.slice none 0 0] 26):=(hX8.block _ lr).trans HU.out.2.2.2.2.2.2.2;have x0 : w8.cell? ⟨w.heap.size + 1,0,none⟩ = some (.slice none 0 0):=(by simp [World.cell?,k8]);have x1 : w8.cell? ⟨w.heap.size + 1,1,none⟩ = some (.slice none 0 0):=(by simp [World.cell?,k8]);have f0 : w8.frozen? ⟨w.heap.size + 1,0,none⟩ = false:=(by simp [World.frozen?,k8]);have f1 : w8.frozen? ⟨w.heap.size + 1,1,none⟩ = false:=(by simp [World.frozen?,k8]);have HX8 : Aside (Below X.heap.size X w8):=hX8;clear hX8 k8)
  | (clear hord2;refine step_copyE rfl _ _ rfl X.heap.size (by first | (simp [Act.eval];done) | fail) (by first | exact H8.out.2.2.2 | fail) y.ad yn y.cap y.es (by first | (simp [Act.eval];done) | fail) HN.out.1 (by first | exact hla _ hX3 | fail) hupn hy80' ?_;clear hgoA;intro g c w8 hO hg hB4 hk4;have hX8 : Below X.heap.size X w8:=hX3.trans hB4;have H9 : Aside (RowsT w8 X.heap.size (.slice p8 l8 c8) lo ∧ lo.map (·.es) = ls.map (·.es) ∧ (∀ x ∈ lo,LayOwn X.heap.size w8 x) ∧ Own w8 g c y.es ∧ X.heap.size ≤ g):=⟨(H8.out.1.at (fun b h1 h2 => hk4 b h2 (by omega))).mono (by omega),H8.out.2.1,fun x hx => (by obtain ⟨b,e1,e2,e3⟩:=H8.out.2.2.1 x hx;exact ⟨b,e1,e2.kept (hk4 b e2.lt (by omega)),by omega⟩),hO,hg⟩;clear H8;have H8:=H9;clear H9 hO hg hB4 hk4;have k8 : w8.heap[w.heap.size + 1]? = some (.cells #[.slice none 0 0,.slice none 0 0] 26):=(hX8.block _ lr).trans HU.out.2.2.2.2.2.2.2;have x0 : w8.cell? ⟨w.heap.size + 1,0,none⟩ = some (.slice none 0 0):=(by simp [World.cell?,k8]);have x1 : w8.cell? ⟨w.heap.size + 1,1,none⟩ = some (.slice none 0 0):=(by simp [World.cell?,k8]);have f0 : w8.frozen? ⟨w.heap.size + 1,0,none⟩ = false:=(by simp [World.frozen?,k8]);have f1 : w8.frozen? ⟨w.heap.size + 1,1,none⟩ = false:=(by simp [World.frozen?,k8]);have HX8 : Aside (Below X.heap.size X w8):=hX8;clear hX8 k8)
  | (clear hord3;refine step_copyE rfl _ _ rfl w3.heap.size (by first | (simp [Act.eval];done) | fail) (by first | exact heap_alloc_last w3 _ | fail) y.ad yn y.cap y.es (by first | (simp [Act.eval];done) | fail) HN.out.1 (by first | exact hla _ (Below.onto hX3 ((Grown.refl w3).alloc _).below) | fail) hupn hy80' ?_;clear hgoA;intro g c w8 hO hg hB4 hk4;have hN8 : Below w3.heap.size w3 w8:=((Below.refl _ _).alloc (Nat.le_refl _) _).trans hB4;have hX8 : Below X.heap.size X w8:=Below.onto hX3 hN8;have H9 : Aside (RowsT w8 X.heap.size (.slice p8 l8 c8) lo ∧ lo.map (·.es) = ls.map (·.es) ∧ (∀ x ∈ lo,LayOwn X.heap.size w8 x) ∧ Own w8 g c y.es ∧ X.heap.size ≤ g):=⟨H8.out.1.below hN8,H8.out.2.1,fun x hx => (by obtain ⟨b,e1,e2,e3⟩:=H8.out.2.2 x hx;exact ⟨b,e1,e2.below hN8 e2.lt,e3⟩),hO,Nat.le_trans hX3.size hg⟩;clear H8;have H8:=H9;clear H9 hO hg hB4 hk4 hN8;have k8 : w8.heap[w.heap.size + 1]? = some (.cells #[.slice none 0 0,.slice none 0 0] 26):=(hX8.block _ lr).trans HU.out.2.2.2.2.2.2.2;have x0 : w8.cell? ⟨w.heap.size + 1,0,none⟩ = some (.slice none 0 0):=(by simp [World.cell?,k8]);have x1 : w8.cell? ⟨w.heap.size + 1,1,none⟩ = some (.slice none 0 0):=(by simp [World.cell?,k8]);have f0 : w8.frozen? ⟨w.heap.size + 1,0,none⟩ = false:=(by simp [World.frozen?,k8]);have f1 : w8.frozen? ⟨w.heap.size + 1,1,none⟩ = false:=(by simp [World.frozen?,k8]);have HX8 : Aside (Below X.heap.size X w8):=hX8;clear hX8 k8))
 all_goals
  go_wp2
  obtain ⟨s0,s1⟩:=res_set (.slice (some ⟨g,0,none⟩) yn c) (.slice p8 l8 c8) x0 x1
  refine bodyPost_ret (v:=.agg #[.slice (some ⟨g,0,none⟩) yn c,.slice p8 l8 c8]) (by simp [results,Tryz.results39,go_sem,s0,s1]) rfl ?_
  obtain ⟨u1,u2,u3,u4,u5,u6,u7,u8⟩:=HU.out
  obtain ⟨a1,a2,a3,a4,a5⟩:=H8.out
  have hR : RowsT w8 X.heap.size (.slice p8 l8 c8) lo:=a1
  exact (un_end (ls:=ls) (by rw [u3,← u6];exact HX8.out) a4 (by omega) hR (by omega) a2 a3 u1.up.fits u5 u4 (fun x hx => (u1.each x hx).1.fits) HN.out.1 HL8.out _ _).copy
structure Av where
 err : Int
 n : Int
 text : ByteArray
 p : Option Addr
 k : Nat
 c : Nat
def encA (y : Av) : List Value:=[.int .i64 y.err,.int .i64 y.n,.string y.text,.slice y.p y.k y.c]
theorem encA_lt {e : Av} {i : Nat} {v : Value} (h : (encA e)[i]? = some v) : i < 4:=by
 have:=(List.getElem?_eq_some_iff.1 h).1;exact this
theorem flatA_at {t : List Av} {j i : Nat} {e : Av} {v : Value} (h : t[j]? = some e) (hv : (encA e)[i]? = some v) : (t.flatMap encA)[j * 4 + i]? = some v:=by
 have hi:=encA_lt hv
 induction t generalizing j with
 | nil => simp at h
 | cons x r ih =>
  rw [List.flatMap_cons]
  cases j with
  | zero => simp at h;subst h;rw [List.getElem?_append_left (by show _ < 4;omega)];simpa using hv
  | succ j =>
   rw [List.getElem?_append_right (by show 4 ≤ _;omega),show (j + 1) * 4 + i - (encA x).length = j * 4 + i from by show (j + 1) * 4 + i - 4 = _;omega]
   exact ih (by simpa using h)
theorem flatA_one {t : List Av} {u : Value} (h : u ∈ t.flatMap encA) : u.oneCell' = true:=by
 obtain ⟨e,_,he⟩:=List.mem_flatMap.1 h
 simp [encA] at he
 rcases he with rfl | rfl | rfl | rfl <;> rfl
theorem infoA : ∃ i0,Tryz.prog.info? 38 = some i0 ∧ i0.zero = some (.agg #[.int .i64 0,.int .i64 0,.string ⟨#[]⟩,.slice none 0 0]) ∧ i0.size = 4 ∧ i0.bytes = 56:=by
 have h : (Tryz.prog.info? 38).map (fun i => (i.zero,i.size,i.bytes)) = some (some (.agg #[.int .i64 0,.int .i64 0,.string ⟨#[]⟩,.slice none 0 0]),4,56):=by kernel_rfl
 cases hi : Tryz.prog.info? 38 with
 | none => rw [hi] at h;cases h
 | some i0 =>
  rw [hi] at h
  simp only [Option.map_some,Option.some.injEq,Prod.mk.injEq] at h
  exact ⟨i0,rfl,h.1,h.2.1,h.2.2⟩
def RowsA (w : World) (base : Nat) (v : Value) (l : List Av) : Prop:=w.ownsRow base 38 4 v l.length (l.flatMap encA)
theorem RowsA.nil (w : World) (base : Nat) : RowsA w base (.slice none 0 0) []:=World.ownsRow_nil _ _ _ _
theorem RowsA.own {w : World} {base : Nat} {v : Value} {l : List Av} (h : RowsA w base v l) {g : Nat} (hg : v.ownBlock = some g) : base ≤ g ∧ ∃ cur,w.heap[g]? = some (.cells cur 38 (0,0)):=by
 obtain ⟨_,⟨e,_⟩ | ⟨g',cap,cur,e,hb,hh,_⟩⟩:=h
 ·rw [e] at hg;cases hg
 ·rw [e] at hg
  simp [Value.ownBlock] at hg
  subst hg
  exact ⟨hb,cur,hh⟩
theorem RowsA.at {w w' : World} {base : Nat} {v : Value} {l : List Av} (h : RowsA w base v l) (hk : ∀ g,v.ownBlock = some g → w'.heap[g]? = w.heap[g]?) : RowsA w' base v l:=by
 refine ⟨h.1,h.2.imp id ?_⟩
 rintro ⟨g,cap,cur,e,hg,hh,r⟩
 exact ⟨g,cap,cur,e,hg,(hk g (by rw [e];rfl)).trans hh,r⟩
theorem rowA_new (W : World) (y : Av) : ∀ j u,(encA y)[j]? = some u → (W.alloc (.cells #[.int .i64 y.err,.int .i64 y.n,.string y.text,.slice y.p y.k y.c] 38)).cell? ((⟨W.heap.size,0,none⟩ : Addr).add j) = some u:=by
 intro j u h
 have hj:=encA_lt h
 obtain rfl | rfl | rfl | rfl : j = 0 ∨ j = 1 ∨ j = 2 ∨ j = 3:=by omega
 all_goals (simp [encA] at h;subst h;rw [Addr.add_lit];simp)
theorem append_ans {ops : Array Oper} {rest : List Oper} {o : Oper} {a : Act} {Q : Exit → Act → World → Prop} (X : World) (y : Av) (hgd : o.guard = none) (s x : Operand)
  (ho : o.op = .call { callee:=.builtin .append,args:=#[s,x],argTypes:=#[30,30] }) (base : Nat) (v : Value) (l : List Av) (hs : a.eval s = v) (hrow : RowsA X base v l) (hlen : l.length ≤ 20000) (hbase : base ≤ X.heap.size)
  (hx : a.eval x = .slice (some ⟨X.heap.size,0,none⟩) 1 1)
  (h : ∀ v' w',RowsA w' base v' (l ++ [y]) → X.heap.size ≤ w'.heap.size → (∀ b,b < X.heap.size → v.ownBlock ≠ some b → w'.heap[b]? = X.heap[b]?) → (∀ g,v'.ownBlock = some g → v.ownBlock = some g ∨ X.heap.size ≤ g) → Below base X w' → wpList Tryz.prog ops Q rest (a.put o.dst v') w') :
  wpList Tryz.prog ops Q (o :: rest) a (X.alloc (.cells #[.int .i64 y.err,.int .i64 y.n,.string y.text,.slice y.p y.k y.c] 38)):=by
 obtain ⟨i0,hi,hz0,hz1,hz2⟩:=infoA
 have hrow2:=World.ownsRow.alloc hrow (.cells #[.int .i64 y.err,.int .i64 y.n,.string y.text,.slice y.p y.k y.c] 38)
 have hB0 : Below base X (X.alloc (.cells #[.int .i64 y.err,.int .i64 y.n,.string y.text,.slice y.p y.k y.c] 38)):=(Below.refl base X).alloc hbase _
 have hbk : ∀ b,b < X.heap.size → (X.alloc (.cells #[.int .i64 y.err,.int .i64 y.n,.string y.text,.slice y.p y.k y.c] 38)).heap[b]? = X.heap[b]?:=fun b hb => ((Grown.refl X).alloc _).below.block b hb
 have hnew:=rowA_new X y
 have hsz : (X.alloc (.cells #[.int .i64 y.err,.int .i64 y.n,.string y.text,.slice y.p y.k y.c] 38)).heap.size = X.heap.size + 1:=by simp
 generalize X.alloc (.cells #[.int .i64 y.err,.int .i64 y.n,.string y.text,.slice y.p y.k y.c] 38) = Z at *
 obtain ⟨hl1,⟨hv,hn0⟩ | ⟨g,cap,cur,hv,hg,hh,hnc,hm,hcs,ht⟩⟩:=id hrow2
 ·refine wpList_append_grows Z hgd s x 30 ho 38 i0 _ 4 56 Tryz.underlying30 hi hz0 hz1 hz2 rfl (by decide) none 0 0 [] (by rw [hs,hv]) (fun _ => ⟨rfl,rfl⟩) rfl nofun ⟨X.heap.size,0,none⟩ 1 1 (encA y) hx rfl hnew (fun u hu => flatA_one (t:=[y]) (by simpa using hu)) (by omega) (by unfold maxLen;omega) (by omega) ?_
  intro v' w' hown hgrow
  have hl : l = []:=List.eq_nil_of_length_eq_zero hn0
  subst hl
  have hR : RowsA w' Z.heap.size v' [y]:=by simpa [RowsA] using hown
  refine h v' w' ⟨hR.1,hR.2.imp id (fun ⟨g,c,cu,e,h1,r⟩ => ⟨g,c,cu,e,by omega,r⟩)⟩ (by have:=hgrow.size;omega) (fun b hb hne => (hgrow.block b (by omega) (by simp)).trans (hbk b hb)) (fun g hg => .inr (by have:=(hR.own hg).1;omega)) (hB0.grown hgrow (by omega) (fun k hk => by simp at hk))
 ·rcases Nat.lt_or_ge cap (l.length + 1) with hfull | hroom
  ·refine wpList_append_grows Z hgd s x 30 ho 38 i0 _ 4 56 Tryz.underlying30 hi hz0 hz1 hz2 rfl (by decide) (some ⟨g,0,none⟩) l.length cap (l.flatMap encA) (by rw [hs,hv]) nofun hl1 (fun b hb => by cases hb;exact World.ownsRow.cells hrow2 (by rw [hv];rfl)) ⟨X.heap.size,0,none⟩ 1 1 (encA y) hx rfl hnew (fun u hu => flatA_one (t:=[y]) (by simpa using hu)) hfull (by unfold maxLen;omega) (by omega) ?_
   intro v' w' hown hgrow
   have hR : RowsA w' Z.heap.size v' (l ++ [y]):=by simpa [RowsA] using hown
   refine h v' w' ⟨hR.1,hR.2.imp id (fun ⟨g,c,cu,e,h1,r⟩ => ⟨g,c,cu,e,by omega,r⟩)⟩ (by have:=hgrow.size;omega) (fun b hb hne => (hgrow.block b (by omega) (by simp)).trans (hbk b hb)) (fun g hg => .inr (by have:=(hR.own hg).1;omega)) (hB0.grown hgrow (by omega) (fun k hk => by simp at hk))
  ·refine wpList_plain hgd fun K hK => ?_
   obtain ⟨v',w',hr,h2,h3,_⟩:=run_append_own (P:=Tryz.prog) Z base 30 o.type 38 i0 _ 4 56 Tryz.underlying30 hi hz0 hz1 hz2 rfl (by decide) v l.length (l.flatMap encA) hrow2 ⟨X.heap.size,0,none⟩ 1 1 (encA y) rfl hnew (fun u hu => flatA_one (t:=[y]) (by simpa using hu)) (by unfold maxLen;omega) (by omega) (by omega)
   have hr2:=run_append_room_cells (P:=Tryz.prog) Z 30 o.type 38 i0 Tryz.underlying30 hi g 0 l.length cap ⟨X.heap.size,0,none⟩ 1 1 (encA y) (by rw [hz1];rfl) hnew (fun u hu => flatA_one (t:=[y]) (by simpa using hu)) hroom (fun j hj => by
    have hj : j < 4:=hj
    rw [hz1]
    have : l.length * 4 + j < cur.size:=by omega
    rw [Nat.zero_add]
    simp [World.cell?,hh,this]) (fun j hj => by simp [World.frozen?,hh])
   rw [← hv] at hr2
   have hev : v' = .slice (some ⟨g,0,none⟩) (l.length + 1) cap:=by
    rw [hr] at hr2
    injection hr2
   have hR : RowsA w' base v' (l ++ [y]):=by simpa [RowsA] using h2
   unfold Oper.wp execOp
   simp only [ho,resolve,invoke,builtin,Sem.run_bind,Sem.run_pure,Result.andThen_ok,List.map_toArray,List.map_cons,List.map_nil,hs,hx,hr]
   refine hK _ _ (h v' w' hR (by have:=h3.size;omega) (fun b hb hne => (h3.block b (by omega) (fun e => hne e.symm)).trans (hbk b hb)) (fun g' hg' => .inl ?_) (hB0.grown h3 (by omega) (fun k hk => (World.ownsRow.lt hrow k hk).1)))
   rw [hev] at hg'
   rw [hv,← hg']
   rfl
end Go.Proofs.YthfeoiffoeagkaaGreatDoor
