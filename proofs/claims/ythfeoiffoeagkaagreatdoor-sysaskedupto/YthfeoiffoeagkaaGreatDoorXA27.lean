/-
  The step of write.
-/
import Derived.Test.YthfeoiffoeagkaaGreatDoorXA26
namespace Go.Proofs.YthfeoiffoeagkaaGreatDoor
open Go.RowKit PM Go.Sort
set_option linter.unusedVariables false
set_option maxHeartbeats 1000000 in
theorem IG {base : Nat} {X : World} {S : Nat} {s s' : Sy} {L : Lay6} (h : aj base X S s L) (hn : dH s s') (Bk Be Bo Bt j : Nat) (o : Opn) (e : Int) (t : ByteArray) (g : FuncId) (cap : Array Value) (eg : ∀ args w,(callFunc g args).run Tryz.prog w = .ok (.enter g args) w) (ho : s.opens[j]? = some o) (ho' : s'.opens[j]? = some o) (hbk : X.cell? ⟨Bk,0,none⟩ = some (.func (.func g) #[] cap)) (hbe : X.cell? ⟨Be,0,none⟩ = some (.int .i64 e)) (hbo : X.cell? ⟨Bo,0,none⟩ = some (.pointer (some ⟨L.ob j,0,none⟩))) (hbt : X.cell? ⟨Bt,0,none⟩ = some (.string t)) (hNe : ¬ Sp S s L Be) (hNo : ¬ Sp S s L Bo) (hNt : ¬ Sp S s L Bt)
  (hkp : Calls Tryz.prog g cap (X.alloc (.cells #[.int .i64 0,.int .i64 0,.string ⟨#[]⟩,.slice none 0 0] 38)) (qg base S s s' { L with ex:=fun b => b = X.heap.size ∨ L.ex b } (X.alloc (.cells #[.int .i64 0,.int .i64 0,.string ⟨#[]⟩,.slice none 0 0] 38)))) :
  Calls Tryz.prog 200 #[.pointer (some ⟨Bk,0,none⟩),.pointer (some ⟨Be,0,none⟩),.pointer (some ⟨Bo,0,none⟩),.pointer (some ⟨Bt,0,none⟩)] X (dU base S s L (s'.setO j { o with pos:=e }) (ans t.size ⟨#[]⟩) X):=by
 have a0:=Lib.cell?_alloc_some (.cells #[.int .i64 0,.int .i64 0,.string ⟨#[]⟩,.slice none 0 0] 38) hbk
 have hbase : base ≤ X.heap.size:=Nat.le_trans h.base.1 (Nat.le_of_lt h.lt)
 have HX : Aside (S < X.heap.size ∧ ¬ Fb s { L with ex:=fun b => b = X.heap.size ∨ L.ex b } X.heap.size ∧ Below base X (X.alloc (.cells #[.int .i64 0,.int .i64 0,.string ⟨#[]⟩,.slice none 0 0] 38)) ∧ (X.alloc (.cells #[.int .i64 0,.int .i64 0,.string ⟨#[]⟩,.slice none 0 0] 38)).heap[X.heap.size]? = some (.cells #[.int .i64 0,.int .i64 0,.string ⟨#[]⟩,.slice none 0 0] 38) ∧ s'.opens[j]? = some o ∧ L.ob j < X.heap.size ∧ s.opens[j]? = some o):=⟨h.lt,fun ⟨i,hi,e⟩ => by have e : X.heap.size = L.fb i:=e;have:=h.flt hi;omega,(((Grown.refl X).alloc _).below).mono hbase,heap_alloc_last X _,ho',h.olt (List.getElem?_eq_some_iff.1 ho).1,ho⟩
 have HK : Aside (∀ X2,Keep (fun b => b = S ∨ Fb s { L with ex:=fun b => b = X.heap.size ∨ L.ex b } b) (X.alloc (.cells #[.int .i64 0,.int .i64 0,.string ⟨#[]⟩,.slice none 0 0] 38)) X2 → X2.cell? ⟨Be,0,none⟩ = some (.int .i64 e) ∧ X2.cell? ⟨Bo,0,none⟩ = some (.pointer (some ⟨L.ob j,0,none⟩)) ∧ X2.cell? ⟨Bt,0,none⟩ = some (.string t)):=by
  show ∀ X2,_
  intro X2 hk
  have go : ∀ B v,X.cell? ⟨B,0,none⟩ = some v → ¬ Sp S s L B → X2.cell? ⟨B,0,none⟩ = some v:=fun B v hv hn => by
   have hl:=block_lt_of_cell hv
   simp only at hl
   have hB:=((Grown.refl X).alloc (.cells #[.int .i64 0,.int .i64 0,.string ⟨#[]⟩,.slice none 0 0] 38)).below
   refine (bW ((hk.block B (Nat.lt_of_lt_of_le hl hB.size) ?_).trans (hB.block B hl)) 0).trans hv
   rintro (e | ⟨i,hi,e⟩)
   ·exact hn (.inl (.inl e))
   ·exact hn (.inr (.inr ⟨i,hi,e⟩))
  exact ⟨go _ _ hbe hNe,go _ _ hbo hNo,go _ _ hbt hNt⟩
 clear h hbk hbe hbo hbt hNe hNo hNt ho ho'
 go_enter Tryz.func200,Tryz.ntmps200
 go_wp2_with (go_at_fn g;refine (Calls.mono (by simpa using hkp) ?_);clear hkp;rintro r X2 ⟨rfl,L2,hA2,hob,hf2,hx2,hB2,hk2⟩;obtain ⟨t0,t1,t2⟩:=HK.out X2 hk2;have hob : L2.ob = L.ob:=hob;obtain ⟨⟨_,_,y2⟩,y3⟩:=hA2.iI HX.out.2.2.2.2.1;rw [hob] at y2 y3;have hbk2 : X2.heap[X.heap.size]? = some (.cells #[.int .i64 0,.int .i64 0,.string ⟨#[]⟩,.slice none 0 0] 38):=(hk2.block _ (Array.getElem?_eq_some_iff.1 HX.out.2.2.2.1).1 (by rintro (e | e);(have:=HX.out.1;omega);exact HX.out.2.1 e)).trans HX.out.2.2.2.1;have n1 : ¬ L.ob j = X.heap.size:=(by have:=HX.out.2.2.2.2.2.1;omega);have n2 : ¬ X.heap.size = L.ob j:=(fun e => n1 e.symm);have n3 : ¬ L.ob j = Bt:=(fun e => by (rw [← e] at t2;obtain ⟨⟨y1,_,_⟩,_⟩:=hA2.iI HX.out.2.2.2.2.1;rw [hob,t2] at y1;cases y1));have H2 : Aside (aj base X2 S s' L2 ∧ L2.ob = L.ob ∧ qL L L2 X.heap.size ∧ Below base X X2 ∧ X2.heap[X.heap.size]? = some (.cells #[.int .i64 0,.int .i64 0,.string ⟨#[]⟩,.slice none 0 0] 38) ∧ Keep (Mine S s L) X X2):=⟨hA2,hob,⟨hob,hf2,fun b => (by rw [hx2])⟩,HX.out.2.2.1.trans hB2,hbk2,Keep.mine (((Grown.refl X).alloc _).below) hk2 (fun b hb => hb.imp id .inr)⟩;obtain ⟨⟨d0,d1,d2,d3⟩,z0,z1,z2,z3⟩:=bX hbk2;clear hA2 hx2 hB2 hk2 hbk2)
 refine bodyPost_ret (v:=.agg #[.int .i64 0,.int .i64 t.size,.string ⟨#[]⟩,.slice none 0 0]) (by simp [results,Tryz.results200,go_sem,d0,d1,d2,d3]) rfl ?_
 obtain ⟨q1,q0,q2,q3,q4,q5⟩:=H2.out
 have hop:=HX.out.2.2.2.2.1
 have hb:=(iJ (q1.opn j o hop) (.int .i64 e)).2.2
 rw [q0] at hb
 have r1 : aj base (X2.setCell ⟨L.ob j,2,none⟩ (.int .i64 e)) S (s'.setO j { o with pos:=e }) L2:=q1.opening (o':={ o with pos:=e }) hop rfl (by rw [q0];exact Keep.set (sp:=(· = L.ob j)) rfl _ 2 (.int .i64 e)) (by rw [q0];exact hb)
 have r4 : ((X2.setCell ⟨L.ob j,2,none⟩ (.int .i64 e))).heap[X.heap.size]? = some (.cells #[.int .i64 0,.int .i64 0,.string ⟨#[]⟩,.slice none 0 0] 38):=(Below.heap_setCell _ _ _ _ n2).trans q4
 have hbs : base ≤ L.ob j:=by rw [← q0];exact q1.base.2.1 j (List.getElem?_eq_some_iff.1 hop).1
 exact Mid.fin (L':=L2) ⟨r1,q2,q3.setCell (p:=⟨L.ob j,2,none⟩) hbs _,q5.trans (Keep.set (.inr (.inl ⟨j,(List.getElem?_eq_some_iff.1 HX.out.2.2.2.2.2.2).1,rfl⟩)) _ 2 _),r4⟩ (hn.trans ⟨by simp [Sy.setO],rfl⟩) _ _ _ _ (fun W => iV _ _ _ _)
end Go.Proofs.YthfeoiffoeagkaaGreatDoor
