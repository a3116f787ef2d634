/-
  The steps of remove and rename.
-/
import Derived.Test.YthfeoiffoeagkaaGreatDoorVA29
namespace Go.Proofs.YthfeoiffoeagkaaGreatDoor
open Go.RowKit PM Go.Sort
set_option linter.unusedVariables false
theorem St.aside {W : World} {S : Nat} {s : Sy} {L : Lay6} {F : World → Prop} (h : St (Sp S s L) W F) (o : Obj) : St (Sp S s { L with ex:=fun b => b = W.heap.size ∨ L.ex b }) (W.alloc o) F:=fun Y hY => by
 have hB : Below W.heap.size W (W.alloc o):=((Grown.refl W).alloc _).below
 exact h Y ⟨Nat.le_trans hB.size hY.size,fun b hb hn => (hY.block b (Nat.lt_of_lt_of_le hb hB.size) (fun hs => hn (by
   rcases hs with (rfl | (rfl | hx)) | hs
   ·exact .inl (.inl rfl)
   ·omega
   ·exact .inl (.inr hx)
   ·exact .inr hs))).trans (hB.block b hb)⟩
theorem Sp.upd {S : Nat} {s : Sy} {L : Lay6} {g : Fl → Fl} {l : List Nat} {b : Nat} : Sp S (s.updTo g l) L b ↔ Sp S s L b:=by simp [Sp,Sy.updTo]
theorem St.sp {sp sp' : Nat → Prop} {W : World} {F : World → Prop} (h : St sp W F) (hs : ∀ b,sp' b → sp b) : St sp' W F:=h.more fun b _ hb => hs b hb
theorem SysAt.exNe {base : Nat} {W : World} {S : Nat} {s : Sy} {L : Lay6} (h : SysAt base W S s L) {B : Nat} (hB : W.heap.size ≤ B) : ¬ Sp S s L B:=fun hb => absurd (h.spBase hb).2 (by omega)
theorem SameN.upd (s : Sy) (g : Fl → Fl) (l : List Nat) (a : List Ent) (b : List (List Ent)) : SameN s ((s.updTo g l).withU a b):=⟨rfl,by simp [Sy.updTo,Sy.withU]⟩
set_option maxHeartbeats 1000000 in
theorem removeDo {base : Nat} {X : World} {S : Nat} {s : Sy} {L : Lay6} (h : SysAt base X S s L) (hg : Gl base X) (B0 B1 B2 : Nat) (hb0 : X.cell? ⟨B0,0,none⟩ = some (.pointer (some ⟨S,0,none⟩))) (q : ByteArray) (hbq : X.cell? ⟨B1,0,none⟩ = some (.string q)) (hN0 : ¬ Sp S s L B0) (hN1 : ¬ Sp S s L B1) (hN2 : ¬ Sp S s L B2) (y : Lay) (lo : List Lay) (pl : Option Addr) (cl : Nat) (hb1 : UnBox X B2 y lo pl cl) (hU : St (Sp S s L) X (fun X => UnOK X y lo pl cl)) (h0 : (wrongU (y.es :: lo.map (·.es))).1 = 0) (hsz : ∀ i ∈ s.reach,∀ f,s.files[i]? = some f → f.path.size ≤ 80) :
  Calls Tryz.prog 129 #[.pointer (some ⟨B0,0,none⟩),.pointer (some ⟨B1,0,none⟩),.pointer (some ⟨B2,0,none⟩)] X (DoPost base S s L ((s.release q).withU y.es (lo.map (·.es))) (ans 0 ⟨#[]⟩) X):=by
 obtain ⟨c0,c1⟩:=hb1
 have hbase : base ≤ X.heap.size:=Nat.le_trans h.base.1 (Nat.le_of_lt h.lt)
 obtain ⟨L1,hL1⟩ : ∃ L1 : Lay6,L1 = { L with ex:=fun b => b = X.heap.size ∨ L.ex b }:=⟨_,rfl⟩
 obtain ⟨X1,hX1⟩ : ∃ X1,X.alloc (.cells #[.int .i64 0,.int .i64 0,.string ⟨#[]⟩,.slice none 0 0] 38) = X1:=⟨_,rfl⟩
 have hB1 : Below X.heap.size X X1:=by rw [← hX1];exact ((Grown.refl X).alloc _).below
 have h1:=h.aside (.cells #[.int .i64 0,.int .i64 0,.string ⟨#[]⟩,.slice none 0 0] 38)
 have hU1:=St.aside hU (.cells #[.int .i64 0,.int .i64 0,.string ⟨#[]⟩,.slice none 0 0] 38)
 rw [hX1,← hL1] at h1 hU1
 have hx1 : L1.ex X.heap.size:=by rw [hL1];exact .inl rfl
 have hbk1 : X1.heap[X.heap.size]? = some (.cells #[.int .i64 0,.int .i64 0,.string ⟨#[]⟩,.slice none 0 0] 38):=by rw [← hX1];exact heap_alloc_last X _
 have hsp1 : ∀ b,b < X.heap.size → Sp S s L1 b → Sp S s L b:=by
  rintro b hb hs
  rw [hL1] at hs
  rcases hs with (rfl | (rfl | hx)) | hs
  ·exact .inl (.inl rfl)
  ·omega
  ·exact .inl (.inr hx)
  ·exact .inr hs
 have hrel:=release_any h1 q hsz
 have HA : Aside (SysAt base X1 S s L1 ∧ Gl base X1 ∧ St (Sp S s L1) X1 (fun X => UnOK X y lo pl cl) ∧ (wrongU (y.es :: lo.map (·.es))).1 = 0 ∧ Below base X X1 ∧ L1.ex X.heap.size ∧ X1.heap[X.heap.size]? = some (.cells #[.int .i64 0,.int .i64 0,.string ⟨#[]⟩,.slice none 0 0] 38) ∧ S < X.heap.size ∧ ¬ Fb s L1 X.heap.size):=⟨h1,hg.kept (hB1.mono hbase),hU1,h0,hB1.mono hbase,hx1,hbk1,h.lt,fun ⟨i,hi,e⟩ => by rw [hL1] at e;have e : X.heap.size = L.fb i:=e;have:=h.flt hi;omega⟩
 have l0:=block_lt_of_cell hb0
 have l1:=block_lt_of_cell hbq
 have l2:=block_lt_of_cell c0
 simp only at l0 l1 l2
 have HK : Aside (∀ X2,Keep (Sp S s L1) X1 X2 → X2.cell? ⟨B0,0,none⟩ = some (.pointer (some ⟨S,0,none⟩)) ∧ X2.cell? ⟨B2,0,none⟩ = some (.slice y.ad y.es.length y.cap) ∧ X2.cell? ⟨B2,1,none⟩ = some (.slice pl lo.length cl)):=by
  show ∀ X2,_
  intro X2 hk
  have f0 : X2.heap[B0]? = X.heap[B0]?:=(hk.block B0 (Nat.lt_of_lt_of_le l0 hB1.size) (fun hs => hN0 (hsp1 _ l0 hs))).trans (hB1.block _ l0)
  have f2 : X2.heap[B2]? = X.heap[B2]?:=(hk.block B2 (Nat.lt_of_lt_of_le l2 hB1.size) (fun hs => hN2 (hsp1 _ l2 hs))).trans (hB1.block _ l2)
  exact ⟨(cell_eq f0 0).trans hb0,(cell_eq f2 0).trans c0,(cell_eq f2 1).trans c1⟩
 have a0:=Lib.cell?_alloc_some (.cells #[.int .i64 0,.int .i64 0,.string ⟨#[]⟩,.slice none 0 0] 38) hb0
 have a1:=Lib.cell?_alloc_some (.cells #[.int .i64 0,.int .i64 0,.string ⟨#[]⟩,.slice none 0 0] 38) hbq
 have HE : Aside (X.alloc (.cells #[.int .i64 0,.int .i64 0,.string ⟨#[]⟩,.slice none 0 0] 38) = X1):=hX1
 have HKX : Aside (Below X.heap.size X X1 ∧ L1.ex = (fun b => b = X.heap.size ∨ L.ex b) ∧ L1.fb = L.fb ∧ L1.ob = L.ob):=⟨hB1,by rw [hL1],by rw [hL1],by rw [hL1]⟩
 rw [← hX1] at hrel
 clear h hg hU h0 hB1 h1 hU1 hX1 hb0 hbq c0 c1 hsz hx1 hbk1 hsp1 hL1 hN0 hN1 hN2 l0 l1 l2
 obtain ⟨yn,hyn⟩ : ∃ yn,yn = y.es.length:=⟨_,rfl⟩
 obtain ⟨ln,hln⟩ : ∃ ln,ln = lo.length:=⟨_,rfl⟩
 have HN : Aside (yn = y.es.length ∧ ln = lo.length):=⟨hyn,hln⟩
 rw [← hyn,← hln] at HK
 clear hyn hln
 go_enter Tryz.func129,Tryz.ntmps129
 go_wp2_with (first
  | (go_at_call 130;refine hrel.mono ?_;clear hrel;rintro r X2 ⟨rfl,hA2,hB2,hk2⟩;rw [HE.out] at hB2 hk2;obtain ⟨t0,t1,t2⟩:=HK.out X2 (hk2.weak fun b hb => .inr (.inr hb));have hst:=settle_any hA2 (HA.out.2.1.kept hB2) y lo pl cl ((HA.out.2.2.1.on (hk2.weak fun b hb => .inr (.inr hb))).sp fun b hb => Sp.upd.1 hb) HA.out.2.2.2.1;rw [← HN.out.1,← HN.out.2] at hst;have H2 : Aside (Below base X X2 ∧ X2.heap[X.heap.size]? = some (.cells #[.int .i64 0,.int .i64 0,.string ⟨#[]⟩,.slice none 0 0] 38) ∧ Keep (Fb s L1) X1 X2):=⟨HA.out.2.2.2.2.1.trans hB2,(hk2.block _ (Array.getElem?_eq_some_iff.1 HA.out.2.2.2.2.2.2.1).1 HA.out.2.2.2.2.2.2.2.2).trans HA.out.2.2.2.2.2.2.1,hk2⟩;clear hA2 hB2 hk2)
  | (go_at_call 124;refine hst.mono ?_;clear hst;rintro r X3 ⟨rfl,hS3⟩;obtain ⟨L3,hA3,ho3,hf3,hx3,hb3,hk3⟩:=hS3;have hbk : X3.heap[X.heap.size]? = some (.cells #[.int .i64 0,.int .i64 0,.string ⟨#[]⟩,.slice none 0 0] 38):=(hk3.block _ (Array.getElem?_eq_some_iff.1 H2.out.2.1).1 (fun e => by have:=HA.out.2.2.2.2.2.2.2.1;omega)).trans H2.out.2.1;have H3 : Aside (Mid base S s L ((s.release q).withU y.es (lo.map (·.es))) L3 X X3):=⟨hA3,⟨ho3.trans HKX.out.2.2.2,hf3.trans HKX.out.2.2.1,fun b => (by rw [hx3,HKX.out.2.1])⟩,H2.out.1.trans hb3,(Keep.mine HKX.out.1 H2.out.2.2 (fun b ⟨i,hi,e⟩ => .inr (.inr ⟨i,hi,by rw [← HKX.out.2.2.1];exact e⟩))).trans (hk3.weak fun b hb => .inl hb),hbk⟩;obtain ⟨⟨d0,d1,d2,d3⟩,z0,z1,z2,z3⟩:=cells4 hbk;clear hA3 hx3 hb3 hk3 hbk))
 refine bodyPost_ret (v:=.agg #[.int .i64 0,.int .i64 0,.string ⟨#[]⟩,.slice none 0 0]) (by simp [results,Tryz.results129,go_sem,d0,d1,d2,d3]) rfl ?_
 exact H3.out.fin (SameN.upd _ _ _ _ _) _ _ _ _ (fun W => ans_at _ _ _ _)
namespace PM
theorem reach_same {s s' : Sy} (h1 : s'.fds = s.fds) (h2 : s'.opens = s.opens) : ∀ k,s'.reachTo k = s.reachTo k
 | 0 => rfl
 | k + 1 => by
  have h3 : ∀ j,s'.fileOf j = s.fileOf j:=fun j => by rw [Sy.fileOf,Sy.fileOf,h2]
  rw [Sy.reachTo,Sy.reachTo,h1,reach_same h1 h2 k]
  cases s.fds k with
  | none => rfl
  | some j => simp only [h3]
def Sy.renamed (s : Sy) (fr q : ByteArray) : Sy:=if fr.data.toList = q.data.toList then s.carry fr q else (s.release q).carry fr q
theorem rel_size {s : Sy} {q : ByteArray} (h : ∀ i ∈ s.reach,∀ f,s.files[i]? = some f → f.path.size ≤ 80) : ∀ i ∈ (s.release q).reach,∀ f,(s.release q).files[i]? = some f → f.path.size ≤ 80:=by
 intro i hi f hf
 rw [show (s.release q).reach = s.reach from reach_same rfl rfl 32] at hi
 have hf : (s.files.mapIdx fun i f => if i ∈ s.reach then s.relF q f else f)[i]? = some f:=hf
 rw [List.getElem?_mapIdx] at hf
 cases hg : s.files[i]? with
 | none => rw [hg] at hf;cases hf
 | some g =>
  rw [hg] at hf
  have h1:=h i hi g hg
  simp only [Option.map_some,if_pos hi,Option.some.injEq] at hf
  rw [← hf,Sy.relF]
  split
  ·show (ByteArray.mk #[]).size ≤ 80;decide
  ·exact h1
end PM
theorem SameN.ren (s : Sy) (fr q : ByteArray) (a : List Ent) (b : List (List Ent)) : SameN s ((s.renamed fr q).withU a b):=by
 unfold Sy.renamed
 split
 ·exact SameN.upd _ _ _ _ _
 ·exact ⟨rfl,by simp [Sy.carry,Sy.release,Sy.updTo,Sy.withU]⟩
theorem fb_upd {s : Sy} {g : Fl → Fl} {l : List Nat} {L : Lay6} {b : Nat} (h : Fb (s.updTo g l) L b) : Fb s L b:=by simpa [Fb,Sy.updTo] using h
set_option maxHeartbeats 1000000 in
theorem renameDo {base : Nat} {X : World} {S : Nat} {s : Sy} {L : Lay6} (h : SysAt base X S s L) (hg : Gl base X) (B0 B1 B2 Bf : Nat) (hb0 : X.cell? ⟨B0,0,none⟩ = some (.pointer (some ⟨S,0,none⟩))) (fr q : ByteArray) (hfr : fr.size ≤ 80) (hq80 : q.size ≤ 80) (hbf : X.cell? ⟨Bf,0,none⟩ = some (.string fr)) (hNf : ¬ Sp S s L Bf) (hbq : X.cell? ⟨B1,0,none⟩ = some (.string q)) (hN0 : ¬ Sp S s L B0) (hN1 : ¬ Sp S s L B1) (hN2 : ¬ Sp S s L B2) (y : Lay) (lo : List Lay) (pl : Option Addr) (cl : Nat) (hb1 : UnBox X B2 y lo pl cl) (hU : St (Sp S s L) X (fun X => UnOK X y lo pl cl)) (h0 : (wrongU (y.es :: lo.map (·.es))).1 = 0) (hsz : ∀ i ∈ s.reach,∀ f,s.files[i]? = some f → f.path.size ≤ 80) :
  Calls Tryz.prog 132 #[.pointer (some ⟨Bf,0,none⟩),.pointer (some ⟨B1,0,none⟩),.pointer (some ⟨B0,0,none⟩),.pointer (some ⟨B2,0,none⟩)] X (DoPost base S s L ((s.renamed fr q).withU y.es (lo.map (·.es))) (ans 0 ⟨#[]⟩) X):=by
 obtain ⟨c0,c1⟩:=hb1
 have hbase : base ≤ X.heap.size:=Nat.le_trans h.base.1 (Nat.le_of_lt h.lt)
 obtain ⟨L1,hL1⟩ : ∃ L1 : Lay6,L1 = { L with ex:=fun b => b = X.heap.size ∨ L.ex b }:=⟨_,rfl⟩
 obtain ⟨X1,hX1⟩ : ∃ X1,X.alloc (.cells #[.int .i64 0,.int .i64 0,.string ⟨#[]⟩,.slice none 0 0] 38) = X1:=⟨_,rfl⟩
 have hB1 : Below X.heap.size X X1:=by rw [← hX1];exact ((Grown.refl X).alloc _).below
 have h1:=h.aside (.cells #[.int .i64 0,.int .i64 0,.string ⟨#[]⟩,.slice none 0 0] 38)
 have hU1:=St.aside hU (.cells #[.int .i64 0,.int .i64 0,.string ⟨#[]⟩,.slice none 0 0] 38)
 rw [hX1,← hL1] at h1 hU1
 have hx1 : L1.ex X.heap.size:=by rw [hL1];exact .inl rfl
 have hbk1 : X1.heap[X.heap.size]? = some (.cells #[.int .i64 0,.int .i64 0,.string ⟨#[]⟩,.slice none 0 0] 38):=by rw [← hX1];exact heap_alloc_last X _
 have hsp1 : ∀ b,b < X.heap.size → Sp S s L1 b → Sp S s L b:=by
  rintro b hb hs
  rw [hL1] at hs
  rcases hs with (rfl | (rfl | hx)) | hs
  ·exact .inl (.inl rfl)
  ·omega
  ·exact .inl (.inr hx)
  ·exact .inr hs
 have hrel:=release_any h1 q hsz
 have hcar1:=carry_any h1 fr q hfr hq80 hsz
 have HZ : Aside (∀ i ∈ s.reach,∀ f,s.files[i]? = some f → f.path.size ≤ 80):=hsz
 have HA : Aside (SysAt base X1 S s L1 ∧ Gl base X1 ∧ St (Sp S s L1) X1 (fun X => UnOK X y lo pl cl) ∧ (wrongU (y.es :: lo.map (·.es))).1 = 0 ∧ Below base X X1 ∧ L1.ex X.heap.size ∧ X1.heap[X.heap.size]? = some (.cells #[.int .i64 0,.int .i64 0,.string ⟨#[]⟩,.slice none 0 0] 38) ∧ S < X.heap.size ∧ ¬ Fb s L1 X.heap.size):=⟨h1,hg.kept (hB1.mono hbase),hU1,h0,hB1.mono hbase,hx1,hbk1,h.lt,fun ⟨i,hi,e⟩ => by rw [hL1] at e;have e : X.heap.size = L.fb i:=e;have:=h.flt hi;omega⟩
 have l0:=block_lt_of_cell hb0
 have l1:=block_lt_of_cell hbq
 have lf:=block_lt_of_cell hbf
 have l2:=block_lt_of_cell c0
 simp only at l0 l1 l2 lf
 have HK : Aside (∀ X2,Keep (Sp S s L1) X1 X2 → X2.cell? ⟨B0,0,none⟩ = some (.pointer (some ⟨S,0,none⟩)) ∧ X2.cell? ⟨B2,0,none⟩ = some (.slice y.ad y.es.length y.cap) ∧ X2.cell? ⟨B2,1,none⟩ = some (.slice pl lo.length cl) ∧ X2.cell? ⟨B1,0,none⟩ = some (.string q) ∧ X2.cell? ⟨Bf,0,none⟩ = some (.string fr)):=by
  show ∀ X2,_
  intro X2 hk
  have f0 : X2.heap[B0]? = X.heap[B0]?:=(hk.block B0 (Nat.lt_of_lt_of_le l0 hB1.size) (fun hs => hN0 (hsp1 _ l0 hs))).trans (hB1.block _ l0)
  have f2 : X2.heap[B2]? = X.heap[B2]?:=(hk.block B2 (Nat.lt_of_lt_of_le l2 hB1.size) (fun hs => hN2 (hsp1 _ l2 hs))).trans (hB1.block _ l2)
  have f1 : X2.heap[B1]? = X.heap[B1]?:=(hk.block B1 (Nat.lt_of_lt_of_le l1 hB1.size) (fun hs => hN1 (hsp1 _ l1 hs))).trans (hB1.block _ l1)
  have ff : X2.heap[Bf]? = X.heap[Bf]?:=(hk.block Bf (Nat.lt_of_lt_of_le lf hB1.size) (fun hs => hNf (hsp1 _ lf hs))).trans (hB1.block _ lf)
  exact ⟨(cell_eq f0 0).trans hb0,(cell_eq f2 0).trans c0,(cell_eq f2 1).trans c1,(cell_eq f1 0).trans hbq,(cell_eq ff 0).trans hbf⟩
 have a0:=Lib.cell?_alloc_some (.cells #[.int .i64 0,.int .i64 0,.string ⟨#[]⟩,.slice none 0 0] 38) hb0
 have a1:=Lib.cell?_alloc_some (.cells #[.int .i64 0,.int .i64 0,.string ⟨#[]⟩,.slice none 0 0] 38) hbq
 have af:=Lib.cell?_alloc_some (.cells #[.int .i64 0,.int .i64 0,.string ⟨#[]⟩,.slice none 0 0] 38) hbf
 have HE : Aside (X.alloc (.cells #[.int .i64 0,.int .i64 0,.string ⟨#[]⟩,.slice none 0 0] 38) = X1):=hX1
 have HKX : Aside (Below X.heap.size X X1 ∧ L1.ex = (fun b => b = X.heap.size ∨ L.ex b) ∧ L1.fb = L.fb ∧ L1.ob = L.ob):=⟨hB1,by rw [hL1],by rw [hL1],by rw [hL1]⟩
 rw [← hX1] at hrel hcar1
 clear h hg hU h0 hB1 h1 hU1 hX1 hb0 hbq hbf c0 c1 hsz hx1 hbk1 hsp1 hL1 hN0 hN1 hN2 hNf l0 l1 l2 lf
 obtain ⟨yn,hyn⟩ : ∃ yn,yn = y.es.length:=⟨_,rfl⟩
 obtain ⟨ln,hln⟩ : ∃ ln,ln = lo.length:=⟨_,rfl⟩
 have HN : Aside (yn = y.es.length ∧ ln = lo.length):=⟨hyn,hln⟩
 rw [← hyn,← hln] at HK
 clear hyn hln
 by_cases heq : fr.data.toList = q.data.toList
 ·have hq1 : (fr.toList == q.toList) = true:=by rw [Lib.toList_data,Lib.toList_data,heq];simp
  have RN : ∀ {X3 L3},SysAt base X3 S ((s.carry fr q).withU y.es (lo.map (·.es))) L3 → SysAt base X3 S ((s.renamed fr q).withU y.es (lo.map (·.es))) L3:=by
   intro X3 L3 h;rw [Sy.renamed,if_pos heq];exact h
  have hcar:=hcar1
  clear hcar1 hrel
  go_enter Tryz.func132,Tryz.ntmps132
  go_wp2_with (first
   | (go_at_call 133;refine hcar.mono ?_;clear hcar;rintro r X2 ⟨rfl,hA2,hB2,hk2⟩;rw [HE.out] at hB2 hk2;obtain ⟨t0,t1,t2,t3,t4⟩:=HK.out X2 (hk2.weak fun b hb => .inr (.inr hb));have hst:=settle_any hA2 (HA.out.2.1.kept hB2) y lo pl cl ((HA.out.2.2.1.on (hk2.weak fun b hb => .inr (.inr hb))).sp fun b hb => Sp.upd.1 hb) HA.out.2.2.2.1;rw [← HN.out.1,← HN.out.2] at hst;have H2 : Aside (Below base X X2 ∧ X2.heap[X.heap.size]? = some (.cells #[.int .i64 0,.int .i64 0,.string ⟨#[]⟩,.slice none 0 0] 38) ∧ Keep (Fb s L1) X1 X2):=⟨HA.out.2.2.2.2.1.trans hB2,(hk2.block _ (Array.getElem?_eq_some_iff.1 HA.out.2.2.2.2.2.2.1).1 HA.out.2.2.2.2.2.2.2.2).trans HA.out.2.2.2.2.2.2.1,hk2⟩;clear hA2 hB2 hk2)
   | (go_at_call 124;refine hst.mono ?_;clear hst;rintro r X3 ⟨rfl,hS3⟩;obtain ⟨L3,hA3,ho3,hf3,hx3,hb3,hk3⟩:=hS3;have hbk : X3.heap[X.heap.size]? = some (.cells #[.int .i64 0,.int .i64 0,.string ⟨#[]⟩,.slice none 0 0] 38):=(hk3.block _ (Array.getElem?_eq_some_iff.1 H2.out.2.1).1 (fun e => by have:=HA.out.2.2.2.2.2.2.2.1;omega)).trans H2.out.2.1;have H3 : Aside (Mid base S s L ((s.renamed fr q).withU y.es (lo.map (·.es))) L3 X X3):=⟨RN hA3,⟨ho3.trans HKX.out.2.2.2,hf3.trans HKX.out.2.2.1,fun b => (by rw [hx3,HKX.out.2.1])⟩,H2.out.1.trans hb3,(Keep.mine HKX.out.1 H2.out.2.2 (fun b ⟨i,hi,e⟩ => .inr (.inr ⟨i,hi,by rw [← HKX.out.2.2.1];exact e⟩))).trans (hk3.weak fun b hb => .inl hb),hbk⟩;obtain ⟨⟨d0,d1,d2,d3⟩,z0,z1,z2,z3⟩:=cells4 hbk;clear hA3 hx3 hb3 hk3 hbk))
  refine bodyPost_ret (v:=.agg #[.int .i64 0,.int .i64 0,.string ⟨#[]⟩,.slice none 0 0]) (by simp [results,Tryz.results132,go_sem,d0,d1,d2,d3]) rfl ?_
  exact H3.out.fin (SameN.ren _ _ _ _ _) _ _ _ _ (fun W => ans_at _ _ _ _)
 ·have hq1 : (fr.toList == q.toList) = false:=by rw [Lib.toList_data,Lib.toList_data];simpa using heq
  have RN : ∀ {X3 L3},SysAt base X3 S (((s.release q).carry fr q).withU y.es (lo.map (·.es))) L3 → SysAt base X3 S ((s.renamed fr q).withU y.es (lo.map (·.es))) L3:=by
   intro X3 L3 h;rw [Sy.renamed,if_neg heq];exact h
  clear hcar1
  go_enter Tryz.func132,Tryz.ntmps132
  go_wp2_with (first
   | (go_at_call 130;refine hrel.mono ?_;clear hrel;rintro r Xr ⟨rfl,hAr,hBr,hkr⟩;rw [HE.out] at hBr hkr;obtain ⟨t0',t1',t2',t3',t4'⟩:=HK.out Xr (hkr.weak fun b hb => .inr (.inr hb));have hcar:=carry_any hAr fr q hfr hq80 (rel_size HZ.out))
   | (go_at_call 133;refine hcar.mono ?_;clear hcar;rintro r X2 ⟨rfl,hA2,hB2,hk2⟩;have hBB:=hBr.trans hB2;have hkk:=hkr.trans (hk2.weak fun b hb => fb_upd hb);obtain ⟨t0,t1,t2,t3,t4⟩:=HK.out X2 (hkk.weak fun b hb => .inr (.inr hb));have hst:=settle_any hA2 (HA.out.2.1.kept hBB) y lo pl cl ((HA.out.2.2.1.on (hkk.weak fun b hb => .inr (.inr hb))).sp fun b hb => Sp.upd.1 (Sp.upd.1 hb)) HA.out.2.2.2.1;rw [← HN.out.1,← HN.out.2] at hst;have H2 : Aside (Below base X X2 ∧ X2.heap[X.heap.size]? = some (.cells #[.int .i64 0,.int .i64 0,.string ⟨#[]⟩,.slice none 0 0] 38) ∧ Keep (Fb s L1) X1 X2):=⟨HA.out.2.2.2.2.1.trans hBB,(hkk.block _ (Array.getElem?_eq_some_iff.1 HA.out.2.2.2.2.2.2.1).1 HA.out.2.2.2.2.2.2.2.2).trans HA.out.2.2.2.2.2.2.1,hkk⟩;clear hA2 hB2 hk2)
   | (go_at_call 124;refine hst.mono ?_;clear hst;rintro r X3 ⟨rfl,hS3⟩;obtain ⟨L3,hA3,ho3,hf3,hx3,hb3,hk3⟩:=hS3;have hbk : X3.heap[X.heap.size]? = some (.cells #[.int .i64 0,.int .i64 0,.string ⟨#[]⟩,.slice none 0 0] 38):=(hk3.block _ (Array.getElem?_eq_some_iff.1 H2.out.2.1).1 (fun e => by have:=HA.out.2.2.2.2.2.2.2.1;omega)).trans H2.out.2.1;have H3 : Aside (Mid base S s L ((s.renamed fr q).withU y.es (lo.map (·.es))) L3 X X3):=⟨RN hA3,⟨ho3.trans HKX.out.2.2.2,hf3.trans HKX.out.2.2.1,fun b => (by rw [hx3,HKX.out.2.1])⟩,H2.out.1.trans hb3,(Keep.mine HKX.out.1 H2.out.2.2 (fun b ⟨i,hi,e⟩ => .inr (.inr ⟨i,hi,by rw [← HKX.out.2.2.1];exact e⟩))).trans (hk3.weak fun b hb => .inl hb),hbk⟩;obtain ⟨⟨d0,d1,d2,d3⟩,z0,z1,z2,z3⟩:=cells4 hbk;clear hA3 hx3 hb3 hk3 hbk))
  refine bodyPost_ret (v:=.agg #[.int .i64 0,.int .i64 0,.string ⟨#[]⟩,.slice none 0 0]) (by simp [results,Tryz.results132,go_sem,d0,d1,d2,d3]) rfl ?_
  exact H3.out.fin (SameN.ren _ _ _ _ _) _ _ _ _ (fun W => ans_at _ _ _ _)
theorem seekDo {base : Nat} {X : World} {S : Nat} {s : Sy} {L : Lay6} (h : SysAt base X S s L) (Bn Bo : Nat) (n : Int) (j : Nat) (o : Opn) (ho : s.opens[j]? = some o) (hbn : X.cell? ⟨Bn,0,none⟩ = some (.int .i64 n)) (hbo : X.cell? ⟨Bo,0,none⟩ = some (.pointer (some ⟨L.ob j,0,none⟩))) :
  Calls Tryz.prog 190 #[.pointer (some ⟨Bn,0,none⟩),.pointer (some ⟨Bo,0,none⟩)] X (DoPost base S s L (s.setO j { o with pos:=n }) (ans 0 ⟨#[]⟩) X):=by
 have a0:=Lib.cell?_alloc_some (.cells #[.int .i64 0,.int .i64 0,.string ⟨#[]⟩,.slice none 0 0] 38) hbn
 have a1:=Lib.cell?_alloc_some (.cells #[.int .i64 0,.int .i64 0,.string ⟨#[]⟩,.slice none 0 0] 38) hbo
 obtain ⟨⟨_,_,c2⟩,f2⟩:=h.ocells ho
 have hlt:=h.olt (List.getElem?_eq_some_iff.1 ho).1
 have n1 : ¬ L.ob j = X.heap.size:=by omega
 have n2 : ¬ X.heap.size = L.ob j:=by omega
 have HS : Aside (SysAt base X S s L ∧ s.opens[j]? = some o):=⟨h,ho⟩
 clear h hbn hbo ho
 go_enter Tryz.func190,Tryz.ntmps190
 go_wp2
 refine bodyPost_ret (v:=.agg #[.int .i64 0,.int .i64 0,.string ⟨#[]⟩,.slice none 0 0]) (by simp [results,Tryz.results190,go_sem]) rfl ?_
 obtain ⟨h,ho⟩:=HS.out
 have hb:=(heap_set2 (h.opn j o ho) (.int .i64 n)).2.2
 have h2:=h.opening (o':={ o with pos:=n }) ho rfl (Keep.set (sp:=(· = L.ob j)) rfl _ 2 (.int .i64 n)) hb
 have hB : ∀ (Z : World) o,Below Z.heap.size Z (Z.alloc o):=fun Z o => ((Grown.refl Z).alloc o).below
 have hb1 : Below base X (X.setCell ⟨L.ob j,2,none⟩ (.int .i64 n)):=(Below.refl _ _).setCell (p:=⟨L.ob j,2,none⟩) (h.base.2.1 j (List.getElem?_eq_some_iff.1 ho).1) _
 exact ⟨_,L,rfl,h2.kept (hB _ _),ans_at _ _ _ _,hb1.trans ((hB _ _).mono (Nat.le_trans h2.base.1 (Nat.le_of_lt h2.lt))),fun b hb => hb,(Keep.set (.inr (.inl ⟨j,(List.getElem?_eq_some_iff.1 ho).1,rfl⟩)) _ 2 _).trans (Keep.of_below _ (hB _ _)),fun b hb => .inl (by simpa [Sp,Sy.setO] using hb)⟩
namespace PM
def seekErr (n : Int) : Int:=if n < 0 ∨ 1000 < n then 3 else 0
end PM
theorem seek_any {base : Nat} {W : World} {S : Nat} {s : Sy} {L : Lay6} (h : SysAt base W S s L) (n : Int) (j : Nat) (o : Opn) (ho : s.opens[j]? = some o) :
  Calls Tryz.prog 139 #[.pointer (some ⟨L.ob j,0,none⟩),.int .i64 n] W (StepPost base S s L (seekErr n) (s.setO j { o with pos:=n }) (ans 0 ⟨#[]⟩) W):=by
 have HS : Aside (SysAt base W S s L ∧ s.opens[j]? = some o):=⟨h,ho⟩
 have HB : Aside (Below W.heap.size W ((W.alloc (.cells #[.pointer (some ⟨L.ob j,0,none⟩)] 78)).alloc (.cells #[.int .i64 n] 3))):=((Below.refl _ _).alloc (Nat.le_refl _) _).alloc (by simp) _
 clear h ho
 unfold seekErr
 by_cases h1 : n < 0
 ·rw [if_pos (.inl h1)]
  go_enter Tryz.func139,Tryz.ntmps139
  go_wp2
  go_ret2
  exact StepPost.no _ (by decide) HB.out
 by_cases h2 : 1000 < n
 ·rw [if_pos (.inr h2)]
  go_enter Tryz.func139,Tryz.ntmps139
  go_wp2
  go_ret2
  exact StepPost.no _ (by decide) HB.out
 rw [if_neg (by omega)]
 go_enter Tryz.func139,Tryz.ntmps139
 go_wp2
 go_ret2
 exact ⟨_,rfl,HB.out,fun _ => ⟨_,_,rfl,enters_of Tryz.func190 (by kernel_rfl) rfl,seekDo (HS.out.1.kept HB.out) (W.heap.size + 1) W.heap.size n j o HS.out.2 (by simp) (by simp)⟩⟩
theorem doubleDo {base : Nat} {X : World} {S : Nat} {s : Sy} {L : Lay6} (h : SysAt base X S s L) (Bo Bp Bf o k j : Nat) (ho4 : o < 4) (hk8 : k < 8) (hj : j < s.opens.length) (hbo : X.cell? ⟨Bo,0,none⟩ = some (.pointer (some ⟨L.ob j,0,none⟩))) (hbp : X.cell? ⟨Bp,0,none⟩ = some (.pointer (some ⟨S,3 + o * 8,none⟩))) (hbf : X.cell? ⟨Bf,0,none⟩ = some (.int .i64 k)) (hNo : ¬ S = Bo) (hNp : ¬ S = Bp) (hNf : ¬ S = Bf) :
  Calls Tryz.prog 189 #[.pointer (some ⟨Bo,0,none⟩),.pointer (some ⟨Bp,0,none⟩),.pointer (some ⟨Bf,0,none⟩)] X (DoPost base S s L (s.setFd (o * 8 + k) (some j)) (ans k ⟨#[]⟩) X):=by
 have a0:=Lib.cell?_alloc_some (.cells #[.int .i64 0,.int .i64 0,.string ⟨#[]⟩,.slice none 0 0] 38) hbo
 have a1:=Lib.cell?_alloc_some (.cells #[.int .i64 0,.int .i64 0,.string ⟨#[]⟩,.slice none 0 0] 38) hbp
 have a2:=Lib.cell?_alloc_some (.cells #[.int .i64 0,.int .i64 0,.string ⟨#[]⟩,.slice none 0 0] 38) hbf
 have hkz : (k : Int) < 8:=by omega
 have c3:=h.fd (k:=o * 8 + k) (by omega)
 have c3 : X.cell? ⟨S,3 + o * 8 + k,none⟩ = some (.pointer ((s.fds (o * 8 + k)).map fun j => ⟨L.ob j,0,none⟩)):=by rw [Nat.add_assoc];exact c3
 have f3:=h.frz (3 + o * 8 + k)
 have a3:=Lib.cell?_alloc_some (.cells #[.int .i64 0,.int .i64 0,.string ⟨#[]⟩,.slice none 0 0] 38) c3
 have hlt:=h.lt
 have n1 : ¬ S = X.heap.size:=by omega
 have n2 : ¬ X.heap.size = S:=by omega
 have HS : Aside (SysAt base X S s L):=h
 clear h
 go_enter Tryz.func189,Tryz.ntmps189
 go_wp2
 go_region_held3 (fun w' => w'.cell? ⟨Bo,0,none⟩ = some (.pointer (some ⟨L.ob j,0,none⟩)) ∧ w'.cell? ⟨Bp,0,none⟩ = some (.pointer (some ⟨S,3 + o * 8,none⟩)) ∧ w'.cell? ⟨Bf,0,none⟩ = some (.int .i64 k)) (go_keep) (fail)
 have hlf:=block_lt_of_cell hbf
 simp only at hlf
 have H2 : Aside (∃ L2,SysAt base ((X.setCell ⟨S,3 + o * 8 + k,none⟩ (.pointer (some ⟨L.ob j,0,none⟩))).alloc (.cells #[.int .i64 0,.int .i64 0,.string ⟨#[]⟩,.slice none 0 0] 38)).drew S (s.setFd (o * 8 + k) (some j)) L2 ∧ SameL L L2 X.heap.size):=by
  have h1:=HS.out.number (k:=o * 8 + k) (by omega) (some j) (fun x hx => by cases hx;exact hj) (.pointer (some ⟨L.ob j,0,none⟩)) rfl
  rw [← Nat.add_assoc] at h1
  have h2:=h1.aside (.cells #[.int .i64 0,.int .i64 0,.string ⟨#[]⟩,.slice none 0 0] 38)
  exact ⟨_,h2.kept (Below.refl _ _).drew,⟨rfl,rfl,fun b => by simp [World.setCell]⟩⟩
 have hB2 : Aside (Below base X ((X.setCell ⟨S,3 + o * 8 + k,none⟩ (.pointer (some ⟨L.ob j,0,none⟩))).alloc (.cells #[.int .i64 0,.int .i64 0,.string ⟨#[]⟩,.slice none 0 0] 38)).drew):=by
  have h1:=(Below.refl base X).setCell (p:=⟨S,3 + o * 8 + k,none⟩) HS.out.base.1 (.pointer (some ⟨L.ob j,0,none⟩))
  exact (h1.alloc (Nat.le_trans (Nat.le_trans HS.out.base.1 (Nat.le_of_lt hlt)) h1.size) _).drew
 have HKZ : Aside (Keep (Mine S s L) X ((X.setCell ⟨S,3 + o * 8 + k,none⟩ (.pointer (some ⟨L.ob j,0,none⟩))).alloc (.cells #[.int .i64 0,.int .i64 0,.string ⟨#[]⟩,.slice none 0 0] 38)).drew):=(Keep.set (.inl rfl) _ _ _).trans (Keep.of_below _ (((Grown.refl _).alloc _).below.drew))
 have hbk : ((X.setCell ⟨S,3 + o * 8 + k,none⟩ (.pointer (some ⟨L.ob j,0,none⟩))).alloc (.cells #[.int .i64 0,.int .i64 0,.string ⟨#[]⟩,.slice none 0 0] 38)).drew.heap[X.heap.size]? = some (.cells #[.int .i64 0,.int .i64 0,.string ⟨#[]⟩,.slice none 0 0] 38):=by
  have:=heap_alloc_last (X.setCell ⟨S,3 + o * 8 + k,none⟩ (.pointer (some ⟨L.ob j,0,none⟩))) (.cells #[.int .i64 0,.int .i64 0,.string ⟨#[]⟩,.slice none 0 0] 38)
  rwa [show (X.setCell ⟨S,3 + o * 8 + k,none⟩ (.pointer (some ⟨L.ob j,0,none⟩))).heap.size = X.heap.size from by simp [World.setCell]] at this
 have hbf2 : ((X.setCell ⟨S,3 + o * 8 + k,none⟩ (.pointer (some ⟨L.ob j,0,none⟩))).alloc (.cells #[.int .i64 0,.int .i64 0,.string ⟨#[]⟩,.slice none 0 0] 38)).drew.cell? ⟨Bf,0,none⟩ = some (.int .i64 k):=by
  refine (cell_eq ?_ 0).trans hbf
  exact (((Grown.refl _).alloc _).below.block Bf (by simp [World.setCell];exact hlf)).trans (Below.heap_setCell _ _ _ _ (fun e => hNf e.symm))
 generalize ((X.setCell ⟨S,3 + o * 8 + k,none⟩ (.pointer (some ⟨L.ob j,0,none⟩))).alloc (.cells #[.int .i64 0,.int .i64 0,.string ⟨#[]⟩,.slice none 0 0] 38)).drew = Z at *
 obtain ⟨⟨d0,d1,d2,d3⟩,z0,z1,z2,z3⟩:=cells4 hbk
 have HK : Aside (Z.heap[X.heap.size]? = some (.cells #[.int .i64 0,.int .i64 0,.string ⟨#[]⟩,.slice none 0 0] 38)):=hbk
 clear hbk a0 a1 a2 a3 hbo hbp hbf c3 f3
 go_wp2
 refine bodyPost_ret (v:=.agg #[.int .i64 0,.int .i64 k,.string ⟨#[]⟩,.slice none 0 0]) (by simp [results,Tryz.results189,go_sem,d0,d1,d2,d3]) rfl ?_
 obtain ⟨L2,q1,q2⟩:=H2.out
 exact Mid.fin (L':=L2) ⟨q1,q2,hB2.out,HKZ.out,HK.out⟩ ⟨rfl,rfl⟩ _ _ _ _ (fun W => ans_at _ _ _ _)
theorem double_any {base : Nat} {W : World} {S : Nat} {s : Sy} {L : Lay6} (h : SysAt base W S s L) (o j : Nat) (ho4 : o < 4) (hj : j < s.opens.length) :
  Calls Tryz.prog 138 #[.pointer (some ⟨S,3 + o * 8,none⟩),.pointer (some ⟨L.ob j,0,none⟩)] W (StepPost base S s L (if s.freeOf o < 0 then 5 else 0) (s.setFd (o * 8 + (s.freeOf o).toNat) (some j)) (ans (s.freeOf o) ⟨#[]⟩) W):=by
 obtain ⟨W2,hW2⟩ : ∃ W2,(W.alloc (.cells #[.pointer (some ⟨S,3 + o * 8,none⟩)] 166)).alloc (.cells #[.pointer (some ⟨L.ob j,0,none⟩)] 78) = W2:=⟨_,rfl⟩
 have hB2 : Below W.heap.size W W2:=by rw [← hW2];exact ((Below.refl _ _).alloc (Nat.le_refl _) _).alloc (by simp) _
 have hs2 : W2.heap.size = W.heap.size + 2:=by rw [← hW2];simp
 have hfr:=freeP_any (h.kept hB2) o ho4
 have hp:=box1_new hW2
 have ho:=box2_new hW2
 have HA : Aside (SysAt base W S s L ∧ Below W.heap.size W W2 ∧ W2.heap[W.heap.size]? = some (.cells #[.pointer (some ⟨S,3 + o * 8,none⟩)] 166) ∧ W2.heap[W.heap.size + 1]? = some (.cells #[.pointer (some ⟨L.ob j,0,none⟩)] 78) ∧ (W.alloc (.cells #[.pointer (some ⟨S,3 + o * 8,none⟩)] 166)).alloc (.cells #[.pointer (some ⟨L.ob j,0,none⟩)] 78) = W2):=⟨h,hB2,hp,ho,hW2⟩
 have HF:=free_lt s o
 have HF : Aside (s.freeOf o = -1 ∨ ∃ k : Nat,k < 8 ∧ s.freeOf o = k ∧ s.fds (o * 8 + k) = none):=HF
 rw [← hW2] at hfr
 clear h hB2 hp ho hW2
 generalize s.freeOf o = R at hfr HF ⊢
 by_cases hR : R < 0
 ·rw [if_pos hR,if_pos hR] at hfr
  rw [if_pos hR]
  go_enter Tryz.func138,Tryz.ntmps138
  go_wp2_with (go_at_call 120;refine hfr.mono ?_;clear hfr;rintro r w3 ⟨rfl,hB3⟩;rw [HA.out.2.2.2.2] at hB3)
  go_ret2
  have hB:=Below.onto HA.out.2.1 hB3
  exact StepPost.no _ (by decide) (hB.alloc hB.size _)
 ·rw [if_neg hR,if_neg hR] at hfr
  rw [if_neg hR]
  go_enter Tryz.func138,Tryz.ntmps138
  go_wp2_with (go_at_call 120;refine hfr.mono ?_;clear hfr;rintro r w3 ⟨rfl,hB3⟩;rw [HA.out.2.2.2.2] at hB3)
  go_ret2
  have hB:=Below.onto HA.out.2.1 hB3
  have hB4:=hB.alloc hB.size (.cells #[.int .i64 R] 3)
  obtain ⟨h,_,hp,ho,_⟩:=HA.out
  rcases HF.out with e | ⟨k,hk,e,_⟩
  ·omega
  have hlt:=h.lt
  have hs3:=hB3.size
  have bk : ∀ b,b < w3.heap.size → (w3.alloc (.cells #[.int .i64 R] 3)).heap[b]? = w3.heap[b]?:=fun b hb => ((Grown.refl w3).alloc _).below.block b hb
  refine ⟨_,rfl,hB4,fun _ => ⟨_,_,rfl,enters_of Tryz.func189 (by kernel_rfl) rfl,?_⟩⟩
  have:=doubleDo (h.kept hB4) (W.heap.size + 1) W.heap.size w3.heap.size o k j ho4 hk hj (by
   have:=(bk _ (by omega)).trans ((hB3.block _ (by omega)).trans ho)
   simp [World.cell?,this]) (by
   have:=(bk _ (by omega)).trans ((hB3.block _ (by omega)).trans hp)
   simp [World.cell?,this]) (by rw [← e];simp) (by omega) (by omega) (by omega)
  rw [show R.toNat = k by omega,show ans R ⟨#[]⟩ = ans k ⟨#[]⟩ from by rw [e]]
  exact this
theorem readDo {base : Nat} {X : World} {S : Nat} {s : Sy} {L : Lay6} (h : SysAt base X S s L) (Bo Bt j : Nat) (o : Opn) (t : ByteArray) (ho : s.opens[j]? = some o) (hp0 : 0 ≤ o.pos) (hp1 : o.pos ≤ 1000) (ht : t.size ≤ 1000) (hbo : X.cell? ⟨Bo,0,none⟩ = some (.pointer (some ⟨L.ob j,0,none⟩))) (hbt : X.cell? ⟨Bt,0,none⟩ = some (.string t)) (hNo : ¬ L.ob j = Bo) (hNt : ¬ L.ob j = Bt) :
  Calls Tryz.prog 197 #[.pointer (some ⟨Bo,0,none⟩),.pointer (some ⟨Bt,0,none⟩)] X (DoPost base S s L (s.setO j { o with pos:=o.pos + t.size }) (ans t.size t) X):=by
 have a0:=Lib.cell?_alloc_some (.cells #[.int .i64 0,.int .i64 0,.string ⟨#[]⟩,.slice none 0 0] 38) hbo
 have a1:=Lib.cell?_alloc_some (.cells #[.int .i64 0,.int .i64 0,.string ⟨#[]⟩,.slice none 0 0] 38) hbt
 obtain ⟨⟨_,_,c2⟩,f2⟩:=h.ocells ho
 have a2:=Lib.cell?_alloc_some (.cells #[.int .i64 0,.int .i64 0,.string ⟨#[]⟩,.slice none 0 0] 38) c2
 have hlt:=h.olt (List.getElem?_eq_some_iff.1 ho).1
 have hbs:=h.base.2.1 j (List.getElem?_eq_some_iff.1 ho).1
 have n1 : ¬ L.ob j = X.heap.size:=by omega
 have n2 : ¬ X.heap.size = L.ob j:=by omega
 have HS : Aside (SysAt base X S s L ∧ s.opens[j]? = some o):=⟨h,ho⟩
 clear h ho
 go_enter Tryz.func197,Tryz.ntmps197
 go_wp2
 go_region
 have hlt2:=block_lt_of_cell hbt
 simp only at hlt2
 have H2 : Aside (∃ L2,SysAt base ((X.setCell ⟨L.ob j,2,none⟩ (.int .i64 (o.pos + t.size))).alloc (.cells #[.int .i64 0,.int .i64 0,.string ⟨#[]⟩,.slice none 0 0] 38)).drew S (s.setO j { o with pos:=o.pos + t.size }) L2 ∧ SameL L L2 X.heap.size):=by
  obtain ⟨h,ho⟩:=HS.out
  have hb:=(heap_set2 (h.opn j o ho) (.int .i64 (o.pos + t.size))).2.2
  have h1:=h.opening (o':={ o with pos:=o.pos + t.size }) ho rfl (Keep.set (sp:=(· = L.ob j)) rfl _ 2 (.int .i64 (o.pos + t.size))) hb
  exact ⟨_,(h1.aside (.cells #[.int .i64 0,.int .i64 0,.string ⟨#[]⟩,.slice none 0 0] 38)).kept (Below.refl _ _).drew,⟨rfl,rfl,fun b => by simp [World.setCell]⟩⟩
 have HB2 : Aside (Below base X ((X.setCell ⟨L.ob j,2,none⟩ (.int .i64 (o.pos + t.size))).alloc (.cells #[.int .i64 0,.int .i64 0,.string ⟨#[]⟩,.slice none 0 0] 38)).drew):=by
  have h1:=(Below.refl base X).setCell (p:=⟨L.ob j,2,none⟩) hbs (.int .i64 (o.pos + t.size))
  exact (h1.alloc (Nat.le_trans (Nat.le_trans hbs (Nat.le_of_lt hlt)) h1.size) _).drew
 have HKZ : Aside (Keep (Mine S s L) X ((X.setCell ⟨L.ob j,2,none⟩ (.int .i64 (o.pos + t.size))).alloc (.cells #[.int .i64 0,.int .i64 0,.string ⟨#[]⟩,.slice none 0 0] 38)).drew):=(Keep.set (.inr (.inl ⟨j,(List.getElem?_eq_some_iff.1 HS.out.2).1,rfl⟩)) _ _ _).trans (Keep.of_below _ (((Grown.refl _).alloc _).below.drew))
 have hbk : (((X.setCell ⟨L.ob j,2,none⟩ (.int .i64 (o.pos + t.size))).alloc (.cells #[.int .i64 0,.int .i64 0,.string ⟨#[]⟩,.slice none 0 0] 38)).drew).heap[X.heap.size]? = some (.cells #[.int .i64 0,.int .i64 0,.string ⟨#[]⟩,.slice none 0 0] 38):=by
  have:=heap_alloc_last (X.setCell ⟨L.ob j,2,none⟩ (.int .i64 (o.pos + t.size))) (.cells #[.int .i64 0,.int .i64 0,.string ⟨#[]⟩,.slice none 0 0] 38)
  rwa [show (X.setCell ⟨L.ob j,2,none⟩ (.int .i64 (o.pos + t.size))).heap.size = X.heap.size from by simp [World.setCell]] at this
 have hbt2 : (((X.setCell ⟨L.ob j,2,none⟩ (.int .i64 (o.pos + t.size))).alloc (.cells #[.int .i64 0,.int .i64 0,.string ⟨#[]⟩,.slice none 0 0] 38)).drew).cell? ⟨Bt,0,none⟩ = some (.string t):=by
  refine (cell_eq ?_ 0).trans hbt
  exact (((Grown.refl _).alloc _).below.block Bt (by simp [World.setCell];exact hlt2)).trans (Below.heap_setCell _ _ _ _ (fun e => hNt e.symm))
 generalize ((X.setCell ⟨L.ob j,2,none⟩ (.int .i64 (o.pos + t.size))).alloc (.cells #[.int .i64 0,.int .i64 0,.string ⟨#[]⟩,.slice none 0 0] 38)).drew = Z at *
 obtain ⟨⟨d0,d1,d2,d3⟩,z0,z1,z2,z3⟩:=cells4 hbk
 have HK : Aside (Z.heap[X.heap.size]? = some (.cells #[.int .i64 0,.int .i64 0,.string ⟨#[]⟩,.slice none 0 0] 38)):=hbk
 clear hbk a0 a1 a2 hbo hbt c2 f2
 go_wp2
 refine bodyPost_ret (v:=.agg #[.int .i64 0,.int .i64 t.size,.string t,.slice none 0 0]) (by simp [results,Tryz.results197,go_sem,d0,d1,d2,d3]) rfl ?_
 obtain ⟨L2,q1,q2⟩:=H2.out
 exact Mid.fin (L':=L2) ⟨q1,q2,HB2.out,HKZ.out,HK.out⟩ ⟨by simp [Sy.setO],rfl⟩ _ _ _ _ (fun W => ans_at _ _ _ _)
namespace PM
def readT (t : ByteArray) (pos n : Int) : ByteArray:=(t.extract (min pos t.size).toNat t.size).extract 0 (min n (t.extract (min pos t.size).toNat t.size).size).toNat
def readErr (o : Opn) (n : Int) : Int:=if (bits BinOp.and IntKind.i64 o.use 1 == 0) = true then 8 else if n < 0 ∨ 1000 < n then 3 else 0
theorem readT_size (t : ByteArray) (pos n : Int) : (readT t pos n).size ≤ t.size:=by
 unfold readT
 simp only [ByteArray.size_extract]
 omega
end PM
set_option maxHeartbeats 1000000 in
theorem read_ok {base : Nat} {W : World} {S : Nat} {s : Sy} {L : Lay6} (h : SysAt base W S s L) (j : Nat) (o : Opn) (f : Fl) (n : Int) (ho : s.opens[j]? = some o) (hf : s.files[o.file]? = some f) (hp0 : 0 ≤ o.pos) (hp1 : o.pos ≤ 1000) (hfp : f.path.size ≤ 80) (hft : (s.textOf f).size ≤ 100) (hu : (bits BinOp.and IntKind.i64 o.use 1 == 0) = false) (hn0 : ¬ n < 0) (hn1 : ¬ 1000 < n) :
  Calls Tryz.prog 143 #[.pointer (some ⟨S,0,none⟩),.pointer (some ⟨L.ob j,0,none⟩),.int .i64 n] W (StepPost base S s L 0 (s.setO j { o with pos:=o.pos + (readT (s.textOf f) o.pos n).size }) (ans (readT (s.textOf f) o.pos n).size (readT (s.textOf f) o.pos n)) W):=by
 obtain ⟨W1,hW1⟩ : ∃ W1,W.alloc (.cells #[.pointer (some ⟨L.ob j,0,none⟩)] 78) = W1:=⟨_,rfl⟩
 have hB1 : Below W.heap.size W W1:=by rw [← hW1];exact ((Grown.refl W).alloc _).below
 have h1:=h.kept hB1
 obtain ⟨⟨c0,c1,c2⟩,f2⟩:=h1.ocells ho
 have htx:=text_any h1 hf hfp W1 (Below.refl _ _)
 have hlt:=h1.olt (List.getElem?_eq_some_iff.1 ho).1
 have hs1 : W1.heap.size = W.heap.size + 1:=by rw [← hW1];simp
 have HA : Aside (SysAt base W S s L ∧ Below W.heap.size W W1 ∧ W.alloc (.cells #[.pointer (some ⟨L.ob j,0,none⟩)] 78) = W1 ∧ s.opens[j]? = some o ∧ W1.cell? ⟨W.heap.size,0,none⟩ = some (.pointer (some ⟨L.ob j,0,none⟩)) ∧ W1.cell? ⟨L.ob j,2,none⟩ = some (.int .i64 o.pos)):=⟨h,hB1,hW1,ho,by rw [← hW1];simp,c2⟩
 rw [← hW1] at c0 c1 c2 htx
 obtain ⟨t,ht⟩ : ∃ t,t = s.textOf f:=⟨_,rfl⟩
 rw [← ht] at htx hft ⊢
 clear ht
 clear h h1 ho hf hB1 hW1
 go_enter Tryz.func143,Tryz.ntmps143
 go_wp2_with (go_at_call 181;refine htx.mono ?_;clear htx;rintro r w3 ⟨rfl,hB3⟩;rw [HA.out.2.2.1] at hB3;have p0:=(hB3.cell (p:=⟨W.heap.size,0,none⟩) (by show W.heap.size < _;omega)).trans HA.out.2.2.2.2.1;have p2:=(hB3.cell (p:=⟨L.ob j,2,none⟩) hlt).trans HA.out.2.2.2.2.2)
 have q0:=Lib.cell?_alloc_some (.cells #[.string t] 9) p0
 have q2:=Lib.cell?_alloc_some (.cells #[.string t] 9) p2
 have hl3 : L.ob j < w3.heap.size:=Nat.lt_of_lt_of_le hlt hB3.size
 have hw3 : W.heap.size < w3.heap.size:=by have:=hB3.size;omega
 have n1 : ¬ L.ob j = w3.heap.size:=by omega
 have n2 : ¬ W.heap.size = w3.heap.size:=by omega
 have n3 : ¬ w3.heap.size = L.ob j:=by omega
 have n4 : ¬ w3.heap.size = W.heap.size:=by omega
 have HB3 : Aside (Below W1.heap.size W1 w3):=hB3
 go_region
 have hz : (t.extract (min o.pos t.size).toNat t.size).size ≤ 100:=by simp only [ByteArray.size_extract];omega
 have HT : Aside (readT t o.pos n = (t.extract (min o.pos t.size).toNat t.size).extract 0 (min n (t.extract (min o.pos t.size).toNat t.size).size).toNat):=rfl
 have HTS : Aside ((readT t o.pos n).size ≤ 100):=Nat.le_trans (readT_size _ _ _) hft
 generalize t.extract (min o.pos t.size).toNat t.size = t1 at hz HT ⊢
 clear q0 q2
 go_wp2
 go_ret2
 rw [HT.out]
 have hTS:=HTS.out
 rw [HT.out] at hTS
 generalize t1.extract 0 (min n t1.size).toNat = T at hTS ⊢
 have hBa:=Below.onto HA.out.2.1 HB3.out
 have hBn:=((Grown.refl w3).alloc (.cells #[.string T] 9)).below
 have hB5 : Below W.heap.size W (w3.alloc (.cells #[.string T] 9)).drew:=(Below.onto hBa hBn).drew
 obtain ⟨h,_,_,ho,_,_⟩:=HA.out
 exact ⟨_,rfl,hB5,fun _ => ⟨_,_,rfl,enters_of Tryz.func197 (by kernel_rfl) rfl,readDo (h.kept hB5) W.heap.size w3.heap.size j o T ho hp0 hp1 (by omega) ((hBn.cell (p:=⟨W.heap.size,0,none⟩) hw3).trans p0) (by simp) (by have:=h.olt (List.getElem?_eq_some_iff.1 ho).1;omega) n1⟩⟩
theorem read_any {base : Nat} {W : World} {S : Nat} {s : Sy} {L : Lay6} (h : SysAt base W S s L) (j : Nat) (o : Opn) (f : Fl) (n : Int) (ho : s.opens[j]? = some o) (hf : s.files[o.file]? = some f) (hp0 : 0 ≤ o.pos) (hp1 : o.pos ≤ 1000) (hfp : f.path.size ≤ 80) (hft : (s.textOf f).size ≤ 100) :
  Calls Tryz.prog 143 #[.pointer (some ⟨S,0,none⟩),.pointer (some ⟨L.ob j,0,none⟩),.int .i64 n] W (StepPost base S s L (readErr o n) (s.setO j { o with pos:=o.pos + (readT (s.textOf f) o.pos n).size }) (ans (readT (s.textOf f) o.pos n).size (readT (s.textOf f) o.pos n)) W):=by
 unfold readErr
 have HB : Aside (Below W.heap.size W (W.alloc (.cells #[.pointer (some ⟨L.ob j,0,none⟩)] 78))):=((Grown.refl W).alloc _).below
 obtain ⟨⟨c0,c1,c2⟩,f2⟩:=(h.kept HB.out).ocells ho
 cases hu : (bits BinOp.and IntKind.i64 o.use 1 == 0) with
 | true =>
  rw [if_pos rfl]
  clear h ho hf
  go_enter Tryz.func143,Tryz.ntmps143
  go_wp2
  go_ret2
  exact StepPost.no _ (by decide) HB.out
 | false =>
  rw [if_neg (by simp)]
  by_cases h1 : n < 0
  ·rw [if_pos (.inl h1)]
   clear h ho hf
   go_enter Tryz.func143,Tryz.ntmps143
   go_wp2
   go_ret2
   exact StepPost.no _ (by decide) HB.out
  by_cases h2 : 1000 < n
  ·rw [if_pos (.inr h2)]
   clear h ho hf
   go_enter Tryz.func143,Tryz.ntmps143
   go_wp2
   go_ret2
   exact StepPost.no _ (by decide) HB.out
  rw [if_neg (by omega)]
  exact read_ok h j o f n ho hf hp0 hp1 hfp hft hu h1 h2
end Go.Proofs.YthfeoiffoeagkaaGreatDoor
