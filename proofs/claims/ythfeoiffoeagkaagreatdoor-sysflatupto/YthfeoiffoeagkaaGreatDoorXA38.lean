/-
  SysFlat: nobody sees the layers.
-/
import Derived.Test.YthfeoiffoeagkaaGreatDoorXA37
namespace Go.Proofs.YthfeoiffoeagkaaGreatDoor
open Go.RowKit PM Go.Sort
set_option linter.unusedVariables false
namespace PM
structure bQ (x : Sy) (u : List Ent) (l : List (List Ent)) : Prop where
 seen : aD (u :: l) = aD x.all
 un1 : (aA (u :: l)).1 = 0
 un2 : (aA x.all).1 = 0
def Near (a b : Int) : Prop:=a = 5 ∨ b = 5 ∨ a = b
theorem bL {c : Prop} [Decidable c] {k a b : Int} (h : ¬ c → Near a b) : Near (if c then k else a) (if c then k else b):=by
 by_cases hc : c
 ·rw [if_pos hc,if_pos hc];exact .inr (.inr rfl)
 ·rw [if_neg hc,if_neg hc];exact h hc
theorem F9 {c c' : Prop} [Decidable c] [Decidable c'] {k a b : Int} (hc : c ↔ c') (h : ¬ c' → Near a b) : Near (if c then k else a) (if c' then k else b):=by
 by_cases g : c'
 ·rw [if_pos g,if_pos (hc.2 g)];exact .inr (.inr rfl)
 ·rw [if_neg g,if_neg (fun e => g (hc.1 e))];exact h g
theorem oo {a b k : Int} {n m : Nat} (ha : a = 0) (hb : b = 0) : Near (aG a k n) (aG b k m):=by
 subst ha hb
 unfold aG Near
 by_cases hk : k = 0
 ·subst hk
  by_cases h1 : 80 < n <;> by_cases h2 : 80 < m <;> simp [h1,h2]
 ·simp [hk]
section
variable {x : Sy} {u : List Ent} {l : List (List Ent)} (h : bQ x u l)
include h
theorem bQ.sn : (x.aC u l).seen = x.seen:=h.seen
theorem bQ.tx (f : Fl) : (x.aC u l).textOf f = x.textOf f:=by unfold Sy.textOf;rw [h.sn]
theorem bQ.put {e : Ent} (h1 : aG (aA (u :: l)).1 (aP x.seen e) (aF u e).length = 0) (h2 : aG (aA x.all).1 (aP x.seen e) (aF x.up e).length = 0) : bQ (x.aC (aF x.up e) x.lows) (aF u e) l:=by
 have h1' : aG (aA (u :: l)).1 (aP (aD (u :: l)) e) (aF u e).length = 0:=by rw [h.seen];exact h1
 obtain ⟨a1,a2⟩:=kY h1'
 obtain ⟨b1,b2⟩:=kY (up:=x.up) (lows:=x.lows) h2
 exact ⟨by rw [a2,h.seen];exact b2.symm,a1,b1⟩
theorem bQ.opened (q : ByteArray) (use : Int) (n : Nat) : (x.aC u l).opened q use n = (x.opened q use n).aC u l ∧ bQ (x.opened q use n) u l:=by
 have ho : (x.aC u l).oh q = x.oh q:=rfl
 unfold Sy.opened Sy.fileAt
 rw [ho]
 cases x.oh q with
 | none => exact ⟨rfl,h.seen,h.un1,h.un2⟩
 | some i => exact ⟨rfl,h.seen,h.un1,h.un2⟩
theorem bQ.release (q : ByteArray) : (x.aC u l).release q = (x.release q).aC u l:=by
 have : (x.aC u l).relF q = x.relF q:=by
  funext f
  unfold Sy.relF
  rw [h.tx]
 unfold Sy.release
 rw [this]
 rfl
theorem bQ.J7 (o : Nat) (n : Int) (p : ByteArray) : Near ((x.aC u l).gu o n p) (x.gu o n p):=by
 have hf : (x.aC u l).aQ o = x.aQ o:=rfl
 have hl : (x.aC u l).opL n p = x.opL n p:=by unfold Sy.opL;rw [h.sn]
 unfold Sy.gu
 rw [hf,hl]
 refine bL fun _ => bL fun _ => bL fun _ => ?_
 have hi : (x.aC u l).asIs (x.opL n p).2 n ↔ x.asIs (x.opL n p).2 n:=by unfold Sy.asIs;rw [h.sn]
 unfold Sy.gH
 rw [h.sn]
 exact bL fun _ => bL fun _ => bL fun _ => F9 hi fun _ => oo h.un1 h.un2
end
theorem Ac {s : Sy} {o : Nat} {n : Int} {p : ByteArray} (h0 : s.gu o n p = 0) (ha : ¬ s.asIs (s.opL n p).2 n) : aG (aA s.all).1 (aP s.seen ⟨baL (s.opL n p).2,1,⟨#[]⟩,false⟩) (aF s.up ⟨baL (s.opL n p).2,1,⟨#[]⟩,false⟩).length = 0:=by
 unfold Sy.gu at h0
 split at h0
 ·cases h0
 split at h0
 ·cases h0
 split at h0
 ·rename_i g;exact absurd h0 g
 unfold Sy.gH at h0
 split at h0
 ·cases h0
 split at h0
 ·cases h0
 split at h0
 ·cases h0
 first
  | exact h0
  | (rw [if_neg ha] at h0;exact h0)
section
variable {x : Sy} {u : List Ent} {l : List (List Ent)} (h : bQ x u l)
include h
theorem bQ.iY {o : Nat} {n : Int} {p : ByteArray} (h1 : (x.aC u l).gu o n p = 0) (h2 : x.gu o n p = 0) : ∃ u' l',(x.aC u l).iY o n p = (x.iY o n p).aC u' l' ∧ bQ (x.iY o n p) u' l':=by
 have hf : (x.aC u l).aQ o = x.aQ o:=rfl
 have hl : (x.aC u l).opL n p = x.opL n p:=by unfold Sy.opL;rw [h.sn]
 have hi : (x.aC u l).asIs (x.opL n p).2 n = x.asIs (x.opL n p).2 n:=by unfold Sy.asIs;rw [h.sn]
 unfold Sy.iY
 rw [hf,hl]
 unfold Sy.iq
 by_cases ha : x.asIs (x.opL n p).2 n
 ·rw [if_pos ha,if_pos (by rw [hi];exact ha)]
  obtain ⟨e1,e2⟩:=h.opened (baL (x.opL n p).2) n (o * 8 + (x.aQ o).toNat)
  exact ⟨u,l,e1,e2⟩
 ·rw [if_neg ha,if_neg (by rw [hi];exact ha)]
  have c1:=Ac h1 (by rw [hl,hi];exact ha)
  rw [hl,h.sn] at c1
  have hp:=h.put c1 (Ac h2 ha)
  obtain ⟨e1,e2⟩:=hp.opened (baL (x.opL n p).2) n (o * 8 + (x.aQ o).toNat)
  exact ⟨_,_,e1,e2⟩
theorem bQ.addE (p : ByteArray) (k : Int) (t : ByteArray) : (x.aC u l).dV p k t = x.dV p k t:=by unfold Sy.dV;rw [h.sn]
theorem bQ.eB (p : ByteArray) (k : Int) (t : ByteArray) : Near ((x.aC u l).eB p k t) (x.eB p k t):=by
 unfold Sy.eB
 rw [h.addE,h.sn]
 exact bL fun _ => bL fun _ => oo h.un1 h.un2
theorem bQ.add {p : ByteArray} {k : Int} {t : ByteArray} (h1 : (x.aC u l).eB p k t = 0) (h2 : x.eB p k t = 0) : bQ (x.aC (aF x.up (x.dV p k t)) x.lows) (aF u (x.dV p k t)) l:=by
 unfold Sy.eB at h1 h2
 rw [h.addE,h.sn] at h1
 split at h1
 ·rename_i g;exact absurd h1 g
 rename_i g
 rw [if_neg g] at h2
 split at h1
 ·cases h1
 rename_i g
 rw [if_neg g] at h2
 exact h.put h1 h2
theorem bQ.rq (p : ByteArray) : (x.aC u l).rmQ p = x.rmQ p:=by unfold Sy.rmQ;rw [h.sn]
theorem bQ.gX (k : Int) (p : ByteArray) : Near ((x.aC u l).gX k p) (x.gX k p):=by
 unfold Sy.gX
 rw [h.rq,h.sn]
 exact bL fun _ => bL fun _ => bL fun _ => bL fun _ => bL fun _ => oo h.un1 h.un2
theorem bQ.rm {k : Int} {p : ByteArray} (h1 : (x.aC u l).gX k p = 0) (h2 : x.gX k p = 0) : ∃ u' l',(x.aC u l).rmDo p = (x.rmDo p).aC u' l' ∧ bQ (x.rmDo p) u' l':=by
 unfold Sy.gX at h1 h2
 rw [h.rq,h.sn] at h1
 split at h1
 ·rename_i g;exact absurd h1 g
 rename_i g
 rw [if_neg g] at h2
 split at h1
 ·cases h1
 rename_i g
 rw [if_neg g] at h2
 split at h1
 ·cases h1
 rename_i g
 rw [if_neg g] at h2
 split at h1
 ·cases h1
 rename_i g
 rw [if_neg g] at h2
 split at h1
 ·cases h1
 rename_i g
 rw [if_neg g] at h2
 have eq : (baL (x.rmQ p)).data.toList = x.rmQ p:=by simp [baL]
 have h1' : aG (aA (u :: l)).1 (bC (aD (u :: l)) (baL (x.rmQ p)).data.toList) (aM u (ay l).2 (baL (x.rmQ p))).length = 0:=by rw [h.seen,eq];exact h1
 have h2' : aG (aA (x.up :: x.lows)).1 (bC (aD (x.up :: x.lows)) (baL (x.rmQ p)).data.toList) (aM x.up (ay x.lows).2 (baL (x.rmQ p))).length = 0:=by rw [eq];exact h2
 obtain ⟨a1,a2⟩:=jV h1'
 obtain ⟨b1,b2⟩:=jV h2'
 refine ⟨aM u (ay l).2 (baL (x.rmQ p)),l,?_,?_,a1,b1⟩
 ·unfold Sy.rmDo
  rw [h.rq,h.release]
  rfl
 ·rw [a2,h.seen]
  exact b2.symm
theorem bQ.fQ (a b : ByteArray) : Near ((x.aC u l).fQ a b) (x.fQ a b):=by
 unfold Sy.fQ
 rw [h.rq,h.rq,h.sn]
 exact bL fun _ => bL fun _ => bL fun _ => oo h.un1 h.un2
theorem bQ.ren {a b : ByteArray} (h1 : (x.aC u l).fQ a b = 0) (h2 : x.fQ a b = 0) : ∃ u' l',(x.aC u l).gW a b = (x.gW a b).aC u' l' ∧ bQ (x.gW a b) u' l':=by
 unfold Sy.fQ at h1 h2
 rw [h.rq,h.rq,h.sn] at h1
 split at h1
 ·rename_i g;exact absurd h1 g
 rename_i g
 rw [if_neg g] at h2
 split at h1
 ·rename_i g;exact absurd h1 g
 rename_i g
 rw [if_neg g] at h2
 split at h1
 ·cases h1
 rename_i g
 rw [if_neg g] at h2
 generalize hfr : baL (x.rmQ a) = fr at h1 h2
 generalize hto : baL (x.rmQ b) = q at h1 h2
 have h1' : aG (aA (x.aC u l).all).1 (bf (x.aC u l).seen fr q) ((x.aC u l).fG fr q).length = 0:=by rw [h.sn];exact h1
 obtain ⟨a1,a2,a3⟩:=pq h1'
 obtain ⟨b1,b2,b3⟩:=pq h2
 refine ⟨(x.aC u l).fG fr q,l,?_,?_,a1,?_⟩
 ·unfold Sy.gW
  rw [h.rq,h.rq,hfr,hto]
  unfold Sy.renamed
  split
  ·rfl
  ·rw [h.release];rfl
 ·show aD ((x.aC u l).fG fr q :: l) = (x.gW a b).seen
  have e : (x.gW a b).seen = aD (x.fG fr q :: x.lows):=by
   unfold Sy.gW
   rw [hfr,hto]
   rfl
  rw [e]
  by_cases hq : fr.data.toList = q.data.toList
  ·have z1 : aD ((x.aC u l).fG fr q :: l) = (x.aC u l).seen:=a2 hq
   rw [z1,h.sn]
   exact (b2 hq).symm
  ·have z1:=(a3 hq).1
   rw [h.sn] at z1
   have z2:=(b3 hq).1
   refine jg (aJ _).sorted (aJ _).sorted fun e => ?_
   exact (z1.mem_iff (a:=e)).trans (z2.mem_iff (a:=e)).symm
 ·show (aA (x.gW a b).all).1 = 0
  unfold Sy.gW
  rw [hfr,hto]
  exact b1
theorem bQ.bq (f : Fl) (t : ByteArray) : Near ((x.aC u l).bq f t) (x.bq f t):=by
 unfold Sy.bq
 rw [h.tx,h.sn]
 exact bL fun _ => bL fun _ => oo h.un1 h.un2
theorem bQ.keep (i : Nat) {f : Fl} {t : ByteArray} (h1 : (x.aC u l).bq f t = 0) (h2 : x.bq f t = 0) : ∃ u' l',(x.aC u l).eO i f t = (x.eO i f t).aC u' l' ∧ bQ (x.eO i f t) u' l':=by
 unfold Sy.bq at h1 h2
 rw [h.tx,h.sn] at h1
 unfold Sy.eO
 rw [h.tx]
 by_cases g : t.data.toList = (x.textOf f).data.toList
 ·rw [if_pos g,if_pos g]
  exact ⟨u,l,rfl,h⟩
 ·rw [if_neg g] at h1 h2
  rw [if_neg g,if_neg g]
  by_cases g2 : f.path.data.toList = []
  ·rw [if_pos g2,if_pos g2]
   exact ⟨u,l,rfl,h.seen,h.un1,h.un2⟩
  ·rw [if_neg g2] at h1 h2
   rw [if_neg g2,if_neg g2]
   exact ⟨_,l,rfl,h.put h1 h2⟩
def nJ (x : Sy) (u : List Ent) (l : List (List Ent)) (a b : Int × Sy × An) : Prop:=Near a.1 b.1 ∧ (a.1 = 0 → b.1 = 0 → a.2.2 = b.2.2 ∧ ∃ u' l',a.2.1 = b.2.1.aC u' l' ∧ bQ b.2.1 u' l')
end
theorem jT (a : Int) : Near a a:=.inr (.inr rfl)
theorem iC {x : Sy} {u : List Ent} {l : List (List Ent)} {c : Prop} [Decidable c] {a a' b b' : Int × Sy × An} (h1 : c → nJ x u l a a') (h2 : ¬ c → nJ x u l b b') : nJ x u l (if c then a else b) (if c then a' else b'):=by
 by_cases hc : c
 ·rw [if_pos hc,if_pos hc];exact h1 hc
 ·rw [if_neg hc,if_neg hc];exact h2 hc
section
variable {x : Sy} {u : List Ent} {l : List (List Ent)} (h : bQ x u l)
include h
theorem bQ.on (ow k : Nat) (ck cn cm : Int) (cx : ByteArray) (ca : Bool) (j : Nat) (op : Opn) (f : Fl) : nJ x u l ((x.aC u l).onR ow k ck cn cm cx ca j op f) (x.onR ow k ck cn cm cx ca j op f):=by
 have hf : (x.aC u l).aQ ow = x.aQ ow:=rfl
 unfold Sy.onR
 rw [h.tx,hf]
 split
 ·exact ⟨jT _,fun _ _ => ⟨rfl,u,l,rfl,h.seen,h.un1,h.un2⟩⟩
 split
 ·exact ⟨jT _,fun _ _ => ⟨rfl,u,l,rfl,h.seen,h.un1,h.un2⟩⟩
 split
 ·exact ⟨jT _,fun _ _ => ⟨rfl,u,l,rfl,h.seen,h.un1,h.un2⟩⟩
 split
 ·exact ⟨jT _,fun _ _ => ⟨rfl,u,l,rfl,h.seen,h.un1,h.un2⟩⟩
 split
 ·exact ⟨jT _,fun _ _ => ⟨rfl,u,l,rfl,h.seen,h.un1,h.un2⟩⟩
 split
 ·exact ⟨jT _,fun _ _ => ⟨rfl,u,l,rfl,h.seen,h.un1,h.un2⟩⟩
 have hat : (x.aC u l).wrAt op f = x.wrAt op f:=by unfold Sy.wrAt;rw [h.tx]
 split
 ·refine ⟨?_,fun h1 h2 => ⟨rfl,?_⟩⟩
  ·show Near ((x.aC u l).lX op f cx) (x.lX op f cx)
   unfold Sy.lX
   rw [hat,h.tx]
   exact bL fun _ => bL fun _ => h.bq _ _
  ·have h1 : (x.aC u l).lX op f cx = 0:=h1
   have h2 : x.lX op f cx = 0:=h2
   unfold Sy.lX at h1 h2
   rw [hat,h.tx] at h1
   split at h1
   ·cases h1
   rename_i g
   rw [if_neg g] at h2
   split at h1
   ·cases h1
   rename_i g
   rw [if_neg g] at h2
   obtain ⟨u',l',e1,e2⟩:=h.keep op.file h1 h2
   refine ⟨u',l',?_,?_,e2.un1,e2.un2⟩
   ·show (x.aC u l).wrDo j op f cx = (x.wrDo j op f cx).aC u' l'
    unfold Sy.wrDo
    rw [hat,h.tx,e1]
    rfl
   ·exact e2.seen
 ·refine ⟨?_,fun h1 h2 => ⟨rfl,?_⟩⟩
  ·show Near ((x.aC u l).jO op f cn) (x.jO op f cn)
   unfold Sy.jO
   rw [h.tx]
   exact bL fun _ => bL fun _ => h.bq _ _
  ·have h1 : (x.aC u l).jO op f cn = 0:=h1
   have h2 : x.jO op f cn = 0:=h2
   unfold Sy.jO at h1 h2
   rw [h.tx] at h1
   split at h1
   ·cases h1
   rename_i g
   rw [if_neg g] at h2
   split at h1
   ·cases h1
   rename_i g
   rw [if_neg g] at h2
   exact h.keep op.file h1 h2
theorem bQ.step (c : Cl) : nJ x u l ((x.aC u l).eT c) (x.eT c):=by
 have same : ∀ k a,nJ x u l (k,x.aC u l,a) (k,x,a):=fun k a => ⟨jT _,fun _ _ => ⟨rfl,u,l,rfl,h⟩⟩
 unfold Sy.eT
 refine iC (fun _ => same _ _) fun _ => iC (fun _ => same _ _) fun _ => iC (fun _ => ⟨h.J7 _ _ _,fun h1 h2 => ⟨rfl,h.iY h1 h2⟩⟩) fun _ => iC (fun _ => ?_) fun _ => iC (fun _ => ?_) fun _ => iC (fun _ => ⟨h.gX _ _,fun h1 h2 => ⟨rfl,h.rm h1 h2⟩⟩) fun _ => iC (fun _ => ⟨h.fQ _ _,fun h1 h2 => ⟨rfl,h.ren h1 h2⟩⟩) fun _ => iC (fun _ => ?_) fun _ => iC (fun _ => ?_) fun _ => ?_
 ·exact ⟨h.eB _ _ _,fun h1 h2 => ⟨rfl,_,l,by show (x.aC u l).aC (aF u ((x.aC u l).dV _ _ _)) l = _;rw [h.addE];rfl,h.add h1 h2⟩⟩
 ·exact ⟨h.eB _ _ _,fun h1 h2 => ⟨rfl,_,l,by show (x.aC u l).aC (aF u ((x.aC u l).dV _ _ _)) l = _;rw [h.addE];rfl,h.add h1 h2⟩⟩
 ·unfold Sy.qc Sy.nK
  rw [h.sn]
  exact same _ _
 ·unfold Sy.qb Sy.qp
  rw [h.sn]
  exact same _ _
 ·unfold Sy.numR
  split
  ·exact same _ _
  ·show nJ x u l (match x.fds _ with | none => _ | some j => _) _
   cases x.fds (c.owner.toNat * 8 + c.fd.toNat) with
   | none => exact same _ _
   | some j =>
    show nJ x u l (match x.opens[j]? with | none => _ | some op => _) (match x.opens[j]? with | none => _ | some op => _)
    cases x.opens[j]? with
    | none => exact same _ _
    | some op =>
     show nJ x u l (match x.files[op.file]? with | none => _ | some f => _) (match x.files[op.file]? with | none => _ | some f => _)
     cases x.files[op.file]? with
     | none => exact same _ _
     | some f => exact h.on _ _ _ _ _ _ _ _ _ _
theorem bQ.answer (c : Cl) : ((x.aC u l).answer c).2.err = 5 ∨ (x.answer c).2.err = 5 ∨ (((x.aC u l).answer c).2 = (x.answer c).2 ∧ ∃ u' l',((x.aC u l).answer c).1 = (x.answer c).1.aC u' l' ∧ bQ (x.answer c).1 u' l'):=by
 obtain ⟨h1,h2⟩:=h.step c
 unfold Sy.answer
 rcases h1 with h1 | h1 | h1
 ·left
  rw [if_neg (by rw [h1];decide),h1]
  rfl
 ·right;left
  rw [if_neg (by rw [h1];decide),h1]
  rfl
 ·right;right
  by_cases h0 : (x.eT c).1 = 0
  ·rw [if_pos h0,if_pos (by rw [h1];exact h0)]
   exact h2 (by rw [h1];exact h0) h0
  ·rw [if_neg h0,if_neg (by rw [h1];exact h0),h1]
   exact ⟨rfl,u,l,rfl,h⟩
end
theorem Af : ∀ (cs : List Cl) (x : Sy) (u : List Ent) (l : List (List Ent)),bQ x u l → (∃ a ∈ ((x.aC u l).run cs).2,a.err = 5) ∨ (∃ a ∈ (x.run cs).2,a.err = 5) ∨ (((x.aC u l).run cs).2 = (x.run cs).2 ∧ ∃ u' l',((x.aC u l).run cs).1 = (x.run cs).1.aC u' l' ∧ bQ (x.run cs).1 u' l')
 | [],x,u,l,h => .inr (.inr ⟨rfl,u,l,rfl,h⟩)
 | c :: r,x,u,l,h => by
  rw [Sy.run,Sy.run]
  simp only
  rcases h.answer c with g | g | ⟨g1,u',l',g2,g3⟩
  ·exact .inl ⟨_,by simp,g⟩
  ·exact .inr (.inl ⟨_,by simp,g⟩)
  ·rw [g2,g1]
   rcases Af r _ u' l' g3 with ⟨a,h1,h2⟩ | ⟨a,h1,h2⟩ | ⟨h1,h2⟩
   ·exact .inl ⟨a,by simp [h1],h2⟩
   ·exact .inr (.inl ⟨a,by simp [h1],h2⟩)
   ·exact .inr (.inr ⟨by rw [h1],h2⟩)
theorem qX {t : List Ent} (h : Right false t) : (aA [t]).1 = 0 ∧ aD [t] = t:=by
 have hn : Right false ([] : List Ent):=⟨by simp,fun e he => (by cases he),List.Pairwise.nil,fun e he => (by cases he)⟩
 have ht : bR t [] = []:=rfl
 have e0 : dP t [] = 0:=jW.2 ⟨h.layer,hn,by unfold kK;rw [zi h,ht,List.append_nil];exact h.len⟩
 have e1 : eP t [] = t:=(xg h.sorted hn.sorted (by rw [zi h,ht,List.append_nil]) (h.sorted.imp fun {a b} hab g => ny hab g)).symm
 have e2 : ay [t] = (0,t):=by
  rw [lg (x:=t) (r:=[]) rfl]
  show (dP t [],if dP t [] = 0 then eP t [] else []) = _
  rw [e0,if_pos rfl,e1]
 have e3 : (aA [t]).1 = 0:=dL.2 ⟨by simp,by rw [e2],fun x hx => by rw [List.mem_singleton] at hx;rw [hx];exact h.layer⟩
 exact ⟨e3,by rw [aD,if_pos e3,e2]⟩
theorem DR {up : List Ent} {lows : List (List Ent)} (h : (aA (up :: lows)).1 = 0) : bQ (aK (aD (up :: lows)) []) up lows :=
 ⟨by show aD (up :: lows) = aD [aD (up :: lows)];rw [(qX (aJ _)).2],h,(qX (aJ _)).1⟩
end PM
end Go.Proofs.YthfeoiffoeagkaaGreatDoor
