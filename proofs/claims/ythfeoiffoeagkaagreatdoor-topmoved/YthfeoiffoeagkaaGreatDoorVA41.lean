/-
  Whatever is called, all stays in order.
-/
import Derived.Test.YthfeoiffoeagkaaGreatDoorVA40
namespace Go.Proofs.YthfeoiffoeagkaaGreatDoor
open Go.RowKit PM Go.Sort
set_option linter.unusedVariables false
theorem kind_right {seen : List Ent} (hr : Right false seen) {e : Ent} (he : e ∈ seen) : e.kind = 1 ∨ e.kind = 2 ∨ e.kind = 3:=by
 have h:=hr.each e he
 unfold wrongE at h
 split at h
 ·omega
 ·rename_i h1
  simp at h1
  by_cases a : e.kind = 1
  ·exact .inl a
  by_cases b : e.kind = 2
  ·exact .inr (.inl b)
  by_cases c : e.kind = 3
  ·exact .inr (.inr c)
  exact absurd (h1 a c) b
section
variable {s : Sy}
theorem PM.Sy.Good.ready (h : s.Good) {cn : Int} {cp : ByteArray} (he : s.readyErr (s.opL cn cp).2 cn = 0) : (s.withU (s.readyUp (s.opL cn cp).2 cn) s.lows).Good ∧ PathOK (s.withU (s.readyUp (s.opL cn cp).2 cn) s.lows).seen (baL (s.opL cn cp).2):=by
 have hr : Right false s.seen:=seenU_right s.all
 have hl : (bits BinOp.and IntKind.i64 cn 16 == 0) = true → ((getL s.seen (s.opL cn cp).2).getD zeroE).kind ≠ 3:=fun h16 => by
  unfold Sy.opL;rw [h16];exact lead_noLink hr _
 generalize (s.opL cn cp).2 = q at he hl ⊢
 have hbd : (baL q).data.toList = q:=by simp [baL]
 unfold Sy.readyErr at he
 split at he
 ·cases he
 split at he
 ·cases he
 rename_i h1 h2
 split at he
 ·cases he
 rename_i h3
 unfold Sy.readyUp
 split at he
 ·rename_i has
  rw [if_pos has]
  refine ⟨h,?_⟩
  have h16 : (bits BinOp.and IntKind.i64 cn 16 == 0) = true:=by
   cases hb : (bits BinOp.and IntKind.i64 cn 16 == 0) with
   | true => rfl
   | false => exact absurd ⟨has.1,by simpa [bne] using hb⟩ h2
  cases hg : getL s.seen q with
  | none => have:=has.1;rw [hg] at this;cases this
  | some e =>
   have hl:=hl h16
   rw [hg] at hl h3
   have hl : e.kind ≠ 3:=hl
   have h3 : ¬ e.kind = 2:=fun e2 => h3 ⟨rfl,e2⟩
   by_cases hq : q = []
   ·rw [hq,getL_nil] at hg;cases hg;exact absurd rfl h3
   ·right
    rw [hbd]
    refine ⟨e,hg,?_⟩
    rcases kind_right hr (getL_some hq hg).1 with k | k | k
    ·exact k
    ·exact absurd k h3
    ·exact absurd k hl
 ·rename_i has
  rw [if_neg has]
  obtain ⟨g1,g2⟩:=h.put he (.inl rfl)
  refine ⟨g1,.inr ⟨⟨baL q,1,⟨#[]⟩,false⟩,?_,rfl⟩⟩
  have hne : (⟨baL q,1,⟨#[]⟩,false⟩ : Ent).p ≠ []:=clean_ne (wrongE_clean (put_okU (chgErr_zero.1 he).2.1).2.1)
  show getL (seenU (haveL s.up ⟨baL q,1,⟨#[]⟩,false⟩ :: s.lows)) (baL q).data.toList = _
  rw [g2]
  exact getL_put_same hr.sorted hne
theorem PM.Sy.Good.opened (h : s.Good) {q : ByteArray} {use : Int} {n : Nat} (hn : n < 32) (hq : PathOK s.seen q) : (s.opened q use n).Good:=by
 have key : ∀ (s1 : Sy) (i : Nat),s1.Good → (∃ f,s1.files[i]? = some f ∧ FlOK s1.seen f) → ((s1.addOp ⟨i,use,0⟩).setFd n (some s1.opens.length)).Good:=fun s1 i g ⟨f0,hf0,hk0⟩ => by
  have hi:=(List.getElem?_eq_some_iff.1 hf0).1
  have hb : ∀ m j op f,((s1.addOp ⟨i,use,0⟩).setFd n (some s1.opens.length)).Leads m j op f → (op = ⟨i,use,0⟩ ∧ f = f0) ∨ s1.Leads m j op f:=fun m j op f hl => by
   have h1 : (if m = n then some s1.opens.length else s1.fds m) = some j:=hl.hfd
   have h2 : (s1.opens ++ [⟨i,use,0⟩])[j]? = some op:=hl.hop
   have h3 : s1.files[op.file]? = some f:=hl.hfl
   by_cases e : m = n
   ·rw [if_pos e] at h1
    cases h1
    rcases get_snoc h2 with ⟨_,e2⟩ | ⟨hl,_⟩
    ·left
     subst e2
     exact ⟨rfl,by rw [hf0] at h3;cases h3;rfl⟩
    ·omega
   ·rw [if_neg e] at h1
    have hj:=g.v1 m j h1
    rcases get_snoc h2 with ⟨e2,_⟩ | ⟨_,h2⟩
    ·omega
    ·exact .inr ⟨h1,h2,h3⟩
  refine ⟨g.un,fun m j hm => ?_,fun m j hm => ?_,fun j op ho => ?_,fun m j op f hl => ?_,fun m j op f hl => ?_⟩
  ·have h1 : (if m = n then some s1.opens.length else s1.fds m) = some j:=hm
   by_cases e : m = n
   ·omega
   ·rw [if_neg e] at h1;exact g.num m j h1
  ·have h1 : (if m = n then some s1.opens.length else s1.fds m) = some j:=hm
   show j < (s1.opens ++ [_]).length
   simp
   by_cases e : m = n
   ·rw [if_pos e] at h1;cases h1;omega
   ·rw [if_neg e] at h1;have:=g.v1 m j h1;omega
  ·rcases get_snoc (show (s1.opens ++ [⟨i,use,0⟩])[j]? = some op from ho) with ⟨_,e⟩ | ⟨_,ho⟩
   ·rw [e];exact hi
   ·exact g.v2 j op ho
  ·rcases hb m j op f hl with ⟨e,_⟩ | hl
   ·rw [e];exact ⟨Int.le_refl _,by show (0 : Int) ≤ 1000;decide⟩
   ·exact g.pos m j op f hl
  ·rcases hb m j op f hl with ⟨_,e⟩ | hl
   ·rw [e];exact hk0
   ·exact g.fil m j op f hl
 unfold Sy.opened Sy.fileAt
 cases ho : s.openAt q with
 | some i =>
  have hi : i ∈ s.reach:=List.mem_of_find?_eq_some ho
  have hlt : i < s.files.length:=by
   obtain ⟨m,j,_,hj,e⟩:=mem_reachTo s 32 i hi
   have hl:=h.v1 m j hj
   have h2:=h.v2 j _ (List.getElem?_eq_getElem hl)
   rw [Sy.fileOf,List.getElem?_eq_getElem hl] at e
   simp at e
   omega
  obtain ⟨m,j,op,hl,_⟩:=h.leads hi (List.getElem?_eq_getElem hlt)
  exact key s i h ⟨_,List.getElem?_eq_getElem hlt,h.fil m j op _ hl⟩
 | none =>
  have g : (s.addFl ⟨q,⟨#[]⟩,[]⟩).Good:=by
   have hb : ∀ m j op f,(s.addFl ⟨q,⟨#[]⟩,[]⟩).Leads m j op f → s.Leads m j op f:=fun m j op f hl => by
    refine ⟨hl.hfd,hl.hop,?_⟩
    have h2:=h.v2 j op hl.hop
    rcases get_snoc (show (s.files ++ [_])[op.file]? = some f from hl.hfl) with ⟨e,_⟩ | ⟨_,h3⟩
    ·omega
    ·exact h3
   exact ⟨h.un,h.num,h.v1,fun j op ho => by have:=h.v2 j op ho;show op.file < (s.files ++ [_]).length;simp;omega,fun m j op f hl => h.pos m j op f (hb m j op f hl),fun m j op f hl => h.fil m j op f (hb m j op f hl)⟩
  refine key (s.addFl ⟨q,⟨#[]⟩,[]⟩) s.files.length g ⟨⟨q,⟨#[]⟩,[]⟩,?_,⟨by show (ByteArray.mk #[]).size ≤ 100;decide,Nat.zero_le _,hq⟩⟩
  show (s.files ++ [_])[s.files.length]? = _
  simp
theorem PM.Sy.Good.open (h : s.Good) {o : Nat} {cn : Int} {cp : ByteArray} (ho : o < 4) (he : s.openErr o cn cp = 0) : (s.openTo o cn cp).Good:=by
 unfold Sy.openErr at he
 split at he
 ·cases he
 split at he
 ·cases he
 rename_i hfr
 split at he
 ·rename_i h1;exact absurd he h1
 obtain ⟨g1,g2⟩:=h.ready he
 unfold Sy.openTo
 refine g1.opened ?_ g2
 rcases free_lt s o with e | ⟨k,hk,e,_⟩
 ·omega
 ·rw [e];show o * 8 + k < 32;omega
theorem PM.Sy.Good.number (h : s.Good) {n : Nat} {j : Option Nat} (hn : n < 32) (hj : ∀ x,j = some x → ∃ m,s.fds m = some x) : (s.setFd n j).Good:=by
 have hb : ∀ m x,(s.setFd n j).fds m = some x → ∃ m',s.fds m' = some x:=fun m x hm => by
  have h1 : (if m = n then j else s.fds m) = some x:=hm
  by_cases e : m = n
  ·rw [if_pos e] at h1;exact hj x h1
  ·rw [if_neg e] at h1;exact ⟨m,h1⟩
 refine ⟨h.un,fun m x hm => ?_,fun m x hm => ?_,h.v2,fun m x op f hl => ?_,fun m x op f hl => ?_⟩
 ·have h1 : (if m = n then j else s.fds m) = some x:=hm
  by_cases e : m = n
  ·omega
  ·rw [if_neg e] at h1;exact h.num m x h1
 ·obtain ⟨m',h'⟩:=hb m x hm
  exact h.v1 m' x h'
 ·obtain ⟨m',h'⟩:=hb m x hl.hfd
  exact h.pos m' x op f ⟨h',hl.hop,hl.hfl⟩
 ·obtain ⟨m',h'⟩:=hb m x hl.hfd
  exact h.fil m' x op f ⟨h',hl.hop,hl.hfl⟩
theorem PM.Sy.Good.file (h : s.Good) {i : Nat} {f' : Fl} (hf : FlOK s.seen f') : (s.setF i f').Good:=by
 have hb : ∀ m j op f,(s.setF i f').Leads m j op f → (∃ f0,s.Leads m j op f0) ∧ (f = f' ∨ s.Leads m j op f):=fun m j op f hl => by
  have h3 : (s.files.set i f')[op.file]? = some f:=hl.hfl
  have hlt : op.file < s.files.length:=by simpa using (List.getElem?_eq_some_iff.1 h3).1
  refine ⟨⟨_,hl.hfd,hl.hop,List.getElem?_eq_getElem hlt⟩,?_⟩
  rcases get_set h3 with ⟨_,e,_⟩ | ⟨_,h3⟩
  ·exact .inl e
  ·exact .inr ⟨hl.hfd,hl.hop,h3⟩
 refine ⟨h.un,h.num,h.v1,fun j op ho => by simpa [Sy.setF] using h.v2 j op ho,fun m j op f hl => ?_,fun m j op f hl => ?_⟩
 ·obtain ⟨⟨f0,h0⟩,_⟩:=hb m j op f hl
  exact h.pos m j op f0 h0
 ·rcases (hb m j op f hl).2 with e | hl
  ·rw [e];exact hf
  ·exact h.fil m j op f hl
theorem PM.Sy.Good.place (h : s.Good) {j : Nat} {op : Opn} {p : Int} (ho : s.opens[j]? = some op) (hp : 0 ≤ p ∧ p ≤ 1000) : (s.setO j { op with pos:=p }).Good:=by
 have hb : ∀ m j2 op2 f,(s.setO j { op with pos:=p }).Leads m j2 op2 f → (op2.pos = p ∧ s.Leads m j2 op f) ∨ s.Leads m j2 op2 f:=fun m j2 op2 f hl => by
  have h2 : (s.opens.set j { op with pos:=p })[j2]? = some op2:=hl.hop
  rcases get_set h2 with ⟨e1,e2,_⟩ | ⟨_,h2⟩
  ·left
   subst e1 e2
   exact ⟨rfl,hl.hfd,ho,hl.hfl⟩
  ·exact .inr ⟨hl.hfd,h2,hl.hfl⟩
 refine ⟨h.un,h.num,fun m x hm => by simpa [Sy.setO] using h.v1 m x hm,fun j2 op2 ho2 => ?_,fun m j2 op2 f hl => ?_,fun m j2 op2 f hl => ?_⟩
 ·rcases get_set (show (s.opens.set j { op with pos:=p })[j2]? = some op2 from ho2) with ⟨_,e,_⟩ | ⟨_,h2⟩
  ·rw [e];exact h.v2 j op ho
  ·exact h.v2 j2 op2 h2
 ·rcases hb m j2 op2 f hl with ⟨e,_⟩ | hl
  ·rw [e];exact hp
  ·exact h.pos m j2 op2 f hl
 ·rcases hb m j2 op2 f hl with ⟨_,hl⟩ | hl
  ·exact h.fil m j2 op f hl
  ·exact h.fil m j2 op2 f hl
theorem PM.Sy.Good.keep (h : s.Good) {n j : Nat} {op : Opn} {f : Fl} {t : ByteArray} (hl : s.Leads n j op f) (ht : t.size ≤ 100) (he : s.keepErr f t = 0) : (s.keepDo op.file f t).Good:=by
 have hf:=h.fil n j op f hl
 unfold Sy.keepErr at he
 unfold Sy.keepDo
 split
 ·exact h
 ·rename_i h1
  rw [if_neg h1] at he
  split
  ·exact h.file ⟨ht,hf.2.1,hf.2.2⟩
  ·rename_i h2
   rw [if_neg h2] at he
   exact (h.put he (.inl rfl)).1
theorem lock_size {free : Bool} {l : List LK.Lk} {x : LK.Lk} (hw : ∃ r : Int × List LK.Lk,LK.KM.SetSpec free l x r.1 r.2) (h : (lockRes free l x).1 = 0) : (lockRes free l x).2.length ≤ 40:=by
 obtain ⟨r,hr⟩:=hw
 obtain ⟨e1,e2⟩:=lockRes_eq hr
 rw [← e1] at h
 rw [← e2]
 rcases hr with ⟨a,b,c⟩ | ⟨_,_,_,b,c⟩ | ⟨_,_,m',_,_,⟨_,b,c⟩ | ⟨b,_,c⟩⟩
 ·rw [c];simp
 ·rw [c];simp
 ·rw [c];simp
 ·rw [c];exact b
theorem lock_size0 {free : Bool} {l : List LK.Lk} {x : LK.Lk} (h : (lockRes free l x).1 = 0) : (lockRes free l x).2.length ≤ 40:=by
 by_cases hw : ∃ r : Int × List LK.Lk,LK.KM.SetSpec free l x r.1 r.2
 ·exact lock_size hw h
 ·rw [lockRes,dif_neg hw];simp
theorem PM.Sy.Good.on (h : s.Good) {ow k : Nat} {ck cn cm : Int} {cx : ByteArray} {ca : Bool} {j : Nat} {op : Opn} {f : Fl} (ho : ow < 4) (hk : k < 8) (hl : s.Leads (ow * 8 + k) j op f) (he : (s.onR ow k ck cn cm cx ca j op f).1 = 0) : (s.onR ow k ck cn cm cx ca j op f).2.1.Good:=by
 have hf:=h.fil _ _ _ _ hl
 have hp:=h.pos _ _ _ _ hl
 have ht:=textOf_size hf
 unfold Sy.onR at he ⊢
 split
 ·refine (h.number (by omega) (fun x hx => by cases hx)).file ⟨hf.1,Nat.le_trans (List.length_filter_le _ _) hf.2.1,hf.2.2⟩
 rename_i e2
 rw [if_neg e2] at he
 split
 ·rename_i e13
  rw [if_pos e13] at he
  have hR : ¬ s.freeOf ow < 0:=by
   intro hR;simp only [if_pos hR] at he;cases he
  refine h.number ?_ (fun x hx => by cases hx;exact ⟨_,hl.hfd⟩)
  rcases free_lt s ow with e | ⟨k',hk',e,_⟩
  ·omega
  ·rw [e];show ow * 8 + k' < 32;omega
 rename_i e13
 rw [if_neg e13] at he
 split
 ·rename_i e5
  rw [if_pos e5] at he
  have he : seekErr cn = 0:=he
  unfold seekErr at he
  split at he
  ·cases he
  ·exact h.place hl.hop (by omega)
 rename_i e5
 rw [if_neg e5] at he
 split
 ·rename_i e14
  rw [if_pos e14] at he
  exact h.file ⟨hf.1,lock_size0 he,hf.2.2⟩
 rename_i e14
 rw [if_neg e14] at he
 split
 ·rename_i e15
  rw [if_pos e15] at he
  exact h.file ⟨hf.1,lock_size0 he,hf.2.2⟩
 rename_i e15
 rw [if_neg e15] at he
 split
 ·refine h.place hl.hop ⟨by omega,?_⟩
  unfold readT
  simp only [ByteArray.size_extract]
  omega
 rename_i e3
 rw [if_neg e3] at he
 split
 ·rename_i e4
  rw [if_pos e4] at he
  have he : s.wrErr op f cx = 0:=he
  have hat : 0 ≤ s.wrAt op f ∧ s.wrAt op f ≤ 1000:=by unfold Sy.wrAt;split <;> omega
  unfold Sy.wrErr at he
  split at he
  ·cases he
  split at he
  ·cases he
  rename_i hm
  show (s.wrDo j op f cx).Good
  unfold Sy.wrDo
  have htw : (wrText (s.textOf f) cx (s.wrAt op f)).size ≤ 100:=by
   unfold wrText
   split
   ·exact ht
   ·rename_i hx
    have h1:=sizedL_size (s.textOf f) (s.wrAt op f) hat.1
    have h2 : ¬ 100 < s.wrAt op f + cx.size:=fun h2 => hm ⟨hx,h2⟩
    rw [ByteArray.size_append,ByteArray.size_append,ByteArray.size_extract]
    omega
  refine (h.keep hl htw he).place (by rw [keep_opens];exact hl.hop) ⟨by omega,?_⟩
  by_cases hx : cx.data.toList = []
  ·have : cx.size = 0:=by have h9:=szl cx;rw [hx,List.length_nil] at h9;omega
   omega
  ·have h2 : ¬ 100 < s.wrAt op f + cx.size:=fun h2 => hm ⟨hx,h2⟩
   omega
 rename_i e4
 rw [if_neg e4] at he
 have he : s.cutErr op f cn = 0:=he
 unfold Sy.cutErr at he
 split at he
 ·cases he
 split at he
 ·cases he
 rename_i hn
 have:=sizedL_size (s.textOf f) cn (by omega)
 exact h.keep hl (by omega) he
theorem PM.Sy.Good.num' (h : s.Good) {ow : Nat} {ck cf cn cm : Int} {cx : ByteArray} {ca : Bool} (ho : ow < 4) (he : (s.numR ow ck cf cn cm cx ca).1 = 0) : (s.numR ow ck cf cn cm cx ca).2.1.Good:=by
 unfold Sy.numR at he ⊢
 split
 ·exact h
 ·rename_i hf
  rw [if_neg hf] at he
  split
  ·exact h
  ·rename_i j hj
   simp only [hj] at he
   split
   ·exact h
   ·rename_i op hop
    simp only [hop] at he
    split
    ·exact h
    ·rename_i f hfl
     simp only [hfl] at he
     exact h.on ho (by omega) ⟨hj,hop,hfl⟩ he
theorem PM.Sy.Good.step (h : s.Good) {c : Cl} (he : (s.stepR c).1 = 0) : (s.stepR c).2.1.Good:=by
 unfold Sy.stepR at he ⊢
 split
 ·exact h
 rename_i e
 rw [if_neg e] at he
 split
 ·exact h
 rename_i hw
 rw [if_neg hw] at he
 have ho : c.owner.toNat < 4:=by omega
 split
 ·rename_i e
  rw [if_pos e] at he
  exact h.open ho he
 rename_i e
 rw [if_neg e] at he
 split
 ·rename_i e
  rw [if_pos e] at he
  exact h.add he
 rename_i e
 rw [if_neg e] at he
 split
 ·rename_i e
  rw [if_pos e] at he
  exact h.add he
 rename_i e
 rw [if_neg e] at he
 split
 ·rename_i e
  rw [if_pos e] at he
  exact h.remove he
 rename_i e
 rw [if_neg e] at he
 split
 ·rename_i e
  rw [if_pos e] at he
  exact h.rename he
 rename_i e
 rw [if_neg e] at he
 split
 ·exact h
 rename_i e
 rw [if_neg e] at he
 split
 ·exact h
 rename_i e
 rw [if_neg e] at he
 exact h.num' ho he
theorem PM.Sy.Good.answer (h : s.Good) (c : Cl) : (s.answer c).1.Good:=by
 unfold Sy.answer
 split
 ·rename_i e;exact h.step e
 ·exact h
end
theorem good_run : ∀ (l : List Cl) {s : Sy},s.Good → (s.run l).1.Good
 | [],s,h => h
 | c :: r,s,h => good_run r (h.answer c)
theorem good_start {up : List Ent} {lows : List (List Ent)} (h : (wrongU (up :: lows)).1 = 0) : (startS up lows).Good :=
 ⟨h,fun n j hj => by simp [startS] at hj,fun n j hj => by simp [startS] at hj,fun j op ho => by simp [startS] at ho,fun n j op f hl => by have:=hl.hfd;simp [startS] at this,fun n j op f hl => by have:=hl.hfd;simp [startS] at this⟩
theorem play_any (y : Lay) (lo : List Lay) (pl : Option Addr) (cl : Nat) (pc : Option Addr) (cc : Nat) (l : List Cl) (W : World) (hU : UnOK W y lo pl cl) (hg : Gl W.heap.size W) (h0 : (wrongU (y.es :: lo.map (·.es))).1 = 0) (hn : l.length ≤ 80) (hC : LiesC W pc l) (hs : ∀ c ∈ l,c.Small) :
  Calls Tryz.prog 16 #[.agg #[.slice y.ad y.es.length y.cap,.slice pl lo.length cl],.slice pc l.length cc] W (PlayPost ((startS y.es (lo.map (·.es))).run l).1 ((startS y.es (lo.map (·.es))).run l).2 W) :=
 play_ok y lo pl cl pc cc l W hU hg h0 hn hC hs (fun k _ => (good_run _ (good_start h0)).fine)
def small6 : List Ent:=[⟨⟨#[97]⟩,1,⟨#[104,101,108,108,111]⟩,false⟩]
def calls6 : List Cl:=[⟨1,0,0,1,0,⟨#[97]⟩,⟨#[]⟩,⟨#[]⟩,false⟩,⟨8,0,0,0,0,⟨#[97]⟩,⟨#[]⟩,⟨#[]⟩,false⟩,⟨3,0,0,3,0,⟨#[]⟩,⟨#[]⟩,⟨#[]⟩,false⟩]
theorem small6_right : (wrongU [[],small6]).1 = 0:=by decide
set_option maxRecDepth 1000000 in
theorem run6_text : (((startS [] [small6]).run calls6).2[2]?).map (·.text.data.toList) = some [104,101,108]:=by decide +kernel
set_option maxRecDepth 1000000 in
theorem run6_seen : ((startS [] [small6]).run calls6).1.seen.length = 0:=by decide +kernel
set_option maxRecDepth 1000000 in
theorem run6_open : ((startS [] [small6]).run calls6).1.reach.length = 1:=by decide +kernel
theorem encC_at {l : List Cl} {i j : Nat} {c : Cl} {v : Value} (h : l[i]? = some c) (hv : (encC c)[j]? = some v) : (l.flatMap encC)[i * 9 + j]? = some v:=by
 have hj : j < 9:=(List.getElem?_eq_some_iff.1 hv).1
 induction l generalizing i with
 | nil => simp at h
 | cons x r ih =>
  rw [List.flatMap_cons]
  cases i with
  | zero => simp at h;subst h;rw [List.getElem?_append_left (by show _ < 9;omega)];simpa using hv
  | succ i =>
   rw [List.getElem?_append_right (by show 9 ≤ _;omega),show (i + 1) * 9 + j - (encC x).length = i * 9 + j from by show (i + 1) * 9 + j - 9 = _;omega]
   exact ih (by simpa using h)
theorem liesC_new (W : World) (l : List Cl) (a : Array Value) (ha : a = (l.flatMap encC).toArray) : LiesC (W.alloc (.cells a 50)) (some ⟨W.heap.size,0,none⟩) l:=by
 subst ha
 refine .inr ⟨W.heap.size,0,rfl,by simp,fun i c hc j v hv => ?_⟩
 have h1:=encC_at hc hv
 have h2 : (W.alloc (.cells (l.flatMap encC).toArray 50)).heap[W.heap.size]? = some (.cells (l.flatMap encC).toArray 50):=heap_alloc_last W _
 simp only [World.cell?,h2,Nat.zero_add]
 simp [h1]
theorem LiesC.kept {W W' : World} {p : Option Addr} {l : List Cl} (h : LiesC W p l) (hB : Below W.heap.size W W') : LiesC W' p l:=by
 rcases h with h | ⟨b,off,hp,hb,hc⟩
 ·exact .inl h
 ·exact .inr ⟨b,off,hp,Nat.lt_of_lt_of_le hb hB.size,fun i c hi j v hv => (hB.cell (p:=⟨b,off + i * 9 + j,none⟩) hb).trans (hc i c hi j v hv)⟩
theorem Gl.up {W W' : World} (h : Gl W.heap.size W) (hB : Below W.heap.size W W') : Gl W'.heap.size W':=⟨Nat.lt_of_lt_of_le h.1 hB.size,(h.kept hB).2⟩
def small6Cells : Array Value:=#[.string ⟨#[97]⟩,.int .i64 1,.string ⟨#[104,101,108,108,111]⟩,.bool false]
theorem small6_any (w : World) : Calls Tryz.prog 47 #[] w fun r w' => ∃ b b',r = .returned (.agg #[.slice none 0 0,.slice (some ⟨b',0,none⟩) 1 1]) ∧ UnOK w' ⟨none,0,[]⟩ [⟨some ⟨b,0,none⟩,1,small6⟩] (some ⟨b',0,none⟩) 1 ∧ Below w.heap.size w w':=by
 go_enter Tryz.func47,Tryz.ntmps47
 go_wp2
 refine bodyPost_ret (v:=.agg #[.slice none 0 0,.slice (some ⟨w.heap.size + 1 + 1,0,none⟩) 1 1]) (by simp [results,Tryz.results47,go_sem]) rfl ?_
 have hO:=(own_alloc (w.alloc (.cells #[.slice none 0 0,.slice (some ⟨w.heap.size + 1 + 1,0,none⟩) 1 1] 26)) small6Cells 1 small6 rfl (by decide) (by unfold maxLen;decide) (fun k v hk => by
   have : (small6.flatMap encE) = small6Cells.toList:=rfl
   rw [this,Array.getElem?_toList] at hk;exact hk)).grown ((Grown.refl _).alloc (.cells #[.slice (some ⟨w.heap.size + 1,0,none⟩) 1 1] 23))
 have hs : (w.alloc (.cells #[.slice none 0 0,.slice (some ⟨w.heap.size + 1 + 1,0,none⟩) 1 1] 26)).heap.size = w.heap.size + 1:=World.size_alloc _ _
 rw [hs] at hO
 refine ⟨w.heap.size + 1,w.heap.size + 1 + 1,rfl,⟨⟨Lies.nil _ _,fun e he => by simp at he,Nat.le_refl _,by decide⟩,fun _ => rfl,.inr ⟨w.heap.size + 1 + 1,0,rfl,by simp,fun j x hx => ?_⟩,fun x hx => ?_,nofun,Nat.le_refl _⟩,(((Below.refl _ _).alloc (Nat.le_refl _) _).alloc (by simp) _).alloc (by simp;omega) _⟩
 ·cases j with
  | zero =>
   simp at hx
   subst hx
   exact cell_top2 _ _ (by simp) _ _
  | succ j => simp at hx
 ·rw [List.mem_singleton] at hx
  subst hx
  exact ⟨⟨hO.lies,by intro e he;simp [small6] at he;subst he;exact ⟨by show (ByteArray.mk #[97]).size ≤ _;unfold maxLen;decide,by show (ByteArray.mk #[104,101,108,108,111]).size ≤ _;unfold maxLen;decide⟩,Nat.le_refl _,by show small6.length < _;decide⟩,nofun⟩
set_option maxRecDepth 100000 in
set_option maxHeartbeats 1000000 in
theorem alive6_any (w : World) (hg : Gl w.heap.size w) : Calls Tryz.prog 20 #[] w fun r w' => r = .returned (.bool true) ∧ Below w.heap.size w w':=by
 have hsm:=small6_any w
 have hpl : ∀ (W : World) (b b' : Nat) (H : Nat),UnOK W ⟨none,0,[]⟩ [⟨some ⟨b,0,none⟩,1,small6⟩] (some ⟨b',0,none⟩) 1 → Gl W.heap.size W → LiesC W (some ⟨H,0,none⟩) calls6 →
   Calls Tryz.prog 16 #[.agg #[.slice none 0 0,.slice (some ⟨b',0,none⟩) 1 1],.slice (some ⟨H,0,none⟩) 3 3] W (fun r w' => ∃ a0 k0 c0 a1 k1 c1 ps sc b ac,r = .returned (.tuple #[.agg #[.slice a0 k0 c0,.slice a1 k1 c1,.slice ps 0 sc,.int .i64 1],.slice (some ⟨b,0,none⟩) 3 ac,.int .i64 0]) ∧ w'.cell? ⟨b,10,none⟩ = some (.string ⟨#[104,101,108]⟩) ∧ Below W.heap.size W w'):=fun W b b' H hU hG hC => by
  have h:=play_any ⟨none,0,[]⟩ [⟨some ⟨b,0,none⟩,1,small6⟩] (some ⟨b',0,none⟩) 1 (some ⟨H,0,none⟩) 3 calls6 W hU hG small6_right (by decide) hC (fun c hc => by simp [calls6] at hc;rcases hc with rfl | rfl | rfl <;> exact ⟨by decide,by decide,by decide⟩)
  refine h.mono fun r w' ⟨y,lo,pl,cl,ps,sc,yn,ln,sn,op,pa,na,ac,e,hB,hx⟩ => ?_
  obtain ⟨e1,e2,e3,e4,e5,e6,e7,e8,e9,e10,e11,e12,e13,e14⟩:=hx.out
  have h1 : ((startS [] [small6]).run calls6).1.seen.length = 0:=run6_seen
  have h2 : ((startS [] [small6]).run calls6).1.reach.length = 1:=run6_open
  have h3 : ((startS [] [small6]).run calls6).2.length = 3:=by rw [run_len];rfl
  have h4:=run6_text
  rw [show sn = 0 from e3.trans h1,show op = 1 from e4.trans h2,show na = 3 from e11.trans h3] at e
  rcases e14 with e14 | ⟨b1,hp,_,hc⟩
  ·have e14 : ((startS [] [small6]).run calls6).2 = []:=e14
   rw [e14] at h3;cases h3
  ·rw [hp] at e
   cases ha : ((startS [] [small6]).run calls6).2[2]? with
   | none => rw [ha] at h4;cases h4
   | some a =>
    rw [ha] at h4
    obtain ⟨_,_,_,_,_,hc2,_⟩:=hc 2 a ha
    have ht : a.text = ⟨#[104,101,108]⟩:=ba_ext (by simpa using h4)
    rw [ht] at hc2
    exact ⟨_,_,_,_,_,_,_,_,_,_,e,hc2,hB⟩
 have HG : Aside (Gl w.heap.size w):=hg
 clear hg
 go_enter Tryz.func20,Tryz.ntmps20
 go_wp2_with (first
  | (go_at_call 47;refine hsm.mono ?_;clear hsm;rintro r w3 ⟨b,b',rfl,hU,hB3⟩;have H3 : Aside (UnOK w3 ⟨none,0,[]⟩ [⟨some ⟨b,0,none⟩,1,small6⟩] (some ⟨b',0,none⟩) 1 ∧ Below w.heap.size w w3):=⟨hU,hB3⟩;clear hU hB3)
  | (go_at_call 16;refine (hpl _ b b' _ (H3.out.1.kept ((Grown.refl w3).alloc _).below) (HG.out.up (Below.onto H3.out.2 ((Grown.refl w3).alloc _).below)) (liesC_new w3 calls6 _ rfl)).mono ?_;clear hpl;rintro r w5 ⟨a0,k0,c0,a1,k1,c1,ps,sc,b1,ac,rfl,hc,hB5⟩;have H5 : Aside (Below w.heap.size w w5):=Below.onto (Below.onto H3.out.2 ((Grown.refl w3).alloc _).below) hB5;have hc':=Lib.cell?_alloc_some (.cells #[.slice a0 k0 c0,.slice a1 k1 c1,.slice ps 0 sc,.int .i64 1] 29) hc;clear hB5))
 go_ret
 exact ⟨rfl,H5.out.alloc H5.out.size _⟩
theorem flatC_one {t : List Cl} {u : Value} (h : u ∈ t.flatMap encC) : u.oneCell' = true:=by
 obtain ⟨e,_,he⟩:=List.mem_flatMap.1 h
 simp [encC] at he
 rcases he with rfl | rfl | rfl | rfl | rfl | rfl | rfl | rfl | rfl <;> rfl
theorem infoC : ∃ i0,Tryz.prog.info? 50 = some i0 ∧ i0.zero = some (.agg #[.int .i64 0,.int .i64 0,.int .i64 0,.int .i64 0,.int .i64 0,.string ⟨#[]⟩,.string ⟨#[]⟩,.string ⟨#[]⟩,.bool false]) ∧ i0.size = 9 ∧ i0.bytes = 96:=by
 have h : (Tryz.prog.info? 50).map (fun i => (i.zero,i.size,i.bytes)) = some (some (.agg #[.int .i64 0,.int .i64 0,.int .i64 0,.int .i64 0,.int .i64 0,.string ⟨#[]⟩,.string ⟨#[]⟩,.string ⟨#[]⟩,.bool false]),9,96):=by kernel_rfl
 cases hi : Tryz.prog.info? 50 with
 | none => rw [hi] at h;cases h
 | some i0 =>
  rw [hi] at h
  simp only [Option.map_some,Option.some.injEq,Prod.mk.injEq] at h
  exact ⟨i0,rfl,h.1,h.2.1,h.2.2⟩
def RowsC (w : World) (base : Nat) (v : Value) (l : List Cl) : Prop:=w.ownsRow base 50 9 v l.length (l.flatMap encC)
theorem RowsC.nil (w : World) (base : Nat) : RowsC w base (.slice none 0 0) []:=World.ownsRow_nil _ _ _ _
theorem RowsC.own {w : World} {base : Nat} {v : Value} {l : List Cl} (h : RowsC w base v l) {g : Nat} (hg : v.ownBlock = some g) : base ≤ g ∧ ∃ cur,w.heap[g]? = some (.cells cur 50 (0,0)):=by
 obtain ⟨_,⟨e,_⟩ | ⟨g',cap,cur,e,hb,hh,_⟩⟩:=h
 ·rw [e] at hg;cases hg
 ·rw [e] at hg
  simp [Value.ownBlock] at hg
  subst hg
  exact ⟨hb,cur,hh⟩
theorem RowsC.at {w w' : World} {base : Nat} {v : Value} {l : List Cl} (h : RowsC w base v l) (hk : ∀ g,v.ownBlock = some g → w'.heap[g]? = w.heap[g]?) : RowsC w' base v l:=by
 refine ⟨h.1,h.2.imp id ?_⟩
 rintro ⟨g,cap,cur,e,hg,hh,r⟩
 exact ⟨g,cap,cur,e,hg,(hk g (by rw [e];rfl)).trans hh,r⟩
theorem flatC_len : ∀ (t : List Cl),(t.flatMap encC).length = t.length * 9
 | [] => rfl
 | y :: r => by rw [List.flatMap_cons,List.length_append,flatC_len r,List.length_cons];show 9 + _ = _;omega
theorem rowCs_new (W : World) (ys : List Cl) (arr : Array Value) (harr : arr = (ys.flatMap encC).toArray) : ∀ j u,(ys.flatMap encC)[j]? = some u → (W.alloc (.cells arr 50)).cell? ((⟨W.heap.size,0,none⟩ : Addr).add j) = some u:=by
 intro j u h
 subst harr
 rw [Addr.add_lit]
 have h2 : (W.alloc (.cells (ys.flatMap encC).toArray 50)).heap[W.heap.size]? = some (.cells (ys.flatMap encC).toArray 50):=heap_alloc_last W _
 simp only [World.cell?,h2,Nat.zero_add]
 simp [h]
theorem append_callG {ops : Array Oper} {rest : List Oper} {o : Oper} {a : Act} {Q : Exit → Act → World → Prop} (Z : World) (H : Nat) (ys : List Cl) (m : Nat) (hm : m = ys.length) (h0 : 0 < m) (h8 : m ≤ 100) (hgd : o.guard = none) (s x : Operand)
  (ho : o.op = .call { callee:=.builtin .append,args:=#[s,x],argTypes:=#[27,27] }) (base : Nat) (v : Value) (l : List Cl) (hs : a.eval s = v) (hrow2 : RowsC Z base v l) (hlen : l.length ≤ 20000) (hbase : base ≤ Z.heap.size)
  (hx : a.eval x = .slice (some ⟨H,0,none⟩) m m)
  (hnew : ∀ j u,(ys.flatMap encC)[j]? = some u → Z.cell? ((⟨H,0,none⟩ : Addr).add j) = some u)
  (h : ∀ v' w',RowsC w' base v' (l ++ ys) → Z.heap.size ≤ w'.heap.size → (∀ b,b < Z.heap.size → v.ownBlock ≠ some b → w'.heap[b]? = Z.heap[b]?) → (∀ g,v'.ownBlock = some g → v.ownBlock = some g ∨ Z.heap.size ≤ g) → Below base Z w' → wpList Tryz.prog ops Q rest (a.put o.dst v') w') :
  wpList Tryz.prog ops Q (o :: rest) a Z:=by
 obtain ⟨i0,hi,hz0,hz1,hz2⟩:=infoC
 have hB0 : Below base Z Z:=Below.refl base Z
 have hcl : (ys.flatMap encC).length = m * 9:=by rw [hm];exact flatC_len ys
 obtain ⟨hl1,⟨hv,hn0⟩ | ⟨g,cap,cur,hv,hg,hh,hnc,hmx,hcs,ht⟩⟩:=id hrow2
 ·refine wpList_append_grows Z hgd s x 27 ho 50 i0 _ 9 96 Tryz.underlying27 hi hz0 hz1 hz2 rfl (by decide) none 0 0 [] (by rw [hs,hv]) (fun _ => ⟨rfl,rfl⟩) rfl nofun ⟨H,0,none⟩ m m (ys.flatMap encC) hx hcl hnew (fun u hu => flatC_one (t:=ys) hu) (by omega) (by unfold maxLen;omega) (by omega) ?_
  intro v' w' hown hgrow
  have hl : l = []:=List.eq_nil_of_length_eq_zero hn0
  subst hl
  have hR : RowsC w' Z.heap.size v' ys:=by rw [Nat.zero_add,hm] at hown;exact hown
  refine h v' w' ⟨hR.1,hR.2.imp id (fun ⟨g,c,cu,e,h1,r⟩ => ⟨g,c,cu,e,by omega,r⟩)⟩ (by have:=hgrow.size;omega) (fun b hb hne => (hgrow.block b (by omega) (by simp))) (fun g hg => .inr (by have:=(hR.own hg).1;omega)) (hB0.grown hgrow (by omega) (fun k hk => by simp at hk))
 ·rcases Nat.lt_or_ge cap (l.length + m) with hfull | hroom
  ·refine wpList_append_grows Z hgd s x 27 ho 50 i0 _ 9 96 Tryz.underlying27 hi hz0 hz1 hz2 rfl (by decide) (some ⟨g,0,none⟩) l.length cap (l.flatMap encC) (by rw [hs,hv]) nofun hl1 (fun b hb => by cases hb;exact World.ownsRow.cells hrow2 (by rw [hv];rfl)) ⟨H,0,none⟩ m m (ys.flatMap encC) hx hcl hnew (fun u hu => flatC_one (t:=ys) hu) hfull (by unfold maxLen;omega) (by omega) ?_
   intro v' w' hown hgrow
   have hR : RowsC w' Z.heap.size v' (l ++ ys):=by rw [hm] at hown;simpa [RowsC] using hown
   refine h v' w' ⟨hR.1,hR.2.imp id (fun ⟨g,c,cu,e,h1,r⟩ => ⟨g,c,cu,e,by omega,r⟩)⟩ (by have:=hgrow.size;omega) (fun b hb hne => (hgrow.block b (by omega) (by simp))) (fun g hg => .inr (by have:=(hR.own hg).1;omega)) (hB0.grown hgrow (by omega) (fun k hk => by simp at hk))
  ·refine wpList_plain hgd fun K hK => ?_
   obtain ⟨v',w',hr,h2,h3,_⟩:=run_append_own (P:=Tryz.prog) Z base 27 o.type 50 i0 _ 9 96 Tryz.underlying27 hi hz0 hz1 hz2 rfl (by decide) v l.length (l.flatMap encC) hrow2 ⟨H,0,none⟩ m m (ys.flatMap encC) hcl hnew (fun u hu => flatC_one (t:=ys) hu) (by unfold maxLen;omega) (by omega) (by omega)
   have hr2:=run_append_room_cells (P:=Tryz.prog) Z 27 o.type 50 i0 Tryz.underlying27 hi g 0 l.length cap ⟨H,0,none⟩ m m (ys.flatMap encC) (by rw [hz1];exact hcl) hnew (fun u hu => flatC_one (t:=ys) hu) hroom (fun j hj => by
    have hj : j < m * 9:=by rw [hcl] at hj;exact hj
    rw [hz1]
    have : l.length * 9 + j < cur.size:=by omega
    rw [Nat.zero_add]
    simp [World.cell?,hh,this]) (fun j hj => by simp [World.frozen?,hh])
   rw [← hv] at hr2
   have hev : v' = .slice (some ⟨g,0,none⟩) (l.length + m) cap:=by
    rw [hr] at hr2
    injection hr2
   have hR : RowsC w' base v' (l ++ ys):=by rw [hm] at h2;simpa [RowsC] using h2
   unfold Oper.wp execOp
   simp only [ho,resolve,invoke,builtin,Sem.run_bind,Sem.run_pure,Result.andThen_ok,List.map_toArray,List.map_cons,List.map_nil,hs,hx,hr]
   refine hK _ _ (h v' w' hR (by have:=h3.size;omega) (fun b hb hne => (h3.block b (by omega) (fun e => hne e.symm))) (fun g' hg' => .inl ?_) (hB0.grown h3 (by omega) (fun k hk => (World.ownsRow.lt hrow2 k hk).1)))
   rw [hev] at hg'
   rw [hv,← hg']
   rfl
theorem append_calls {ops : Array Oper} {rest : List Oper} {o : Oper} {a : Act} {Q : Exit → Act → World → Prop} (X : World) (ys : List Cl) (m : Nat) (hm : m = ys.length) (h0 : 0 < m) (h8 : m ≤ 100) (arr : Array Value) (harr : arr = (ys.flatMap encC).toArray) (hgd : o.guard = none) (s x : Operand)
  (ho : o.op = .call { callee:=.builtin .append,args:=#[s,x],argTypes:=#[27,27] }) (base : Nat) (v : Value) (l : List Cl) (hs : a.eval s = v) (hrow : RowsC X base v l) (hlen : l.length ≤ 20000) (hbase : base ≤ X.heap.size)
  (hx : a.eval x = .slice (some ⟨X.heap.size,0,none⟩) m m)
  (h : ∀ v' w',RowsC w' base v' (l ++ ys) → X.heap.size ≤ w'.heap.size → (∀ b,b < X.heap.size → v.ownBlock ≠ some b → w'.heap[b]? = X.heap[b]?) → (∀ g,v'.ownBlock = some g → v.ownBlock = some g ∨ X.heap.size ≤ g) → Below base X w' → wpList Tryz.prog ops Q rest (a.put o.dst v') w') :
  wpList Tryz.prog ops Q (o :: rest) a (X.alloc (.cells arr 50)):=by
 subst harr
 exact append_callG _ X.heap.size ys m hm h0 h8 hgd s x ho base v l hs (World.ownsRow.alloc hrow _) hlen (by simp;omega) hx (rowCs_new X ys _ rfl) fun v' w' h1 h2 h3 h4 h5 => h v' w' h1 (by simp at h2;omega) (fun b hb hne => (h3 b (by simp;omega) hne).trans (((Grown.refl X).alloc _).below.block b hb)) (fun g hg => (h4 g hg).imp id (fun e => by simp at e;omega)) (((Below.refl base X).alloc hbase _).trans h5)
theorem append_call {ops : Array Oper} {rest : List Oper} {o : Oper} {a : Act} {Q : Exit → Act → World → Prop} (X : World) (y : Cl) (hgd : o.guard = none) (s x : Operand)
  (ho : o.op = .call { callee:=.builtin .append,args:=#[s,x],argTypes:=#[27,27] }) (base : Nat) (v : Value) (l : List Cl) (hs : a.eval s = v) (hrow : RowsC X base v l) (hlen : l.length ≤ 20000) (hbase : base ≤ X.heap.size)
  (hx : a.eval x = .slice (some ⟨X.heap.size,0,none⟩) 1 1)
  (h : ∀ v' w',RowsC w' base v' (l ++ [y]) → X.heap.size ≤ w'.heap.size → (∀ b,b < X.heap.size → v.ownBlock ≠ some b → w'.heap[b]? = X.heap[b]?) → (∀ g,v'.ownBlock = some g → v.ownBlock = some g ∨ X.heap.size ≤ g) → Below base X w' → wpList Tryz.prog ops Q rest (a.put o.dst v') w') :
  wpList Tryz.prog ops Q (o :: rest) a (X.alloc (.cells #[.int .i64 y.kind,.int .i64 y.owner,.int .i64 y.fd,.int .i64 y.n,.int .i64 y.m,.string y.path,.string y.to,.string y.text,.bool y.alone] 50)) :=
 append_calls X [y] 1 rfl (by decide) (by decide) _ (by simp [encC]) hgd s x ho base v l hs hrow hlen hbase hx h
theorem rowC_lies {W : World} {base : Nat} {v : Value} {l : List Cl} (h : RowsC W base v l) (hl : l ≠ []) : ∃ b c,v = .slice (some ⟨b,0,none⟩) l.length c ∧ LiesC W (some ⟨b,0,none⟩) l:=by
 obtain ⟨hl1,⟨hv,hn0⟩ | ⟨g,cap,cur,hv,hg,hh,hnc,hmx,hcs,ht⟩⟩:=h
 ·exact absurd (List.eq_nil_of_length_eq_zero hn0) hl
 ·refine ⟨g,cap,hv,.inr ⟨g,0,rfl,(Array.getElem?_eq_some_iff.1 hh).1,fun i c hc j u hu => ?_⟩⟩
  have h1:=encC_at hc hu
  rw [← ht] at h1
  simp only [World.cell?,hh]
  have h2 : cur.toList[i * 9 + j]? = some u:=by
   rw [List.getElem?_take] at h1
   split at h1
   ·exact h1
   ·cases h1
  simp only [Nat.zero_add]
  simpa using h2
namespace PM
theorem on_err (s : Sy) (ow k : Nat) (ck cn cm : Int) (cx : ByteArray) (ca : Bool) (j : Nat) (op : Opn) (f : Fl) : (s.onR ow k ck cn cm cx ca j op f).2.2.err = 0:=by
 unfold Sy.onR
 repeat' split
 all_goals rfl
theorem num_err (s : Sy) (ow : Nat) (ck cf cn cm : Int) (cx : ByteArray) (ca : Bool) : (s.numR ow ck cf cn cm cx ca).2.2.err = 0:=by
 unfold Sy.numR
 split
 ·rfl
 ·split
  ·rfl
  ·split
   ·rfl
   ·split
    ·rfl
    ·exact on_err _ _ _ _ _ _ _ _ _ _ _
theorem step_err (s : Sy) (c : Cl) : (s.stepR c).2.2.err = 0:=by
 unfold Sy.stepR
 repeat' split
 all_goals first | rfl | exact num_err _ _ _ _ _ _ _ _
theorem refused_same (s : Sy) (c : Cl) (h : ¬ (s.answer c).2.err = 0) : (s.answer c).1 = s:=by
 unfold Sy.answer at h ⊢
 split
 ·rename_i h0
  rw [if_pos h0] at h
  exact absurd (step_err s c) h
 ·rfl
theorem asked_same (s : Sy) (c : Cl) (h : c.kind = 11 ∨ c.kind = 12) : (s.answer c).1 = s:=by
 have hs : (s.stepR c).2.1 = s:=by
  unfold Sy.stepR
  repeat' split
  all_goals first | rfl | (exfalso;omega)
 unfold Sy.answer
 split
 ·exact hs
 ·rfl
theorem run_less (p : Cl × An → Bool) (hp : ∀ (s : Sy) (c : Cl),p (c,(s.answer c).2) = false → (s.answer c).1 = s) : ∀ (l : List Cl) (s : Sy),s.run (((l.zip (s.run l).2).filter p).map (·.1)) = ((s.run l).1,((l.zip (s.run l).2).filter p).map (·.2))
 | [],s => rfl
 | c :: l,s => by
  have ih:=run_less p hp l (s.answer c).1
  rw [Sy.run]
  simp only [List.zip_cons_cons]
  cases h : p (c,(s.answer c).2) with
  | true =>
   rw [List.filter_cons_of_pos (by simpa using h),List.map_cons,List.map_cons,Sy.run]
   simp only
   rw [ih]
  | false =>
   rw [List.filter_cons_of_neg (by simp [h])]
   have:=hp s c h
   rw [this] at ih ⊢
   exact ih
end PM
end Go.Proofs.YthfeoiffoeagkaaGreatDoor
