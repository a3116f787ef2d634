/-
  (*sys.system).fileAt again, and a new opening: what they leave.
-/
import Derived.Test.YthfeoiffoeagkaaGreatDoorQA39
namespace Go.Proofs.YthfeoiffoeagkaaGreatDoor
open Go.RowKit PM Go.Sort
set_option linter.unusedVariables false
def AtPost2 (base S : Nat) (s s' : Sy) (i : Nat) (L : Lay6) (W : World) (r : Ending) (W' : World) : Prop:=∃ L' : Lay6,r = .returned (.pointer (some ⟨L'.fb i,0,none⟩)) ∧ SysAt base W' S s' L' ∧ L'.ob = L.ob ∧ L'.ex = L.ex ∧ Below W.heap.size W W' ∧ (∀ x,x < s.files.length → L'.fb x = L.fb x) ∧ (∀ x,s.files.length ≤ x → x < s'.files.length → W.heap.size ≤ L'.fb x) ∧ i < s'.files.length ∧ s'.opens = s.opens
set_option maxHeartbeats 1000000 in
theorem fileAt2_any {base : Nat} {W : World} {S : Nat} {s : Sy} {L : Lay6} (h : SysAt base W S s L) (q : ByteArray) :
  Calls Tryz.prog 125 #[.pointer (some ⟨S,0,none⟩),.string q] W (AtPost2 base S s (s.fileAt q).1 (s.fileAt q).2 L W):=by
 have hfl:=files_any h
 have HS : Aside (SysAt base W S s L):=h
 have hn32 : s.reach.length ≤ 32:=reach_len s 32
 obtain ⟨n,hn⟩ : ∃ n,n = s.reach.length:=⟨_,rfl⟩
 have HN : Aside (n = s.reach.length):=hn
 rw [← hn] at hn32
 clear h hn
 go_enter Tryz.func125,Tryz.ntmps125
 go_wp2_with (go_at_call 41;refine hfl.mono ?_;clear hfl;rintro e w1 ⟨⟨v,rfl,hP⟩,hB⟩;obtain ⟨p,c,rfl,hLP,_⟩:=hP.form;have HLP : Aside (LiesP w1 p (bsTo s L 32) ∧ Below W.heap.size W w1):=⟨hLP,hB⟩;rw [show (bsTo s L 32).length = n from by rw [HN.out];simp [bsTo,Sy.reach]];clear hP hLP hB)
 go_loopg [10] n (fun gg s10 wr => ∃ k : Nat,k ≤ n ∧ n - k ≤ gg ∧ s10 = .int .i64 k ∧ Aside (wr = w1) ∧ Aside (∀ y ∈ s.reach.take k,decide ((s.pathOf y).data.toList = q.data.toList) = false))
 case atStart => exact ⟨0,Nat.zero_le _,by omega,rfl,rfl,fun y hy => by simp at hy⟩
 case round =>
  obtain ⟨k,hk,hgg,rfl,HW,HA⟩:=hrel
  rw [HW.out]
  by_cases hlt : k < n
  ·have hltz : (k : Int) < (n : Int):=by omega
   obtain ⟨i,hi⟩ : ∃ i,s.reach[k]? = some i:=⟨_,List.getElem?_eq_getElem (by have:=HN.out;omega)⟩
   have hil:=HS.out.reach_ok 32 i (List.mem_of_getElem? hi)
   obtain ⟨f,hf⟩ : ∃ f,s.files[i]? = some f:=⟨_,List.getElem?_eq_getElem hil⟩
   have hbk : (bsTo s L 32)[k]? = some (L.fb i):=by show (s.reach.map L.fb)[k]? = _;rw [List.getElem?_map,hi];rfl
   rcases HLP.out.1 with h0 | ⟨b,off,rfl,hb,hc⟩
   ·rw [h0] at hbk;simp at hbk
   have c0 : w1.cell? ⟨b,off + k,none⟩ = some (.pointer (some ⟨L.fb i,0,none⟩)):=hc k _ hbk
   have c1 : w1.cell? ⟨L.fb i,0,none⟩ = some (.string f.path):=((HS.out.kept HLP.out.2).fcells hf).1.1
   have hpo : s.pathOf i = f.path:=by simp [Sy.pathOf,hf]
   have HI : Aside (s.reach[k]? = some i):=hi
   clear hc hbk hi
   by_cases heq : f.path.data.toList = q.data.toList
   ·have HF : Aside (s.fileAt q = (s,i)):=by show _ = _;rw [Sy.fileAt,Sy.openAt,find_at HI.out (by simp [hpo,heq]) HA.out]
    have q1 : (f.path.toList == q.toList) = true:=by rw [Lib.toList_data,Lib.toList_data,heq];simp
    clear hpo heq hf
    go_wp2
    go_ret
    rw [HF.out]
    exact ⟨L,rfl,HS.out.kept HLP.out.2,rfl,rfl,HLP.out.2,fun _ _ => rfl,fun x h1 h2 => absurd h2 (Nat.not_lt.2 h1),hil,rfl⟩
   ·have q1 : (f.path.toList == q.toList) = false:=by rw [Lib.toList_data,Lib.toList_data];simpa using heq
    have HZ : Aside (∀ y ∈ s.reach.take (k + 1),decide ((s.pathOf y).data.toList = q.data.toList) = false):=by
     show ∀ y ∈ s.reach.take (k + 1),decide ((s.pathOf y).data.toList = q.data.toList) = false
     intro z hz
     rw [List.take_add_one] at hz
     rcases List.mem_append.1 hz with hz | hz
     ·exact HA.out z hz
     ·rw [HI.out] at hz
      simp at hz
      rw [hz,hpo]
      simpa using heq
    clear hpo heq hf
    go_wp2
    go_roundg (n - (k + 1))
    case measure => omega
    case rel => exact ⟨k + 1,by omega,by omega,by go_num,rfl,HZ.out⟩
  ·have hltz : ¬ (k : Int) < (n : Int):=by omega
   have HF : Aside (s.fileAt q = (s.addFl ⟨q,⟨#[]⟩,[]⟩,s.files.length)):=by show _ = _;rw [Sy.fileAt,Sy.openAt,find_not (k:=k) (by have:=HN.out;omega) HA.out]
   go_wp2
   go_ret
   rw [HF.out]
   obtain ⟨L',h1,h2,h3,h4,_,_,_,_,h5⟩:=(HS.out.kept HLP.out.2).newFile q ⟨#[]⟩
   exact ⟨L',by show _ = Ending.returned (.pointer (some ⟨L'.fb s.files.length,0,none⟩));rw [h4];rfl,h1,h2,h5,HLP.out.2.alloc HLP.out.2.size _,h3,fun x hx1 hx2 => by (have hx2 : x < s.files.length + 1:=by simpa [Sy.addFl] using hx2);rw [show x = s.files.length by omega,h4];exact HLP.out.2.size,by simp [Sy.addFl],rfl⟩
section
variable {base : Nat} {W X : World} {S : Nat} {s : Sy} {L : Lay6}
theorem SysAt.newOpen2 (h : SysAt base W S s L) (i : Nat) (hi : i < s.files.length) (use : Int) : ∃ L' : Lay6,SysAt base (W.alloc (.cells #[.pointer (some ⟨L.fb i,0,none⟩),.int .i64 use,.int .i64 0] 116)) S (s.addOp ⟨i,use,0⟩) L' ∧ L'.fb = L.fb ∧ L'.ob s.opens.length = W.heap.size ∧ L'.ex = L.ex ∧ ∀ j,j < s.opens.length → L'.ob j = L.ob j:=by
 have hB : Below W.heap.size W (W.alloc (.cells #[.pointer (some ⟨L.fb i,0,none⟩),.int .i64 use,.int .i64 0] 116)):=((Grown.refl W).alloc _).below
 have hk:=h.kept hB
 have hnew : (W.alloc (.cells #[.pointer (some ⟨L.fb i,0,none⟩),.int .i64 use,.int .i64 0] 116)).heap[W.heap.size]? = some (.cells #[.pointer (some ⟨L.fb i,0,none⟩),.int .i64 use,.int .i64 0] 116):=heap_alloc_last W _
 have hob : ∀ i,i < s.opens.length → (if i = s.opens.length then W.heap.size else L.ob i) = L.ob i:=fun i hi => if_neg (by omega)
 refine ⟨{ L with ob:=fun i => if i = s.opens.length then W.heap.size else L.ob i },⟨?_,fun j o ho => ?_,hk.fil,fun a b ha hb e => ?_,h.injF,?_,h.up,h.low,h.scap,h.snil,fun k j hj => ?_,fun o ho => ?_,hk.exb,⟨h.base.1,fun j hj => ?_,h.base.2.2⟩⟩,rfl,if_pos rfl,rfl,hob⟩
 ·obtain ⟨arr,ha,hs,a0,a1,a2,af⟩:=hk.blk
  refine ⟨arr,ha,hs,a0,a1,a2,fun k hk' => ?_⟩
  rw [af k hk']
  show _ = some (Value.pointer ((s.fds k).map fun j => ⟨if j = s.opens.length then W.heap.size else L.ob j,0,none⟩))
  cases hf : s.fds k with
  | none => rfl
  | some j =>
   show some (Value.pointer (some ⟨L.ob j,0,none⟩)) = some (Value.pointer (some ⟨if j = s.opens.length then W.heap.size else L.ob j,0,none⟩))
   rw [hob j (h.val1 k j hf)]
 ·show (W.alloc _).heap[if j = s.opens.length then W.heap.size else L.ob j]? = _
  rcases get_snoc ho with ⟨rfl,rfl⟩ | ⟨hj,ho⟩
  ·rw [if_pos rfl];exact hnew
  ·rw [hob j hj];exact hk.opn j o ho
 ·have e : (if a = s.opens.length then W.heap.size else L.ob a) = (if b = s.opens.length then W.heap.size else L.ob b):=e
  have ha : a < s.opens.length + 1:=by simpa [Sy.addOp] using ha
  have hb : b < s.opens.length + 1:=by simpa [Sy.addOp] using hb
  by_cases ea : a = s.opens.length
  ·by_cases eb : b = s.opens.length
   ·omega
   ·rw [if_pos ea,if_neg eb] at e;have:=h.olt (j:=b) (by omega);omega
  ·by_cases eb : b = s.opens.length
   ·rw [if_neg ea,if_pos eb] at e;have:=h.olt (j:=a) (by omega);omega
   ·rw [if_neg ea,if_neg eb] at e;exact h.injO a b (by omega) (by omega) e
 ·intro Y hY
  have hZ : Keep (Sp S s L) W Y:=⟨Nat.le_trans (by simp) hY.size,fun b hb hn => (hY.block b (by simp;omega) (fun hs => hn (by
   rcases hs with (rfl | hx) | ⟨j,hj,rfl⟩ | ⟨i,hi,rfl⟩
   ·exact .inl (.inl rfl)
   ·exact .inl (.inr hx)
   ·have hj : j < s.opens.length + 1:=by simpa [Sy.addOp] using hj
    have hb : (if j = s.opens.length then W.heap.size else L.ob j) < W.heap.size:=hb
    by_cases ej : j = s.opens.length
    ·rw [if_pos ej] at hb;omega
    ·exact .inr (.inl ⟨j,by omega,if_neg ej⟩)
   ·exact .inr (.inr ⟨i,hi,rfl⟩)))).trans (hB.block b hb)⟩
  have hd:=h.data Y hZ
  exact ⟨hd.un,hd.seen,hd.locks⟩
 ·have:=h.val1 k j hj
  simp [Sy.addOp];omega
 ·rcases List.mem_append.1 ho with ho | ho
  ·exact h.val2 o ho
  ·simp at ho;rw [ho];exact hi
 ·show base ≤ (if j = s.opens.length then W.heap.size else L.ob j)
  have hj : j < s.opens.length + 1:=by simpa [Sy.addOp] using hj
  by_cases ej : j = s.opens.length
  ·rw [if_pos ej];exact Nat.le_trans h.base.1 (Nat.le_of_lt h.lt)
  ·rw [if_neg ej];exact h.base.2.1 j (by omega)
end
theorem alloc_setCell (w : World) (o : Obj) (p : Addr) (v : Value) (h : p.block < w.heap.size) : (w.alloc o).setCell p v = (w.setCell p v).alloc o:=by
 have hm : ∀ f : Obj → Obj,(w.heap.push o).modify p.block f = (w.heap.modify p.block f).push o:=by
  intro f
  apply Array.ext_getElem?
  intro i
  rw [Array.getElem?_modify,Array.getElem?_push,Array.getElem?_push,Array.getElem?_modify,Array.size_modify]
  by_cases h1 : p.block = i
  ·subst h1
   have h2 : ¬ p.block = w.heap.size:=by omega
   simp [h2]
  ·simp [h1]
 unfold World.setCell World.alloc
 simp only [hm]
namespace PM
def Sy.opened (s : Sy) (q : ByteArray) (use : Int) (n : Nat) : Sy:=((s.fileAt q).1.addOp ⟨(s.fileAt q).2,use,0⟩).setFd n (some (s.fileAt q).1.opens.length)
end PM
theorem open_mid {base : Nat} {X X1 X2 w5 : World} {S : Nat} {s s1 : Sy} {L L1 L2 L5 : Lay6} {q : ByteArray} {use : Int} {o k : Nat} (h : SysAt base X S s L) (hB1 : Below X.heap.size X X1) (hx1 : L1.ex = fun b => b = X.heap.size ∨ L.ex b) (ho1 : L1.ob = L.ob) (hf1 : L1.fb = L.fb) (ho2 : L2.ob = L1.ob) (hf2 : L2.fb = L1.fb) (hx2 : L2.ex = L1.ex) (hb2 : Below base X1 X2) (hk2 : Keep (· = S) X1 X2) (hn : SameN s s1) (h5 : SysAt base w5 S (s1.fileAt q).1 L5) (ho5 : L5.ob = L2.ob) (hx5 : L5.ex = L2.ex) (hB5 : Below X2.heap.size X2 w5) (hf5 : ∀ x,x < s1.files.length → L5.fb x = L2.fb x) (hg5 : ∀ x,s1.files.length ≤ x → x < (s1.fileAt q).1.files.length → X2.heap.size ≤ L5.fb x) (hi5 : (s1.fileAt q).2 < (s1.fileAt q).1.files.length) (hop : (s1.fileAt q).1.opens = s1.opens) (ho4 : o < 4) (hk8 : k < 8) (hbk : w5.heap[X.heap.size]? = some (.cells #[.int .i64 0,.int .i64 0,.string ⟨#[]⟩,.slice none 0 0] 38)) (Z : World) (hZ : Z = (w5.setCell ⟨S,3 + o * 8 + k,none⟩ (.pointer (some ⟨w5.heap.size,0,none⟩))).alloc (.cells #[.pointer (some ⟨L5.fb (s1.fileAt q).2,0,none⟩),.int .i64 use,.int .i64 0] 116)) :
  ∃ L6,SysAt base Z S (s1.opened q use (o * 8 + k)) L6 ∧ (∀ b,L6.ex b ↔ b = X.heap.size ∨ L.ex b) ∧ Below base X Z ∧ Keep (Mine S s L) X Z ∧ Z.heap[X.heap.size]? = some (.cells #[.int .i64 0,.int .i64 0,.string ⟨#[]⟩,.slice none 0 0] 38) ∧ ∀ b,Sp S (s1.opened q use (o * 8 + k)) L6 b → Sp S s L b ∨ X.heap.size ≤ b:=by
 obtain ⟨L6,h6,e1,e2,e3,e4⟩:=h5.newOpen2 (s1.fileAt q).2 hi5 use
 have h7:=h6.number (k:=o * 8 + k) (by omega) (some (s1.fileAt q).1.opens.length) (fun x hx => by cases hx;simp [Sy.addOp]) (.pointer (some ⟨w5.heap.size,0,none⟩)) (by rw [← e2];rfl)
 rw [← Nat.add_assoc,alloc_setCell _ _ _ _ (by exact h5.lt),← hZ] at h7
 have hbX : base ≤ X.heap.size:=Nat.le_trans h.base.1 (Nat.le_of_lt h.lt)
 have hs1:=hB1.size
 have hs2:=hk2.size
 have hs5:=hB5.size
 have hb5 : Below base X w5:=((hB1.mono hbX).trans hb2).trans (hB5.mono (by omega))
 have hbs : base ≤ S:=h.base.1
 have hbZ : Below base X Z:=by
  rw [hZ]
  have h1:=hb5.setCell (p:=⟨S,3 + o * 8 + k,none⟩) hbs (.pointer (some ⟨w5.heap.size,0,none⟩))
  exact h1.alloc (Nat.le_trans hbX h1.size) _
 have hkZ : Keep (Mine S s L) X Z:=by
  have h1 : Keep (Mine S s L) X w5:=(Keep.mine hB1 hk2 (fun b hb => .inl hb)).trans (Keep.of_below _ hB5)
  rw [hZ]
  exact (h1.trans (Keep.set (.inl rfl) _ _ _)).trans (Keep.of_below _ ((Grown.refl _).alloc _).below)
 refine ⟨L6,h7,fun b => by rw [e3,hx5,hx2,hx1],hbZ,hkZ,?_,fun b hb => ?_⟩
 ·rw [hZ]
  have hlt : X.heap.size < w5.heap.size:=(Array.getElem?_eq_some_iff.1 hbk).1
  refine (((Grown.refl _).alloc _).below.block _ (by simp [World.setCell];exact hlt)).trans ((Below.heap_setCell _ _ _ _ (fun e => ?_)).trans hbk)
  have e : X.heap.size = S:=e
  have:=h.lt;omega
 ·rcases hb with (e | hx) | ⟨j,hj,e⟩ | ⟨i,hi,e⟩
  ·exact .inl (.inl (.inl e))
  ·rw [e3,hx5,hx2,hx1] at hx
   rcases hx with e | hx
   ·exact .inr (Nat.le_of_eq e.symm)
   ·exact .inl (.inl (.inr hx))
  ·have hj : j < (s1.fileAt q).1.opens.length + 1:=by simpa [Sy.opened,Sy.setFd,Sy.addOp] using hj
   rcases Nat.lt_or_ge j (s1.fileAt q).1.opens.length with hj | hj'
   ·rw [e4 j hj,ho5,ho2,ho1] at e
    rw [hop,hn.1] at hj
    exact .inl (.inr (.inl ⟨j,hj,e⟩))
   ·rw [show j = (s1.fileAt q).1.opens.length by omega,e2] at e
    right;omega
  ·have hi : i < (s1.fileAt q).1.files.length:=by simpa [Sy.opened,Sy.setFd,Sy.addOp] using hi
   rw [e1] at e
   rcases Nat.lt_or_ge i s1.files.length with hi' | hi'
   ·rw [hf5 i hi',hf2,hf1] at e
    rw [hn.2] at hi'
    exact .inl (.inr (.inr ⟨i,hi',e⟩))
   ·have:=hg5 i hi' hi
    right;omega
set_option maxRecDepth 100000 in
set_option maxHeartbeats 2000000 in
theorem openDo {base : Nat} {X : World} {S : Nat} {s : Sy} {L : Lay6} (h : SysAt base X S s L) (hg : Gl base X) (B0 B1 B2 B3 B4 B5 o k : Nat) (ho4 : o < 4) (hk8 : k < 8) (q : ByteArray) (use : Int) (hB0 : X.cell? ⟨B0,0,none⟩ = some (.pointer (some ⟨S,0,none⟩))) (hNB0 : ¬ Sp S s L B0) (hB2 : X.cell? ⟨B2,0,none⟩ = some (.string q)) (hNB2 : ¬ Sp S s L B2) (hB3 : X.cell? ⟨B3,3,none⟩ = some (.int .i64 use)) (hNB3 : ¬ Sp S s L B3) (hB4 : X.cell? ⟨B4,0,none⟩ = some (.pointer (some ⟨S,3 + o * 8,none⟩))) (hNB4 : ¬ Sp S s L B4) (hB5 : X.cell? ⟨B5,0,none⟩ = some (.int .i64 k)) (hNB5 : ¬ Sp S s L B5) (y : Lay) (lo : List Lay) (pl : Option Addr) (cl : Nat) (hb1 : UnBox X B1 y lo pl cl) (hU : St (Sp S s L) X (fun X => UnOK X y lo pl cl)) (h0 : (wrongU (y.es :: lo.map (·.es))).1 = 0) :
  Calls Tryz.prog 123 #[.pointer (some ⟨B0,0,none⟩),.pointer (some ⟨B1,0,none⟩),.pointer (some ⟨B2,0,none⟩),.pointer (some ⟨B3,0,none⟩),.pointer (some ⟨B4,0,none⟩),.pointer (some ⟨B5,0,none⟩)] X (DoPost base S s L ((s.withU y.es (lo.map (·.es))).opened q use (o * 8 + k)) (ans k ⟨#[]⟩) X):=by
 obtain ⟨c0,c1⟩:=hb1
 obtain ⟨L1,hL1⟩ : ∃ L1 : Lay6,L1 = { L with ex:=fun b => b = X.heap.size ∨ L.ex b }:=⟨_,rfl⟩
 obtain ⟨X1,hX1⟩ : ∃ X1,X.alloc (.cells #[.int .i64 0,.int .i64 0,.string ⟨#[]⟩,.slice none 0 0] 38) = X1:=⟨_,rfl⟩
 have hB1 : Below X.heap.size X X1:=by rw [← hX1];exact ((Grown.refl X).alloc _).below
 have h1:=h.aside (.cells #[.int .i64 0,.int .i64 0,.string ⟨#[]⟩,.slice none 0 0] 38)
 have hU1:=St.aside hU (.cells #[.int .i64 0,.int .i64 0,.string ⟨#[]⟩,.slice none 0 0] 38)
 rw [hX1,← hL1] at h1 hU1
 have hbb : Below base X X1:=hB1.mono (Nat.le_trans h.base.1 (Nat.le_of_lt h.lt))
 have hst:=settle_any h1 (hg.kept hbb) y lo pl cl hU1 h0
 have hbk1 : X1.heap[X.heap.size]? = some (.cells #[.int .i64 0,.int .i64 0,.string ⟨#[]⟩,.slice none 0 0] 38):=by rw [← hX1];exact heap_alloc_last X _
 have HA : Aside (SysAt base X S s L ∧ Below X.heap.size X X1 ∧ X1.heap[X.heap.size]? = some (.cells #[.int .i64 0,.int .i64 0,.string ⟨#[]⟩,.slice none 0 0] 38) ∧ (L1.ex = fun b => b = X.heap.size ∨ L.ex b) ∧ L1.ob = L.ob ∧ L1.fb = L.fb):=⟨h,hB1,hbk1,by rw [hL1],by rw [hL1],by rw [hL1]⟩
 have HK : Aside (∀ X2,Keep (· = S) X1 X2 → X2.cell? ⟨B0,0,none⟩ = some (.pointer (some ⟨S,0,none⟩)) ∧ X2.cell? ⟨B2,0,none⟩ = some (.string q) ∧ X2.cell? ⟨B3,3,none⟩ = some (.int .i64 use) ∧ X2.cell? ⟨B4,0,none⟩ = some (.pointer (some ⟨S,3 + o * 8,none⟩)) ∧ X2.cell? ⟨B5,0,none⟩ = some (.int .i64 k)):=by
  show ∀ X2,_
  intro X2 hk
  have go : ∀ B i v,X.cell? ⟨B,i,none⟩ = some v → ¬ Sp S s L B → X2.cell? ⟨B,i,none⟩ = some v:=fun B i v hv hn => by
   have hl:=block_lt_of_cell hv
   simp only at hl
   exact (cell_eq ((hk.block B (Nat.lt_of_lt_of_le hl hB1.size) (fun e => hn (.inl (.inl e)))).trans (hB1.block B hl)) i).trans hv
  exact ⟨go _ _ _ hB0 hNB0,go _ _ _ hB2 hNB2,go _ _ _ hB3 hNB3,go _ _ _ hB4 hNB4,go _ _ _ hB5 hNB5⟩
 have aB0:=Lib.cell?_alloc_some (.cells #[.int .i64 0,.int .i64 0,.string ⟨#[]⟩,.slice none 0 0] 38) hB0
 have nB0 : ¬ S = B0:=fun e => hNB0 (.inl (.inl e.symm))
 have lB0:=block_lt_of_cell hB0
 simp only at lB0
 have aB2:=Lib.cell?_alloc_some (.cells #[.int .i64 0,.int .i64 0,.string ⟨#[]⟩,.slice none 0 0] 38) hB2
 have nB2 : ¬ S = B2:=fun e => hNB2 (.inl (.inl e.symm))
 have lB2:=block_lt_of_cell hB2
 simp only at lB2
 have aB3:=Lib.cell?_alloc_some (.cells #[.int .i64 0,.int .i64 0,.string ⟨#[]⟩,.slice none 0 0] 38) hB3
 have nB3 : ¬ S = B3:=fun e => hNB3 (.inl (.inl e.symm))
 have lB3:=block_lt_of_cell hB3
 simp only at lB3
 have aB4:=Lib.cell?_alloc_some (.cells #[.int .i64 0,.int .i64 0,.string ⟨#[]⟩,.slice none 0 0] 38) hB4
 have nB4 : ¬ S = B4:=fun e => hNB4 (.inl (.inl e.symm))
 have lB4:=block_lt_of_cell hB4
 simp only at lB4
 have aB5:=Lib.cell?_alloc_some (.cells #[.int .i64 0,.int .i64 0,.string ⟨#[]⟩,.slice none 0 0] 38) hB5
 have nB5 : ¬ S = B5:=fun e => hNB5 (.inl (.inl e.symm))
 have lB5:=block_lt_of_cell hB5
 simp only at lB5
 have d0:=Lib.cell?_alloc_some (.cells #[.int .i64 0,.int .i64 0,.string ⟨#[]⟩,.slice none 0 0] 38) c0
 have d1:=Lib.cell?_alloc_some (.cells #[.int .i64 0,.int .i64 0,.string ⟨#[]⟩,.slice none 0 0] 38) c1
 have hkz : (k : Int) < 8:=by omega
 have HE : Aside (X.alloc (.cells #[.int .i64 0,.int .i64 0,.string ⟨#[]⟩,.slice none 0 0] 38) = X1):=hX1
 rw [← hX1] at hst
 have hSX:=h.lt
 clear h hg hU h0 hB1 h1 hU1 hX1 hbk1 hL1 hbb c0 c1 hNB0 hB0 hNB2 hB2 hNB3 hB3 hNB4 hB4 hNB5 hB5
 generalize y.es.length = yn at d0 hst
 generalize lo.length = ln at d1 hst
 obtain ⟨s1,hs1⟩ : ∃ s1,s1 = s.withU y.es (lo.map (·.es)):=⟨_,rfl⟩
 have HS1 : Aside (SameN s s1):=by rw [hs1];exact ⟨rfl,rfl⟩
 rw [← hs1] at hst ⊢
 clear hs1
 go_enter Tryz.func123,Tryz.ntmps123
 go_wp2_with (go_at_call 124;refine hst.mono ?_;clear hst;rintro r X2 ⟨rfl,hS2⟩;rw [HE.out] at hS2;obtain ⟨L2,hA2,ho2,hf2,hx2,hb2,hk2⟩:=hS2;obtain ⟨t0,t2,t3,t4,t5⟩:=HK.out X2 hk2;have hfa:=fileAt2_any hA2 q;have H2 : Aside (SysAt base X2 S s1 L2 ∧ L2.ob = L1.ob ∧ L2.fb = L1.fb ∧ L2.ex = L1.ex ∧ Below base X1 X2 ∧ Keep (· = S) X1 X2):=⟨hA2,ho2,hf2,hx2,hb2,hk2⟩;have l12 : X.heap.size < X2.heap.size:=Nat.lt_of_lt_of_le (Array.getElem?_eq_some_iff.1 HA.out.2.2.1).1 hk2.size;clear hA2 ho2 hf2 hx2 hb2 hk2)
 have c3:=H2.out.1.fd (k:=o * 8 + k) (by omega)
 have c3 : X2.cell? ⟨S,3 + o * 8 + k,none⟩ = some (.pointer ((s1.fds (o * 8 + k)).map fun j => ⟨L2.ob j,0,none⟩)):=by rw [Nat.add_assoc];exact c3
 have f3:=H2.out.1.frz (3 + o * 8 + k)
 have lS2 : S < X2.heap.size:=H2.out.1.lt
 have mB0 : B0 < X2.heap.size:=Nat.lt_trans lB0 l12
 have mB2 : B2 < X2.heap.size:=Nat.lt_trans lB2 l12
 have mB3 : B3 < X2.heap.size:=Nat.lt_trans lB3 l12
 have mB4 : B4 < X2.heap.size:=Nat.lt_trans lB4 l12
 have mB5 : B5 < X2.heap.size:=Nat.lt_trans lB5 l12
 have hfa2 : ∀ Y,Y = X2.drew → Calls Tryz.prog 125 #[.pointer (some ⟨S,0,none⟩),.string q] Y (fun r w' => ∃ fbi,r = .returned (.pointer (some ⟨fbi,0,none⟩)) ∧ Below X2.heap.size X2 w' ∧ Aside (∃ L5 : Lay6,fbi = L5.fb (s1.fileAt q).2 ∧ SysAt base w' S (s1.fileAt q).1 L5 ∧ L5.ob = L2.ob ∧ L5.ex = L2.ex ∧ (∀ x,x < s1.files.length → L5.fb x = L2.fb x) ∧ (∀ x,s1.files.length ≤ x → x < (s1.fileAt q).1.files.length → X2.heap.size ≤ L5.fb x) ∧ (s1.fileAt q).2 < (s1.fileAt q).1.files.length ∧ (s1.fileAt q).1.opens = s1.opens)):=fun Y hY => by
  subst hY
  exact (fileAt2_any (H2.out.1.kept (Below.refl _ _).drew) q).mono fun r w' ⟨L5,e1,e2,e3,e4,e5,e6,e7,e8,e9⟩ => ⟨_,e1,((Below.refl _ _).drew).trans e5,L5,rfl,e2,e3,e4,e6,e7,e8,e9⟩
 clear hfa
 go_region_held3 (fun w' => w'.cell? ⟨B0,0,none⟩ = some (.pointer (some ⟨S,0,none⟩)) ∧ w'.cell? ⟨B2,0,none⟩ = some (.string q) ∧ w'.cell? ⟨B3,3,none⟩ = some (.int .i64 use) ∧ w'.cell? ⟨B4,0,none⟩ = some (.pointer (some ⟨S,3 + o * 8,none⟩)) ∧ w'.cell? ⟨B5,0,none⟩ = some (.int .i64 k)) (go_keep) (first | (go_at_call 125;refine (hfa2 _ rfl).mono ?_;clear hfa2;rintro r w5 ⟨fbi,rfl,hB5,H5⟩;have zB0:=(hB5.cell (p:=⟨B0,0,none⟩) mB0).trans t0;have eB0:=World.new_ne w5 ⟨B0,0,none⟩ zB0;have zB2:=(hB5.cell (p:=⟨B2,0,none⟩) mB2).trans t2;have eB2:=World.new_ne w5 ⟨B2,0,none⟩ zB2;have zB3:=(hB5.cell (p:=⟨B3,3,none⟩) mB3).trans t3;have eB3:=World.new_ne w5 ⟨B3,3,none⟩ zB3;have zB4:=(hB5.cell (p:=⟨B4,0,none⟩) mB4).trans t4;have eB4:=World.new_ne w5 ⟨B4,0,none⟩ zB4;have zB5:=(hB5.cell (p:=⟨B5,0,none⟩) mB5).trans t5;have eB5:=World.new_ne w5 ⟨B5,0,none⟩ zB5;have c4:=(hB5.cell (p:=⟨S,3 + o * 8 + k,none⟩) lS2).trans c3;have f4:=(hB5.frozen (p:=⟨S,3 + o * 8 + k,none⟩) lS2).trans f3;have eS:=World.new_ne w5 ⟨S,3 + o * 8 + k,none⟩ c4;have eS' : ¬ S = w5.heap.size:=(fun e => eS e.symm);have a4:=Lib.cell?_alloc_some (.cells #[.pointer (some ⟨fbi,0,none⟩),.int .i64 use,.int .i64 0] 116) c4;have b4 : (w5.alloc (.cells #[.pointer (some ⟨fbi,0,none⟩),.int .i64 use,.int .i64 0] 116)).frozen? ⟨S,3 + o * 8 + k,none⟩ = false:=(((Grown.refl w5).alloc _).below.frozen (p:=⟨S,3 + o * 8 + k,none⟩) (Nat.lt_of_lt_of_le lS2 hB5.size)).trans f4))
 all_goals
  have hbk5 : w5.heap[X.heap.size]? = some (.cells #[.int .i64 0,.int .i64 0,.string ⟨#[]⟩,.slice none 0 0] 38):=(hB5.block _ l12).trans ((H2.out.2.2.2.2.2.block _ (Array.getElem?_eq_some_iff.1 HA.out.2.2.1).1 (fun e => by have e : X.heap.size = S:=e;omega)).trans HA.out.2.2.1)
  obtain ⟨Z,hZ⟩ : ∃ Z,Z = (w5.setCell ⟨S,3 + o * 8 + k,none⟩ (.pointer (some ⟨w5.heap.size,0,none⟩))).alloc (.cells #[.pointer (some ⟨fbi,0,none⟩),.int .i64 use,.int .i64 0] 116):=⟨_,rfl⟩
  have HM : Aside (∃ L6,SysAt base Z S (s1.opened q use (o * 8 + k)) L6 ∧ (∀ b,L6.ex b ↔ b = X.heap.size ∨ L.ex b) ∧ Below base X Z ∧ Keep (Mine S s L) X Z ∧ Z.heap[X.heap.size]? = some (.cells #[.int .i64 0,.int .i64 0,.string ⟨#[]⟩,.slice none 0 0] 38) ∧ ∀ b,Sp S (s1.opened q use (o * 8 + k)) L6 b → Sp S s L b ∨ X.heap.size ≤ b):=by
   obtain ⟨L5,e0,e2,e3,e4,e6,e7,e8,e9⟩:=H5.out
   exact open_mid HA.out.1 HA.out.2.1 HA.out.2.2.2.1 HA.out.2.2.2.2.1 HA.out.2.2.2.2.2 H2.out.2.1 H2.out.2.2.1 H2.out.2.2.2.1 H2.out.2.2.2.2.1 H2.out.2.2.2.2.2 HS1.out e2 e3 e4 hB5 e6 e7 e8 e9 ho4 hk8 hbk5 Z (by rw [hZ,e0])
  have hb5 : Z.cell? ⟨B5,0,none⟩ = some (.int .i64 k):=by
   rw [hZ]
   refine Lib.cell?_alloc_some _ ((cell_eq (Below.heap_setCell _ _ _ _ (fun e => nB5 ?_)) 0).trans zB5)
   exact e.symm
  have hbkZ : Z.heap[X.heap.size]? = some (.cells #[.int .i64 0,.int .i64 0,.string ⟨#[]⟩,.slice none 0 0] 38):=by obtain ⟨L6,_,_,_,_,r,_⟩:=HM.out;exact r
  rw [alloc_setCell _ _ _ _ (show S < w5.heap.size from Nat.lt_of_lt_of_le lS2 hB5.size),← hZ]
  obtain ⟨⟨d0,d1,d2,d3⟩,z0,z1,z2,z3⟩:=cells4 hbkZ
  clear hZ hbk5 hbkZ H5 H2 HK zB0 zB2 zB3 zB4 zB5 c3 c4 f3 f4 a4 b4
  go_wp2
  refine bodyPost_ret (v:=.agg #[.int .i64 0,.int .i64 k,.string ⟨#[]⟩,.slice none 0 0]) (by simp [results,Tryz.results123,go_sem,d0,d1,d2,d3]) rfl ?_
  obtain ⟨L6,p1,p2,p3,p4,p5,p6⟩:=HM.out
  obtain ⟨k1,k2⟩:=p1.answer ((p2 _).2 (.inl rfl)) p5 (.int .i64 0) (.int .i64 k) (.string ⟨#[]⟩) (.slice none 0 0)
  refine ⟨_,L6,rfl,k1,ans_at _ _ _ _,p3.trans k2,fun b hb => (p2 b).2 (.inr hb),⟨Nat.le_trans p4.size (by simp [World.setCell]),fun x hx hn => ?_⟩,p6⟩
  have hne : ∀ (Y : World) (i : Nat) (v : Value),(Y.setCell ⟨X.heap.size,i,none⟩ v).heap[x]? = Y.heap[x]?:=fun Y i v => Below.heap_setCell _ _ _ _ (by show x ≠ X.heap.size;omega)
  rw [hne,hne,hne,hne]
  exact p4.block x hx hn
end Go.Proofs.YthfeoiffoeagkaaGreatDoor
