/-
  traceref1.Same of a list and itself.
-/
import Derived.Test.YthfeoiffoeagkaaGreatDoorVA6
import Derived.Laws.StructEq
import Derived.Shelf.SlicesE.Equal
namespace Go.Proofs.YthfeoiffoeagkaaGreatDoor
open Go.RowKit PM Go.Sort
set_option linter.unusedVariables false
theorem neqE (e : Ent) (w : World) : Sem.run Tryz.prog (binOp .neq 53 (.agg #[.string e.path, .int .i64 e.kind, .string e.text, .bool e.opq]) (.agg #[.string e.path, .int .i64 e.kind, .string e.text, .bool e.opq])) w = .ok (.bool false) w:=by
 have u3:=Tryz.underlying3
 have a3:=Tryz.isAgg3
 have z3:=Tryz.sizeOf3
 have u9:=Tryz.underlying9
 have a9:=Tryz.isAgg9
 have z9:=Tryz.sizeOf9
 have u4:=Tryz.underlying4
 have a4:=Tryz.isAgg4
 have z4:=Tryz.sizeOf4
 have hS : Tryz.prog.underlying 53 = some (.struct (Tryz.prog.fieldsOf 53)):=by kernel_rfl
 have hp : Tryz.prog.stoodInHeld 53 = false:=by kernel_rfl
 rw [run_neq_struct,show (10000 : Nat) = 9999 + 1 from rfl,run_equalIn_agg w 9999 53 _ _ hS hp]
 simp only [Program.fieldsOf,Tryz.underlying53]
 go_simp
theorem guardE (op : BinOp) (a b : Operand) (x y : Ent) (w : World) : (eqGuard op 53 a b (.agg #[.string x.path, .int .i64 x.kind, .string x.text, .bool x.opq]) (.agg #[.string y.path, .int .i64 y.kind, .string y.text, .bool y.opq])).run Tryz.prog w = .ok () w :=
 GuardAt.agg (P:=Tryz.prog) (T:=53) (fun e : Ent => #[.string e.path, .int .i64 e.kind, .string e.text, .bool e.opq]) (by kernel_rfl) op a b x y w
set_option maxHeartbeats 2000000 in
theorem same_any (l : List Ent) (p p' : Option Addr) (c c' : Nat) (w : World) (hL : Lies w p l) (hL' : Lies w p' l) (hn : l.length < 4611686018427387904) :
  Calls Tryz.prog 23 #[.slice p l.length c,.slice p' l.length c'] w fun e w' => e = .returned (.bool true) ∧ Below w.heap.size w w':=by
 have H1 : Aside (Lies w p l):=hL
 have H2 : Aside (Lies w p' l):=hL'
 obtain ⟨n,hnl⟩ : ∃ n,n = l.length:=⟨_,rfl⟩
 have HN : Aside (n = l.length):=hnl
 rw [← hnl] at hn ⊢
 clear hnl hL hL'
 have hgu:=guardE
 have hneq:=neqE
 go_enter Tryz.func23,Tryz.ntmps23
 go_wp2
 go_loopg [13] n (fun gg s13 wr => ∃ k : Nat,k ≤ n ∧ n - k ≤ gg ∧ s13 = .int .i64 k ∧ Aside (Below w.heap.size w wr))
 case atStart => exact ⟨0,Nat.zero_le _,by omega,rfl,Below.refl _ _⟩
 case round =>
  obtain ⟨k,hk,hgg,rfl,BW⟩:=hrel
  by_cases hlt : k < n
  ·have hltz : (k : Int) < (n : Int):=by omega
   obtain ⟨y,hy⟩ : ∃ y,l[k]? = some y:=⟨_,List.getElem?_eq_getElem (by have:=HN.out;omega)⟩
   rcases H1.out with h0 | ⟨b,off,rfl,hb,hc⟩
   ·rw [h0] at hy;simp at hy
   rcases H2.out with h0 | ⟨b',off',rfl,hb',hc'⟩
   ·rw [h0] at hy;simp at hy
   obtain ⟨c0,c1,c2,c3⟩:=Lies.cells hc hb BW.out hy
   obtain ⟨d0,d1,d2,d3⟩:=Lies.cells hc' hb' BW.out hy
   clear hc hc' hy
   go_wp2
   go_quiet (fail)
   go_wp2
   go_roundg (n - (k + 1))
   case measure => omega
   case rel => exact ⟨k + 1,by omega,by omega,by go_num,below_drewN BW.out _⟩
  ·have hltz : ¬ (k : Int) < (n : Int):=by omega
   go_wp2
   go_ret
   exact ⟨rfl,BW.out⟩
def namesL (t : List Ent) (q : List UInt8) : List (List UInt8):=(t.filter fun e => decide (dirOf e.p = q)).map fun e => (cutL e.p).2
def listL (t : List Ent) (q : List UInt8) : List (List UInt8) × Int:=if noDirL t q = 0 then (namesL t q,0) else ([],noDirL t q)
theorem names_step {t : List Ent} {k : Nat} {y : Ent} {q : List UInt8} (hy : t[k]? = some y) : namesL (t.take (k + 1)) q = namesL (t.take k) q ++ (if dirOf y.p = q then [(cutL y.p).2] else []):=by
 rw [take_step hy]
 unfold namesL
 rw [List.filter_append,List.map_append]
 by_cases h : dirOf y.p = q <;> simp [h]
theorem cut_grown (s : ByteArray) (w : World) (hs : s.size < 4611686018427387904) : Calls Tryz.prog 162 #[.string s] w fun e w' => (∃ d n : ByteArray,e = .returned (.tuple #[.string d,.string n]) ∧ d.data.toList = (cutL s.data.toList).1 ∧ n.data.toList = (cutL s.data.toList).2) ∧ Grown w w' :=
 (cut_any s w hs).mono fun e w' ⟨h,n,hw⟩ => ⟨h,by rw [hw];exact (Grown.refl w).drewN n⟩
theorem below_build {w wr w3 w1 : World} {o : Obj} {base : Nat} {r : Option Nat} (hB : Below base w wr) (hb : base ≤ wr.heap.size) (hG : Grown (wr.alloc o) w3) (o2 : Obj) (hg : (w3.alloc o2).grownBy w1 r) (hr : ∀ k,r = some k → base ≤ k) : Below base w w1:=by
 have h1 : Below base w w3:=(hB.alloc hb o).trans (hG.below.mono (by simp;omega))
 have h3:=hG.size
 simp at h3
 exact (h1.alloc (by omega) o2).grown hg (by simp;omega) hr
theorem eq_cases (d q : ByteArray) : ((d.toList == q.toList) = true ∧ Aside (d.data.toList = q.data.toList)) ∨ ((d.toList == q.toList) = false ∧ Aside (¬ d.data.toList = q.data.toList)):=by
 by_cases h : d.data.toList = q.data.toList
 ·exact .inl ⟨(eq_parts h).1,h⟩
 ·exact .inr ⟨(ne_parts h).1,h⟩
set_option maxHeartbeats 4000000 in
set_option maxRecDepth 100000 in
theorem list_any (t : List Ent) (q : ByteArray) (p : Option Addr) (cap : Nat) (w : World) (hL : Lies w p t) (hF : Fits t) (hr : Right false t) (hq : q.size ≤ maxLen) :
  Calls Tryz.prog 134 #[.slice p t.length cap,.string q] w (ParsePost w (listL t q.data.toList).1 (listL t q.data.toList).2):=by
 have hn80:=hr.len
 have hnd:=noDir_any t q p cap w hL hF (by omega) hq
 have HR : Aside (Right false t):=hr
 have HL : Aside (Lies w p t):=hL
 have HLL : Aside (listL t q.data.toList = if noDirL t q.data.toList = 0 then (namesL t q.data.toList,0) else ([],noDirL t q.data.toList)):=rfl
 obtain ⟨i0,hi,hz0,hz1,hz2⟩:=info9
 obtain ⟨n,hnl⟩ : ∃ n,n = t.length:=⟨_,rfl⟩
 have HN : Aside (n = t.length):=hnl
 rw [← hnl] at hnd hn80 ⊢
 clear hnl hr hL hF
 go_enter Tryz.func134,Tryz.ntmps134
 go_wp2_with (go_at_call 163;refine hnd.mono ?_;clear hnd;rintro e w1 ⟨r,rfl,hrr,hB⟩;have HD : Aside (r = noDirL t q.data.toList):=hrr HR.out.sorted;clear hrr;by_cases hr0 : r = 0)
 ·subst hr0
  go_loopg [7,20] n (fun gg v i wr => ∃ (k : Nat) (bs : List ByteArray),k ≤ n ∧ n - k ≤ gg ∧ i = .int .i64 k ∧ bs.length ≤ k ∧ Aside (Strs wr w.heap.size v bs) ∧ Aside (Below w.heap.size w wr) ∧ Aside (bs.map (·.data.toList) = namesL (t.take k) q.data.toList))
  case atStart => exact ⟨0,[],Nat.zero_le _,by omega,rfl,Nat.le_refl _,Strs.nil _ _,hB,by simp [namesL,Aside]⟩
  case round =>
   obtain ⟨k,bs,hk,hgg,rfl,hbl,ST,BW,NM⟩:=hrel
   by_cases hlt : k < n
   ·have hltz : (k : Int) < (n : Int):=by omega
    obtain ⟨y,hy⟩ : ∃ y,t[k]? = some y:=⟨_,List.getElem?_eq_getElem (by have:=HN.out;omega)⟩
    have HY : Aside (t[k]? = some y):=hy
    have hy80:=clean_size (HR.out.clean (List.mem_of_getElem? hy))
    rcases HL.out with h0 | ⟨b,off,rfl,hb,hc⟩
    ·rw [h0] at hy;simp at hy
    obtain ⟨c0,c1,c2,c3⟩:=Lies.cells hc hb BW.out hy
    clear hc hy
    have hcu:=fun W => cut_grown y.path W (by omega)
    go_wp2_with (first
     | (go_at_call 162;refine (hcu _).mono ?_;clear hcu;rintro e w3 ⟨⟨d,nm,rfl,hd,hnm⟩,hG⟩;have HDN : Aside (d.data.toList = dirOf y.p ∧ nm.data.toList = (cutL y.p).2):=⟨hd,hnm⟩;clear hd hnm;have hS3 : w3.ownsRow w.heap.size 9 1 u7 bs.length (bs.map Value.string):=ST.out.below (((Grown.refl wr).alloc _).trans hG).below;rcases eq_cases d q with ⟨hdq,HDQ⟩ | ⟨hdq,HDQ⟩)
     | (at_builtin;refine wpList_append_own _ rfl _ _ 36 rfl w.heap.size 9 i0 (.string ByteArray.empty) 1 16 Tryz.underlying36 hi hz0 hz1 hz2 rfl (by decide) _ _ _ rfl (hS3.alloc _) ⟨w3.heap.size,0,none⟩ 1 1 [.string nm] rfl rfl ?c1 ?c2 ?c3 ?c4 ?c5 ?_))
    case c1 => exact cell_one_new _ _ _
    case c2 => intro u hu;simp at hu;subst hu;rfl
    case c3 => unfold maxLen;omega
    case c4 => omega
    case c5 => have:=hG.size;have:=BW.out.size;simp at *;omega
    ·intro v' w4 hown hgrow _
     have HB4 : Aside (Below w.heap.size w w4):=below_build BW.out BW.out.size hG _ hgrow (fun j hj => (hS3.lt j hj).1)
     have HS4 : Aside (Strs w4 w.heap.size v' (bs ++ [nm])):=by simpa [Strs,Aside] using hown
     clear hown hgrow
     go_wp2
     go_roundg (n - (k + 1))
     case measure => omega
     case rel => exact ⟨k + 1,bs ++ [nm],by omega,by omega,by go_num,by simp;omega,HS4.out,HB4.out,by
       show _ = _
       rw [names_step HY.out,if_pos (HDN.out.1.symm.trans HDQ.out),← NM.out,← HDN.out.2];simp⟩
    ·go_roundg (n - (k + 1))
     case measure => omega
     case rel => exact ⟨k + 1,bs,by omega,by omega,by go_num,by omega,hS3,(BW.out.alloc BW.out.size _).trans (hG.below.mono (by have:=BW.out.size;simp;omega)),by
       show _ = _
       rw [names_step HY.out,if_neg (fun h => HDQ.out (HDN.out.1.trans h)),NM.out];simp⟩
   ·have hltz : ¬ (k : Int) < (n : Int):=by omega
    have HE : Aside (listL t q.data.toList = (bs.map (·.data.toList),0)):=by
     show _ = _
     rw [HLL.out,if_pos HD.out.symm,NM.out,List.take_of_length_le (by have:=HN.out;omega)]
    go_wp2
    go_ret2
    exact ParsePost.mk HE.out rfl rfl ST.out rfl BW.out
 ·have HE : Aside (listL t q.data.toList = ([],r)):=by show _ = _;rw [HLL.out,if_neg (by rw [← HD.out];exact hr0),HD.out]
  go_ret2
  exact ParsePost.mk HE.out rfl rfl (Strs.nil _ _) rfl hB
theorem perm_strict {l m : List Ent} (hp : l.Perm m) (hd : m.Pairwise fun a b => a.p ≠ b.p) (hs : l.Pairwise fun a b => ¬ cmp b.p a.p < 0) : Sorted l:=by
 have hd' : l.Pairwise fun a b => a.p ≠ b.p:=(hp.pairwise_iff (fun h => h.symm)).2 hd
 refine (hd'.and hs).imp ?_
 rintro a b ⟨h1,h2⟩
 exact cmp_ge h2 (fun e => h1 e.symm)
theorem mvE_p (frm to : ByteArray) (e : Ent) : (mvE frm to e).p = to.data.toList ++ e.p.drop frm.data.toList.length:=by
 show (to ++ e.path.extract frm.size e.path.size).data.toList = _
 rw [data_append,Lib.extract_to_end,szl];rfl
theorem inM_form {f : List UInt8} {e : Ent} (hf : f ≠ []) (h : inM f e = true) : ∃ r,e.p = f ++ r ∧ (r = [] ∨ ∃ s,r = 47 :: s):=by
 unfold inM at h
 rcases Bool.or_eq_true_iff.1 h with h | h
 ·exact ⟨[],by simpa using of_decide_eq_true h,.inl rfl⟩
 ·obtain ⟨r,hr⟩:=(under_iff _ _ hf).1 h
  exact ⟨47 :: r,hr,.inr ⟨r,rfl⟩⟩
theorem inM_of {f : List UInt8} {e : Ent} (hf : f ≠ []) {r : List UInt8} (h : e.p = f ++ r) (hr : r = [] ∨ ∃ s,r = 47 :: s) : inM f e = true:=by
 unfold inM
 rcases hr with rfl | ⟨s,rfl⟩
 ·simp [h]
 ·rw [(under_iff _ _ hf).2 ⟨s,h⟩];simp
theorem inM_false {f : List UInt8} {e : Ent} (h : inM f e = false) : e.p ≠ f ∧ under e.p f = false:=by
 unfold inM at h
 have:=Bool.or_eq_false_iff.1 h
 exact ⟨of_decide_eq_false this.1,this.2⟩
theorem mvE_form {frm to : ByteArray} {e : Ent} {r : List UInt8} (h : e.p = frm.data.toList ++ r) : (mvE frm to e).p = to.data.toList ++ r:=by
 rw [mvE_p,h,List.drop_left'];rfl
theorem under_of {a b c : List UInt8} (hb : b ≠ []) (hc : c ≠ []) (h1 : under a b = true) (h2 : under b c = true) : under a c = true:=by
 obtain ⟨r,rfl⟩:=(under_iff _ _ hb).1 h1
 obtain ⟨s,rfl⟩:=(under_iff _ _ hc).1 h2
 exact (under_iff _ _ hc).2 ⟨s ++ 47 :: r,by simp⟩
structure MvOK (t : List Ent) (frm to : ByteArray) : Prop where
 right : Right false t
 src : ∃ a ∈ t,a.p = frm.data.toList
 tocl : clean to.data.toList = true
 ne : frm.data.toList ≠ to.data.toList
 nund : under to.data.toList frm.data.toList = false
 dir : dirOf to.data.toList = [] ∨ ∃ d ∈ t,d.p = dirOf to.data.toList ∧ d.kind = 2
 free : ∀ x ∈ t,under x.p to.data.toList = false
 cl : ∀ x ∈ t,x.p ≠ to.data.toList → inM frm.data.toList x = true → clean (mvE frm to x).p = true
section
variable {t : List Ent} {frm to : ByteArray} (h : MvOK t frm to)
include h
theorem MvOK.fne : frm.data.toList ≠ []:=by obtain ⟨a,ha,hp⟩:=h.src;rw [← hp];exact h.right.ne ha
theorem MvOK.tne : to.data.toList ≠ []:=clean_ne h.tocl
theorem MvOK.inj {x y : Ent} (hx : x ∈ t) (hy : y ∈ t) (hxT : x.p ≠ to.data.toList) (hyT : y.p ≠ to.data.toList) (hne : x.p ≠ y.p) : (mvF frm to x).p ≠ (mvF frm to y).p:=by
 have key : ∀ {x y : Ent},inM frm.data.toList x = true → y ∈ t → y.p ≠ to.data.toList → (mvE frm to x).p ≠ y.p:=by
  intro x y hx hy hyT e
  obtain ⟨r,hr,hr'⟩:=inM_form h.fne hx
  rw [mvE_form hr] at e
  rcases hr' with rfl | ⟨s,rfl⟩
  ·exact hyT (by rw [← e];simp)
  ·have:=h.free y hy
   rw [(under_iff _ _ h.tne).2 ⟨s,e.symm⟩] at this
   cases this
 unfold mvF
 cases h1 : inM frm.data.toList x <;> cases h2 : inM frm.data.toList y <;> simp only [if_true,if_false,Bool.false_eq_true]
 ·exact hne
 ·exact fun e => key h2 hx hxT e.symm
 ·exact key h1 hy hyT
 ·obtain ⟨r,hr,_⟩:=inM_form h.fne h1
  obtain ⟨s,hs,_⟩:=inM_form h.fne h2
  rw [mvE_form hr,mvE_form hs]
  intro e
  rw [List.append_cancel_left e] at hr
  exact hne (hr.trans hs.symm)
theorem MvOK.distinct : (movedPre t frm to).Pairwise fun a b => a.p ≠ b.p:=by
 unfold movedPre
 rw [List.pairwise_map]
 have h1 : (remL t to.data.toList).Pairwise fun a b => a.p ≠ b.p:=(sorted_remL h.right.sorted _).imp fun hh => ltE_ne hh
 refine h1.imp_of_mem fun {a b} ha hb hab => ?_
 exact h.inj (mem_remL.1 ha).1 (mem_remL.1 hb).1 (mem_remL.1 ha).2 (mem_remL.1 hb).2 hab
theorem MvOK.mem {l : List Ent} (hp : l.Perm (movedPre t frm to)) {x : Ent} : x ∈ l ↔ ∃ y ∈ t,y.p ≠ to.data.toList ∧ mvF frm to y = x:=by
 have _:=h.fne
 rw [hp.mem_iff]
 unfold movedPre
 simp only [List.mem_map,mem_remL]
 constructor
 ·rintro ⟨y,⟨h1,h2⟩,h3⟩;exact ⟨y,h1,h2,h3⟩
 ·rintro ⟨y,h1,h2,h3⟩;exact ⟨y,⟨h1,h2⟩,h3⟩
theorem MvOK.stays {l : List Ent} (hp : l.Perm (movedPre t frm to)) {y : Ent} (hy : y ∈ t) (hT : y.p ≠ to.data.toList) (hi : inM frm.data.toList y = false) : y ∈ l:=(h.mem hp).2 ⟨y,hy,hT,by rw [mvF,hi];rfl⟩
theorem MvOK.goes {l : List Ent} (hp : l.Perm (movedPre t frm to)) {y : Ent} (hy : y ∈ t) (hi : inM frm.data.toList y = true) : mvE frm to y ∈ l:=by
 refine (h.mem hp).2 ⟨y,hy,fun e => ?_,by rw [mvF,hi];rfl⟩
 obtain ⟨r,hr,hr'⟩:=inM_form h.fne hi
 rcases hr' with rfl | ⟨s,rfl⟩
 ·exact h.ne (by rw [← e,hr];simp)
 ·have:=h.nund
  rw [(under_iff _ _ h.fne).2 ⟨s,by rw [← e,hr]⟩] at this
  cases this
theorem MvOK.rightL {l : List Ent} (hp : l.Perm (movedPre t frm to)) (hs : l.Pairwise fun a b => ¬ cmp b.p a.p < 0) : Right false l:=by
 refine ⟨?_,fun x hx => ?_,perm_strict hp h.distinct hs,fun x hx => ?_⟩
 ·rw [hp.length_eq,movedPre,List.length_map]
  exact Nat.le_trans (List.length_filter_le _ _) h.right.len
 ·obtain ⟨y,hy,hT,rfl⟩:=(h.mem hp).1 hx
  unfold mvF
  split
  ·rename_i hi;exact wrongE_path (h.right.each y hy) rfl rfl rfl (h.cl y hy hT hi)
  ·exact h.right.each y hy
 ·obtain ⟨y,hy,hT,rfl⟩:=(h.mem hp).1 hx
  cases hi : inM frm.data.toList y with
  | false =>
   have e1 : mvF frm to y = y:=by rw [mvF,hi];rfl
   rw [e1]
   rcases h.right.dir y hy with hd | ⟨d,hd,hdp,hdk⟩
   ·exact .inl hd
   ·by_cases hd0 : dirOf y.p = []
    ·exact .inl hd0
    have hu:=dir_under (h.right.ne hy) hd0
    refine .inr ⟨d,h.stays hp hd (fun e => ?_) ?_,hdp,hdk⟩
    ·have:=h.free y hy
     rw [← e,hdp,hu] at this;cases this
    ·cases hdi : inM frm.data.toList d with
     | false => rfl
     | true =>
      have hyu : under y.p frm.data.toList = true:=by
       unfold inM at hdi
       rcases Bool.or_eq_true_iff.1 hdi with g | g
       ·rw [← of_decide_eq_true g,hdp];exact hu
       ·rw [hdp] at g;exact under_of hd0 h.fne hu g
      rw [(inM_false hi).2] at hyu;cases hyu
  | true =>
   have e1 : mvF frm to y = mvE frm to y:=by rw [mvF,hi];rfl
   rw [e1]
   obtain ⟨r,hr,hr'⟩:=inM_form h.fne hi
   rw [mvE_form hr]
   rcases hr' with rfl | ⟨s,rfl⟩
   ·rw [List.append_nil]
    rcases h.dir with hd | ⟨d,hd,hdp,hdk⟩
    ·exact .inl hd
    ·by_cases hd0 : dirOf to.data.toList = []
     ·exact .inl hd0
     have hu:=dir_under h.tne hd0
     refine .inr ⟨d,h.stays hp hd (fun e => ?_) ?_,hdp,hdk⟩
     ·have:=dirOf_short h.tne;rw [← hdp,e] at this;omega
     ·cases hdi : inM frm.data.toList d with
      | false => rfl
      | true =>
       have : under to.data.toList frm.data.toList = true:=by
        unfold inM at hdi
        rcases Bool.or_eq_true_iff.1 hdi with g | g
        ·rw [← of_decide_eq_true g,hdp];exact hu
        ·rw [hdp] at g;exact under_of hd0 h.fne hu g
       rw [h.nund] at this;cases this
   ·have hdy : ∃ a,dirOf y.p = frm.data.toList ++ a ∧ dirOf (to.data.toList ++ 47 :: s) = to.data.toList ++ a ∧ (a = [] ∨ ∃ b,a = 47 :: b):=by
     rw [hr]
     rcases cases_last s with hf | ⟨a,b,rfl,hb⟩
     ·exact ⟨[],by rw [dirOf,cutL_slash _ s hf];simp,by rw [dirOf,cutL_slash _ s hf];simp,.inl rfl⟩
     ·refine ⟨47 :: a,?_,?_,.inr ⟨a,rfl⟩⟩
      ·rw [dirOf,show frm.data.toList ++ 47 :: (a ++ 47 :: b) = (frm.data.toList ++ 47 :: a) ++ 47 :: b by simp,cutL_slash _ b hb]
      ·rw [dirOf,show to.data.toList ++ 47 :: (a ++ 47 :: b) = (to.data.toList ++ 47 :: a) ++ 47 :: b by simp,cutL_slash _ b hb]
    obtain ⟨a,ha1,ha2,ha3⟩:=hdy
    rcases h.right.dir y hy with hd | ⟨d,hd,hdp,hdk⟩
    ·rw [hd] at ha1
     have:=congrArg List.length ha1
     have h0:=h.fne
     cases hff : frm.data.toList with
     | nil => exact absurd hff h0
     | cons => rw [hff] at this;simp at this
    ·have hdi : inM frm.data.toList d = true:=inM_of h.fne (hdp.trans ha1) ha3
     exact .inr ⟨mvE frm to d,h.goes hp hd hdi,by rw [mvE_form (hdp.trans ha1),ha2],hdk⟩
theorem MvOK.gone {l : List Ent} (hp : l.Perm (movedPre t frm to)) (hnf : under frm.data.toList to.data.toList = false) {x : Ent} (hx : x ∈ l) : x.p ≠ frm.data.toList:=by
 obtain ⟨y,hy,hT,rfl⟩:=(h.mem hp).1 hx
 cases hi : inM frm.data.toList y with
 | false => rw [mvF,hi];exact (inM_false hi).1
 | true =>
  rw [mvF,hi]
  obtain ⟨r,hr,hr'⟩:=inM_form h.fne hi
  intro e
  rw [if_pos rfl,mvE_form hr] at e
  rcases hr' with rfl | ⟨s,rfl⟩
  ·exact h.ne (by rw [← e];simp)
  ·rw [(under_iff _ _ h.tne).2 ⟨s,e.symm⟩] at hnf;cases hnf
theorem MvOK.notUnder : under frm.data.toList to.data.toList = false:=by
 obtain ⟨a,ha,hp⟩:=h.src
 rw [← hp];exact h.free a ha
end
theorem mvOK_of {t : List Ent} {frm to : ByteArray} (h0 : moveErr t frm to = 0) (hne : frm.data.toList ≠ to.data.toList) : MvOK t frm to:=by
 unfold moveErr at h0
 split at h0
 ·rename_i ha
  obtain ⟨hr,hsrc⟩:=moveAsk_zero ha
  split at h0
  ·rename_i hc
   split at h0
   ·cases h0
   ·rename_i hu
    have hu' : under to.data.toList frm.data.toList = false:=by simpa using hu
    split at h0
    ·rename_i ha2
     split at h0
     ·cases h0
     ·rename_i hb
      unfold moveAsk2 at ha2
      obtain ⟨hnd,hx⟩:=orL_zero.1 ha2
      obtain ⟨hrm,_⟩:=orL_zero.1 hx
      refine ⟨hr,hsrc,hc,hne,hu',?_,?_,?_⟩
      ·rcases noDirL_zero.1 hnd with g | ⟨d,h1,h2,h3,_⟩
       ·exact .inl g
       ·exact .inr ⟨d,h1,h2,h3⟩
      ·intro x hx
       cases hux : under x.p to.data.toList with
       | false => rfl
       | true =>
        obtain ⟨d,hd,hdp,_⟩:=hr.below (clean_ne hc) x.p.length (Nat.le_refl _) hx hux
        have hg:=getL_of hr.sorted hd (hr.ne hd)
        rw [hdp] at hg
        unfold roomL at hrm
        rw [hg] at hrm
        simp only at hrm
        split at hrm
        ·cases hrm
        ·split at hrm
         ·cases hrm
         ·unfold fullL at hrm
          rw [if_pos (List.any_eq_true.2 ⟨x,hx,hux⟩)] at hrm
          cases hrm
      ·intro x hx hT hi
       cases hcl : clean (mvE frm to x).p with
       | true => rfl
       | false => exact absurd (bad_at (mem_remL.2 ⟨hx,hT⟩) hi hcl) (by unfold badMove at hb;exact hb)
    ·rename_i ha2;exact absurd h0 ha2
  ·cases h0
 ·rename_i ha;exact absurd h0 ha
theorem right_fits {t : List Ent} (h : Right false t) : Fits t:=fun e he => by
 have hw:=h.each e he
 have h1:=clean_size (wrongE_clean hw)
 have h2 : e.text.size ≤ 100:=by
  unfold wrongE at hw
  split at hw
  ·cases hw
  ·split at hw
   ·cases hw
   ·split at hw
    ·cases hw
    ·omega
 unfold maxLen
 omega
end Go.Proofs.YthfeoiffoeagkaaGreatDoor
