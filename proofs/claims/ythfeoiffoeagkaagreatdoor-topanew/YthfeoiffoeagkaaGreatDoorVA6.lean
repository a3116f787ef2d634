/-
  slices.SortFunc over a row of the call's own, by path.Compare.
-/
import Derived.Test.YthfeoiffoeagkaaGreatDoorVA5
import Derived.Test.YthfeoiffoeagkaaGreatDoorSortLay
namespace Go.Proofs.YthfeoiffoeagkaaGreatDoor
open Go.RowKit PM Go.Sort
set_option linter.unusedVariables false
theorem cmpM_any (a b : Ent) (w : World) (ha : a.path.size ≤ maxLen) (hb : b.path.size ≤ maxLen) :
  Calls Tryz.prog 161 #[.agg #[.string a.path, .int .i64 a.kind, .string a.text, .bool a.opq],.agg #[.string b.path, .int .i64 b.kind, .string b.text, .bool b.opq]] w fun r w' => r = .returned (.int .i64 (cmp a.p b.p)) ∧ Grown w w':=by
 go_enter Tryz.func161,Tryz.ntmps161
 go_wp2_with (go_at_call 83;refine (compare_any _ _ _ ha hb).mono ?_;rintro r w' ⟨rfl,n,rfl⟩)
 go_ret
 exact ⟨rfl,(((Grown.refl w).alloc _).alloc _).drewN _⟩
abbrev EntS : Type:={ e : Ent // e.path.size ≤ maxLen }
instance : Inhabited EntS:=⟨⟨default,by decide⟩⟩
def encS (x : EntS) : List Value:=encE x.1
def cfS (x y : EntS) : Int:=cmp x.1.p y.1.p
theorem ltS (x y : EntS) : ltOf cfS x y = decide (cmp x.1.p y.1.p < 0):=rfl
theorem swoS : SWO (ltOf cfS) where
 irrefl x:=by rw [ltS,cmp_self];rfl
 trans x y z h1 h2:=by
  rw [ltS] at *
  exact decide_eq_true (cmp_trans _ _ _ (of_decide_eq_true h1) (of_decide_eq_true h2))
 ntrans x y z h1 h2:=by
  rw [ltS] at *
  have g1:=of_decide_eq_false h1
  have g2:=of_decide_eq_false h2
  refine decide_eq_false ?_
  have a1:=cmp_anti x.1.p y.1.p
  have a2:=cmp_anti y.1.p z.1.p
  have a3:=cmp_anti x.1.p z.1.p
  by_cases e1 : cmp x.1.p y.1.p = 0
  ·rw [(cmp_zero _ _).1 e1];exact g2
  ·by_cases e2 : cmp y.1.p z.1.p = 0
   ·rw [← (cmp_zero _ _).1 e2];exact g1
   ·have:=cmp_trans z.1.p y.1.p x.1.p (by omega) (by omega)
    omega
theorem cmpLaysS (blk off size : Nat) (w : World) : CmpLays Tryz.prog 161 #[] encS 4 cfS blk off size w :=
 fun _ _ _ _ x y => cmpM_any x.1 y.1 _ x.2 y.2
theorem gby_sort {α : Type} [Inhabited α] (enc : α → List Value) (k : Nat) (w : World) (blk off n : Nat) (d : Array α) (os : Array Obj) : w.grownBy (sortWorldK enc k w blk off n d os) (some blk):=by
 refine ⟨rfl,rfl,rfl,?_,fun j hj hn => ?_⟩
 ·show w.heap.size ≤ ((w.heap.modify blk _) ++ os).size
  simp
 ·show ((w.heap.modify blk _) ++ os)[j]? = _
  rw [Array.getElem?_append_left (by simpa using hj),Array.getElem?_modify,if_neg (by intro e;exact hn (by rw [e]))]
theorem ltOf_false {x y : EntS} : ltOf cfS y x = false ↔ ¬ cmp y.1.p x.1.p < 0:=by rw [ltS];exact decide_eq_false_iff_not
def toS (l : List Ent) (h : ∀ e ∈ l,e.path.size ≤ maxLen) : List EntS:=l.attach.map fun x => ⟨x.1,h x.1 x.2⟩
theorem toS_val (l : List Ent) (h : ∀ e ∈ l,e.path.size ≤ maxLen) : (toS l h).map (·.1) = l:=by
 unfold toS
 rw [List.map_map]
 exact List.attach_map_subtype_val l
theorem toS_len (l : List Ent) (h : ∀ e ∈ l,e.path.size ≤ maxLen) : (toS l h).length = l.length:=by simp [toS]
theorem sort_any (l : List Ent) (g cap : Nat) (w : World) (hO : Own w g cap l) (hF : ∀ e ∈ l,e.path.size ≤ maxLen) (hn : l.length ≤ 80) :
  Calls Tryz.prog 160 #[.slice (some ⟨g,0,none⟩) l.length cap,.func (.func 161) #[] #[]] w fun e w' =>
   e = .returned (.tuple #[]) ∧ ∃ l' : List Ent,l'.Perm l ∧ l'.Pairwise (fun a b => ¬ cmp b.p a.p < 0) ∧ Lies w' (some ⟨g,0,none⟩) l' ∧ w.grownBy w' (some g):=by
 have eg : ∀ args w,(callFunc 161 args).run Tryz.prog w = .ok (.enter 161 args) w:=enters_of Tryz.func161 (by kernel_rfl) rfl
 have hd : (toS l hF).toArray.size = l.length:=by simp [toS_len]
 have hget : ∀ j : Nat,j < l.length → l[j]? = some ((toS l hF).toArray[j]!).1:=fun j hj => by
  have h1 : (toS l hF)[j]? = some ((toS l hF).toArray[j]!):=by
   rw [getElem!_pos _ j (by rw [hd];exact hj)]
   simp [toS_len,hj]
  have:=congrArg (·[j]?) (toS_val l hF)
  simp only [List.getElem?_map,h1] at this
  exact this.symm
 have hH : HoldsK encS 4 w g 0 (toS l hF).toArray:=by
  intro j hj
  rw [size_flatK,hd] at hj
  rw [get_flatK _ _ _ _ (by rw [hd];exact hj),Nat.zero_add]
  refine ⟨?_,hO.frozen _⟩
  have hm : j % 4 < 4:=Nat.mod_lt _ (by decide)
  have he:=hget (j / 4) (by omega)
  have hv : (encE ((toS l hF).toArray[j / 4]!).1)[j % 4]? = some ((encS (toS l hF).toArray[j / 4]!)[j % 4]!):=by
   rw [show encS (toS l hF).toArray[j / 4]! = encE ((toS l hF).toArray[j / 4]!).1 from rfl,List.getElem!_eq_getElem?_getD,List.getElem?_eq_getElem (by rw [encE_len];exact hm)]
   rfl
  have:=hO.cell he hv
  rwa [show j / 4 * 4 + j % 4 = j by omega] at this
 have hlim : Lib.bitLen l.length < 4611686018427387904:=Nat.lt_of_le_of_lt (Lib.bitLen_le l.length 62 (by omega) (by omega)) (by omega)
 have hp0:=AnyQ.pdqsortCmpFunc_all Tryz.sortE 4 Tryz.isAgg53 Tryz.sizeOf53 encS cfS 161 #[] swoS g 0 cap (toS l hF).toArray w eg (cmpLaysS g 0 _ w) ⟨fun _ => rfl,fun x v hv => flat_one (t:=[x.1]) (by simpa [encS] using hv),hH,hO.lt⟩ ((toS l hF).toArray.size + 1) 0 (toS l hF).toArray.size (Lib.bitLen l.length) (toS l hF).toArray w (by omega) rfl (SWK.start hH) (Nat.zero_le _) (Nat.le_refl _) (by rw [hd];omega) hlim (Or.inl rfl)
 have hsorts:=pdq_sorts (ltOf cfS) swoS (toS l hF).toArray 0 (toS l hF).toArray.size (Lib.bitLen l.length) true true (Nat.zero_le _) (Nat.le_refl _) (Or.inl rfl)
 generalize pdq (ltOf cfS) (toS l hF).toArray 0 (toS l hF).toArray.size (Lib.bitLen l.length) true true = d' at hp0 hsorts
 change Calls Tryz.prog 204 _ _ _ at hp0
 have hl : Calls Tryz.prog 205 #[.int .u64 (l.length : Int)] w fun e w' => e = .returned (.int .i64 (Lib.bitLen l.length : Nat)) ∧ w' = w:=by
  have h:=Any.bits_Len (SlLaysF0.n15.bits Tryz.bitsE) (l.length : Int) w (by omega) (by omega)
  rwa [Int.toNat_natCast] at h
 have wr : IntKind.u64.wrap (l.length : Int) = l.length:=by simp [IntKind.wrap,IntKind.bits,IntKind.signed];omega
 obtain ⟨hp,hs⟩:=hsorts
 rw [hd] at hp0 hp hs
 have HO : Aside (Own w g cap l):=hO
 have HP : Aside (PermIn 0 l.length (toS l hF).toArray d' ∧ SortedIn (ltOf cfS) 0 l.length d'):=⟨hp,hs⟩
 have HH : Aside (HoldsK encS 4 w g 0 (toS l hF).toArray):=hH
 have HD : Aside ((toS l hF).toArray.size = l.length):=hd
 have HG : Aside (∀ j : Nat,j < l.length → l[j]? = some ((toS l hF).toArray[j]!).1):=hget
 clear hO hp hs hH hget hd eg
 generalize hbl : Lib.bitLen l.length = bl at *
 clear hbl
 generalize hnl : l.length = n0 at hp0 hl wr hn hlim ⊢
 have HN : Aside (l.length = n0):=hnl
 clear hnl
 go_enter Tryz.func160,Tryz.ntmps160
 go_wp2_with (first | (go_at_call 205;refine hl.mono ?_;rintro e wx ⟨rfl,hwx⟩;subst wx) | (go_at_call 204;refine hp0.mono ?_;rintro e w' ⟨rfl,n,os,rfl⟩))
 go_end0
 obtain ⟨hp,hs⟩:=HP.out
 have hd:=HD.out
 have hO:=HO.out
 have hH:=HH.out
 refine ⟨rfl,d'.toList.map (·.1),?_,?_,?_,gby_sort _ _ _ _ _ _ _ _⟩
 ·obtain ⟨h1,_,h3⟩:=hp
  rw [hd] at h1
  have e1 : d'.extract 0 l.length = d':=by rw [← h1,Array.extract_size]
  have e2 : (toS l hF).toArray.extract 0 l.length = (toS l hF).toArray:=by rw [← hd,Array.extract_size]
  rw [e1,e2] at h3
  have:=h3.map (·.1)
  simp only [toS_val] at this
  exact this
 ·rw [List.pairwise_map,List.pairwise_iff_getElem]
  intro i j hi hj hij
  have h1:=hp.1
  rw [hd] at h1
  simp at hi hj
  have:=hs i j (Nat.zero_le _) hij (by omega)
  rw [getElem!_pos d' j hj,getElem!_pos d' i hi] at this
  simpa using ltOf_false.1 this
 ·have h1:=hp.1
  have hH':=holdsK_sortWorldK encS 4 w g 0 n (toS l hF).toArray d' os hO.lt hH h1
  have hsz:=(gby_sort encS 4 w g 0 n d' os).size
  refine .inr ⟨g,0,rfl,Nat.lt_of_lt_of_le hO.lt hsz,fun j e he i v hv => ?_⟩
  rw [List.getElem?_map,Array.getElem?_toList] at he
  obtain ⟨x,hx,rfl⟩:=Option.map_eq_some_iff.1 he
  obtain ⟨hj,rfl⟩:=Array.getElem?_eq_some_iff.1 hx
  have hi:=encE_lt hv
  have:=(HoldsK.cell hH' hj hi).1
  rw [getElem!_pos d' j hj] at this
  rw [this]
  rw [show encS d'[j] = encE d'[j].1 from rfl,List.getElem!_eq_getElem?_getD,hv]
  rfl
namespace PM
def inM (f : List UInt8) (e : Ent) : Bool:=decide (e.p = f) || under e.p f
def mvE (frm to : ByteArray) (e : Ent) : Ent:={ e with path:=to ++ e.path.extract frm.size e.path.size }
def mvF (frm to : ByteArray) (e : Ent) : Ent:=if inM frm.data.toList e then mvE frm to e else e
def movedPre (t : List Ent) (frm to : ByteArray) : List Ent:=(remL t to.data.toList).map (mvF frm to)
def badMove (t : List Ent) (frm to : ByteArray) : Bool:=(remL t to.data.toList).any fun e => inM frm.data.toList e && !clean (mvE frm to e).p
end PM
theorem inM_size {frm : ByteArray} {e : Ent} (h : inM frm.data.toList e = true) : frm.size ≤ e.path.size:=by
 unfold inM at h
 rcases Bool.or_eq_true_iff.1 h with h | h
 ·have:=congrArg List.length (of_decide_eq_true h)
  rw [Ent.p,szl,szl] at this;omega
 ·by_cases h0 : frm.data.toList = []
  ·rw [← szl frm,h0];simp
  ·obtain ⟨r,hr⟩:=(under_iff _ _ h0).1 h
   have:=congrArg List.length hr
   rw [Ent.p,szl,List.length_append,szl] at this;omega
def roomL (t : List Ent) (f to : List UInt8) : Int :=
 match getL t to with
 | none => 0
 | some old => if (old.kind == 2) && !(((getL t f).getD zeroE).kind == 2) then 9 else if !(old.kind == 2) && (((getL t f).getD zeroE).kind == 2) then 10 else fullL t to
theorem getD_of {o : Option Ent} {y : Ent} {b : Bool} (h : o = if b then some y else none) (hz : b = false → y = zeroE) : o.getD zeroE = y:=by
 cases b
 ·rw [h,hz rfl];rfl
 ·rw [h];rfl
set_option maxHeartbeats 2000000 in
theorem noRoom_any (t : List Ent) (frm to : ByteArray) (p : Option Addr) (cap : Nat) (w : World) (hL : Lies w p t) (hF : Fits t) (hn : t.length < 4611686018427387904) (hf : frm.size ≤ maxLen) (ht : to.size ≤ maxLen) (hs : Sorted t) :
  Calls Tryz.prog 223 #[.slice p t.length cap,.string frm,.string to] w fun r w' => r = .returned (.int .i64 (roomL t frm.data.toList to.data.toList)) ∧ Below w.heap.size w w':=by
 have hg1:=get_any t to p cap w hL hF hn ht
 have hg2:=fun W (hB : Below w.heap.size w W) => get_any t frm p cap W (hL.kept hB) hF hn hf
 have hfu:=fun W (hB : Below w.heap.size w W) => full_any t to p cap W (hL.kept hB) hF hn ht
 obtain ⟨r0,hr0⟩ : ∃ r0,r0 = roomL t frm.data.toList to.data.toList:=⟨_,rfl⟩
 have HR : Aside (r0 = roomL t frm.data.toList to.data.toList):=hr0
 rw [← hr0]
 have HS : Aside (Sorted t):=hs
 have HFU : Aside (fullL t to.data.toList = fullL t to.data.toList):=rfl
 obtain ⟨fl,hfl⟩ : ∃ fl,fl = fullL t to.data.toList:=⟨_,rfl⟩
 have HFL : Aside (fl = fullL t to.data.toList):=hfl
 rw [← hfl] at hfu
 clear hr0 hs hfl hL hF HFU
 generalize t.length = n at *
 go_enter Tryz.func223,Tryz.ntmps223
 go_wp2_with (first
  | (go_at_call 27;refine hg1.mono ?_;clear hg1;rintro e w1 ⟨⟨xp,xk,xt,xo⟩,b,rfl,hg,hz,hx,hB⟩;have HG : Aside (getL t to.data.toList = if b then some ⟨xp,xk,xt,xo⟩ else none):=hg HS.out;clear hg hz hx;cases b)
  | (go_at_call 27;refine (hg2 _ (hB.alloc hB.size _)).mono ?_;clear hg2;rintro e w2 ⟨⟨yp,yk,yt,yo⟩,b2,rfl,hg',hz',hx',hB2⟩;have HY : Aside ((getL t frm.data.toList).getD zeroE = ⟨yp,yk,yt,yo⟩):=getD_of (hg' HS.out) hz';clear hg' hz' hx';replace hB:=Below.onto (hB.alloc hB.size _) hB2;replace hB2:=hB2.mono (Nat.le_of_eq (by simp : w1.heap.size + 1 = _));have hB3 : Below (w2.heap.size + 1) (w2.alloc (.cells #[.string yp,.int .i64 yk,.string yt,.bool yo] 53)) (w2.alloc (.cells #[.string yp,.int .i64 yk,.string yt,.bool yo] 53)):=Below.refl _ _;replace hB2:=hB2.alloc (by have:=hB2.size;simpa using this) (.cells #[.string yp,.int .i64 yk,.string yt,.bool yo] 53);obtain ⟨⟨c0,c1,c2,c3⟩,_⟩:=new4 (Nat.lt_succ_self _) hB2;by_cases hkx : xk = 2 <;> by_cases hky : yk = 2 <;> (try subst hkx) <;> (try subst hky))
  | (go_at_call 113;refine (isDir_cells _ _ _ _ _).mono ?_;rintro rr w3 ⟨rfl,hG⟩;replace hB2:=up1 hB2 hG.below;replace hB3:=up1 hB3 hG.below;clear hG;obtain ⟨⟨d0,d1,d2,d3⟩,_⟩:=new4 (Nat.lt_succ_self _) hB2;obtain ⟨⟨e0,e1,e2,e3⟩,_⟩:=new4 (Nat.lt_succ_self _) hB3)
  | (go_at_call 218;refine (hfu _ (Below.onto hB (base1 hB3))).mono ?_;clear hfu;rintro rr w4 ⟨rfl,hN⟩;replace hB3:=up1 hB3 hN;clear hN))
 ·go_ret
  refine ⟨ret_int ?_,hB.alloc hB.size _⟩
  rw [HR.out,roomL,HG.out];rfl
 all_goals go_ret
 all_goals refine ⟨ret_int ?_,Below.onto hB (base1 hB3)⟩
 all_goals rw [HR.out,roomL,HG.out]
 all_goals simp only [if_true,HY.out]
 all_goals first
  | rw [HFL.out]
  | skip
 all_goals first
  | rfl
  | (simp only [beq_iff_eq,Bool.and_eq_true,Bool.not_eq_true',beq_eq_false_iff_ne,ne_eq,and_false,if_false,and_true,hkx,hky,not_false_eq_true])
  | simp_all
 all_goals (exfalso;simp_all)
theorem Own.setPath {w : World} {g cap : Nat} {l : List Ent} (h : Own w g cap l) {j : Nat} {y : Ent} (hy : l[j]? = .some y) (q : ByteArray) : Own (w.setCell ⟨g,j * 4,none⟩ (.string q)) g cap (l.set j { y with path:=q }):=by
 obtain ⟨hj,hyy⟩:=List.getElem?_eq_some_iff.1 hy
 obtain ⟨cur,hc,hs,hl,hm,hh⟩:=h
 refine ⟨_,heap_set hc (j * 4) (.string q),by simpa using hs,by simpa using hl,hm,fun k e he i v hv => ?_⟩
 have hi:=encE_lt hv
 rw [List.getElem?_set] at he
 rw [Array.getElem?_setIfInBounds]
 by_cases hk : j = k
 ·subst hk
  rw [if_pos rfl,if_pos hj] at he
  simp only [Option.some.injEq] at he
  subst he
  match i,hi,hv with
  | 0,_,hv => rw [if_pos (by omega),if_pos (by rw [hs];omega)];simpa [encE] using hv
  | 1,_,hv => rw [if_neg (by omega)];exact hh j y hy 1 v (by simpa [encE] using hv)
  | 2,_,hv => rw [if_neg (by omega)];exact hh j y hy 2 v (by simpa [encE] using hv)
  | 3,_,hv => rw [if_neg (by omega)];exact hh j y hy 3 v (by simpa [encE] using hv)
 ·rw [if_neg hk] at he
  rw [if_neg (by omega)]
  exact hh k e he i v hv
def dkL (R : List Ent) (frm to : ByteArray) (k : Nat) : List Ent:=(R.take k).map (mvF frm to) ++ R.drop k
theorem dkL_len (R : List Ent) (frm to : ByteArray) (k : Nat) : (dkL R frm to k).length = R.length:=by
 simp [dkL];omega
theorem dkL_at {R : List Ent} {frm to : ByteArray} {k : Nat} {y : Ent} (hy : R[k]? = some y) : (dkL R frm to k)[k]? = some y:=by
 have hk:=(List.getElem?_eq_some_iff.1 hy).1
 unfold dkL
 rw [List.getElem?_append_right (by simp;omega)]
 simp [Nat.min_eq_left (Nat.le_of_lt hk),hy]
theorem dkL_step {R : List Ent} {frm to : ByteArray} {k : Nat} {y : Ent} (hy : R[k]? = some y) : dkL R frm to (k + 1) = (dkL R frm to k).set k (mvF frm to y):=by
 obtain ⟨hk,hyy⟩:=List.getElem?_eq_some_iff.1 hy
 apply List.ext_getElem?
 intro j
 unfold dkL
 rw [List.getElem?_set]
 by_cases e1 : k = j
 ·subst e1
  rw [if_pos rfl,if_pos (by simp;omega),List.getElem?_append_left (by simp;omega)]
  simp [hy]
 ·rw [if_neg e1]
  by_cases e2 : j < k
  ·rw [List.getElem?_append_left (by simp;omega),List.getElem?_append_left (by simp;omega),List.getElem?_map,List.getElem?_map,List.getElem?_take,List.getElem?_take,if_pos (by omega),if_pos e2]
  ·rw [List.getElem?_append_right (by simp;omega),List.getElem?_append_right (by simp;omega)]
   simp only [List.length_map,List.length_take,List.getElem?_drop]
   congr 1;omega
theorem dkL_same {R : List Ent} {frm to : ByteArray} {k : Nat} {y : Ent} (hy : R[k]? = some y) (hn : inM frm.data.toList y = false) : dkL R frm to (k + 1) = dkL R frm to k:=by
 rw [dkL_step hy,mvF,hn]
 apply List.ext_getElem?
 intro j
 rw [List.getElem?_set]
 by_cases e : k = j
 ·subst e
  have hk:=(List.getElem?_eq_some_iff.1 hy).1
  rw [if_pos rfl,if_pos (by rw [dkL_len];exact hk),dkL_at hy];rfl
 ·rw [if_neg e]
def MovedPost (t : List Ent) (frm to : ByteArray) (w : World) (r : Ending) (w' : World) : Prop :=
 (badMove t frm to = true ∧ TreePost 4 [] w r w') ∨ (badMove t frm to = false ∧ ∃ l : List Ent,l.Perm (movedPre t frm to) ∧ l.Pairwise (fun a b => ¬ cmp b.p a.p < 0) ∧ TreePost 0 l w r w')
theorem bad_at {R : List Ent} {frm to : ByteArray} {y : Ent} (hy : y ∈ R) (hi : inM frm.data.toList y = true) (hc : clean (mvE frm to y).p = false) : (R.any fun e => inM frm.data.toList e && !clean (mvE frm to e).p) = true :=
 List.any_eq_true.2 ⟨y,hy,by simp [hi,hc]⟩
theorem bad_step {R : List Ent} {frm to : ByteArray} {k : Nat} {y : Ent} (hy : R[k]? = some y) (h : ((R.take k).any fun e => inM frm.data.toList e && !clean (mvE frm to e).p) = false) (hb : (inM frm.data.toList y && !clean (mvE frm to y).p) = false) : ((R.take (k + 1)).any fun e => inM frm.data.toList e && !clean (mvE frm to e).p) = false:=by
 rw [take_step hy,List.any_append,h];simp [hb]
theorem eq_parts {a b : ByteArray} (h : a.data.toList = b.data.toList) : (a.toList == b.toList) = true ∧ a.toList = b.toList:=by
 rw [Lib.toList_data,Lib.toList_data,h];simp
theorem ne_parts {a b : ByteArray} (h : ¬ a.data.toList = b.data.toList) : (a.toList == b.toList) = false ∧ ¬ a.toList = b.toList:=by
 rw [Lib.toList_data,Lib.toList_data];exact ⟨by simpa using h,h⟩
set_option maxHeartbeats 4000000 in
set_option maxRecDepth 100000 in
theorem moved_any (t : List Ent) (frm to : ByteArray) (m : Int) (p : Option Addr) (cap : Nat) (w : World) (hL : Lies w p t) (hnil : p = none → cap = 0) (hr : Right false t) (hf : frm.size ≤ 80) (ht : to.size ≤ 80) (hm : w.cell? ⟨0,0,none⟩ = some (.int .i64 m)) :
  Calls Tryz.prog 224 #[.slice p t.length cap,.string frm,.string to] w (MovedPost t frm to w):=by
 have hwo:=without_any t to p cap w hL hnil hr.len
 have hR80 : (remL t to.data.toList).length ≤ 80:=Nat.le_trans (List.length_filter_le _ _) hr.len
 have HP80 : Aside (∀ y ∈ remL t to.data.toList,y.path.size ≤ 80):=fun y hy => clean_size (hr.clean (mem_remL.1 hy).1)
 have hsort:=fun W g c (hO : Own W g c (movedPre t frm to)) => sort_any (movedPre t frm to) g c W hO
 have hml : (movedPre t frm to).length = (remL t to.data.toList).length:=by simp [movedPre]
 rw [hml] at hsort
 have HB : Aside (badMove t frm to = (remL t to.data.toList).any fun e => inM frm.data.toList e && !clean (mvE frm to e).p):=rfl
 have HM : Aside (movedPre t frm to = dkL (remL t to.data.toList) frm to (remL t to.data.toList).length):=by show _ = _;simp [movedPre,dkL]
 obtain ⟨R,hRR⟩ : ∃ R,R = remL t to.data.toList:=⟨_,rfl⟩
 have HRR : Aside (remL t to.data.toList = R):=hRR.symm
 clear hL hnil hr
 unfold WithoutPost at hwo
 rw [← hRR] at hwo hR80 HP80 hsort hml HB HM
 clear hRR
 obtain ⟨n,hnl⟩ : ∃ n,n = R.length:=⟨_,rfl⟩
 have HN : Aside (n = R.length):=hnl
 rw [← hnl] at hwo hR80 hsort HM hml
 have hml2 : Aside ((movedPre t frm to).length = n):=hml
 clear hnl hml
 go_enter Tryz.func224,Tryz.ntmps224
 go_wp2_with (go_at_call 219;refine hwo.mono ?_;clear hwo;rintro e w1 ⟨g,c,rfl,hg,hO,hB⟩;have HO : Aside (Own w1 g c R):=hO;have HBl : Aside (Below w.heap.size w w1):=hB;clear hO hB)
 go_loopg [16] n (fun gg s16 wr => ∃ k : Nat,k ≤ n ∧ n - k ≤ gg ∧ s16 = .int .i64 k ∧ Aside (Own wr g c (dkL R frm to k)) ∧ Aside (Below w.heap.size w wr) ∧ Aside (((R.take k).any fun e => inM frm.data.toList e && !clean (mvE frm to e).p) = false))
 case atStart => exact ⟨0,Nat.zero_le _,by omega,rfl,by simpa [dkL,Aside] using HO.out,HBl.out,by simp [Aside]⟩
 case round =>
  obtain ⟨k,hk,hgg,rfl,OW,BW,NB⟩:=hrel
  have hglt:=OW.out.lt
  have hne : g ≠ wr.heap.size:=by omega
  by_cases hlt : k < n
  ·have hltz : (k : Int) < (n : Int):=by omega
   obtain ⟨y,hy⟩ : ∃ y,R[k]? = some y:=⟨_,List.getElem?_eq_getElem (by have:=HN.out;omega)⟩
   have HY : Aside (R[k]? = some y):=hy
   have hy80:=HP80.out y (List.mem_of_getElem? hy)
   obtain ⟨⟨c0,c1,c2,c3⟩,⟨f0,f1,f2,f3⟩⟩:=OW.out.cells (dkL_at hy)
   have hym : y.path.size ≤ maxLen:=by unfold maxLen;omega
   have hfm : frm.size ≤ maxLen:=by unfold maxLen;omega
   have hun:=fun W => under_any y.path frm W hym hfm
   have hcl:=fun W (hB : Below w.heap.size w W) => clean_any (to ++ y.path.extract frm.size y.path.size) m W (by unfold maxLen;simp;omega) (held hB hm)
   clear hy
   cases hin : inM frm.data.toList y with
   | false =>
    have hp1 : ¬ y.path.data.toList = frm.data.toList:=fun e => by
     unfold inM at hin;rw [show y.p = y.path.data.toList from rfl,e] at hin;simp at hin
    have hp2 : under y.path.data.toList frm.data.toList = false:=by
     unfold inM at hin;exact (Bool.or_eq_false_iff.1 hin).2
    obtain ⟨e1,e2⟩:=ne_parts hp1
    rw [hp2] at hun
    clear hp1 hp2
    go_wp2_with (go_at_call 186;refine (hun _).mono ?_;rintro rr wx ⟨rfl,hwx⟩;subst wx)
    go_roundg (n - (k + 1))
    case measure => omega
    case rel => exact ⟨k + 1,by omega,by omega,by go_num,by rw [dkL_same HY.out hin];exact OW.out.grown ((Grown.refl wr).alloc _),(BW.out.alloc BW.out.size _ : Below _ _ _),bad_step HY.out NB.out (by rw [hin];rfl)⟩
   | true =>
    have hsz:=inM_size hin
    have hszz : (frm.size : Int) ≤ (y.path.size : Int):=by omega
    have hways : (y.path.data.toList = frm.data.toList) ∨ (¬ y.path.data.toList = frm.data.toList ∧ under y.path.data.toList frm.data.toList = true):=by
     unfold inM at hin
     by_cases h : y.path.data.toList = frm.data.toList
     ·exact .inl h
     ·refine .inr ⟨h,?_⟩
      rcases Bool.or_eq_true_iff.1 hin with g | g
      ·exact absurd (of_decide_eq_true g) h
      ·exact g
    have HE : Aside ((mvE frm to y).p = (to ++ y.path.extract frm.size y.path.size).data.toList):=rfl
    have HMV : Aside (mvF frm to y = { y with path:=to ++ y.path.extract frm.size y.path.size }):=by show _ = _;rw [mvF,hin];rfl
    have hcc : (to ++ y.path.extract frm.size y.path.size).size ≤ 160:=by simp;omega
    have hB2 : Below w.heap.size w ((wr.setCell ⟨g,k * 4,none⟩ (.string (to ++ y.path.extract frm.size y.path.size))).alloc (.cells #[.string y.path, .int .i64 y.kind, .string y.text, .bool y.opq] 53)):=(BW.out.setCell hg _).alloc (by have:=BW.out.size;simpa [World.setCell] using this) _
    have OW2 : Aside (Own ((wr.setCell ⟨g,k * 4,none⟩ (.string (to ++ y.path.extract frm.size y.path.size))).alloc (.cells #[.string y.path, .int .i64 y.kind, .string y.text, .bool y.opq] 53)) g c (dkL R frm to (k + 1))):=by
     have:=(OW.out.setPath (dkL_at HY.out) (to ++ y.path.extract frm.size y.path.size)).grown ((Grown.refl _).alloc (.cells #[.string y.path, .int .i64 y.kind, .string y.text, .bool y.opq] 53))
     rw [← HMV.out,← dkL_step HY.out] at this
     exact this
    have hcl2:=hcl _ hB2
    clear hcl
    generalize hnew : to ++ y.path.extract frm.size y.path.size = new at hcl2 HE HMV hcc hB2 OW2
    have HNW : Aside (to ++ y.path.extract frm.size y.path.size = new):=hnew
    cases hcn : clean new.data.toList with
    | false =>
     rw [hcn] at hcl2
     have HBAD : Aside (badMove t frm to = true):=by show _ = _;rw [HB.out];exact bad_at (List.mem_of_getElem? HY.out) hin (by rw [HE.out];exact hcn)
     rcases hways with h1 | ⟨h1,h2⟩
     ·obtain ⟨e1,e2⟩:=eq_parts h1
      clear h1
      go_wp2_with (go_at_call 26;refine hcl2.mono ?_;clear hcl2;rintro rr w3 ⟨rfl,hN⟩)
      go_ret2
      exact .inl ⟨HBAD.out,TreePost.none (Below.onto hB2 hN)⟩
     ·obtain ⟨e1,e2⟩:=ne_parts h1
      rw [h2] at hun
      clear h1 h2
      go_wp2_with (first | (go_at_call 186;refine (hun _).mono ?_;rintro rr wx ⟨rfl,hwx⟩;subst wx) | (go_at_call 26;refine hcl2.mono ?_;clear hcl2;rintro rr w3 ⟨rfl,hN⟩))
      go_ret2
      exact .inl ⟨HBAD.out,TreePost.none (Below.onto hB2 hN)⟩
    | true =>
     rw [hcn] at hcl2
     have hNB : ((R.take (k + 1)).any fun e => inM frm.data.toList e && !clean (mvE frm to e).p) = false:=bad_step HY.out NB.out (by rw [HE.out,hcn];simp)
     have HNB : Aside (((R.take (k + 1)).any fun e => inM frm.data.toList e && !clean (mvE frm to e).p) = false):=hNB
     have hlt2:=OW2.out.lt
     clear hNB
     rcases hways with h1 | ⟨h1,h2⟩
     ·obtain ⟨e1,e2⟩:=eq_parts h1
      clear h1
      go_wp2_with (go_at_call 26;refine hcl2.mono ?_;clear hcl2;rintro rr w3 ⟨rfl,hN⟩)
      go_roundg (n - (k + 1))
      case measure => omega
      case rel => exact ⟨k + 1,by omega,by omega,by go_num,OW2.out.below hN hlt2,Below.onto hB2 hN,HNB.out⟩
     ·obtain ⟨e1,e2⟩:=ne_parts h1
      rw [h2] at hun
      clear h1 h2
      go_wp2_with (first | (go_at_call 186;refine (hun _).mono ?_;rintro rr wx ⟨rfl,hwx⟩;subst wx) | (go_at_call 26;refine hcl2.mono ?_;clear hcl2;rintro rr w3 ⟨rfl,hN⟩))
      go_roundg (n - (k + 1))
      case measure => omega
      case rel => exact ⟨k + 1,by omega,by omega,by go_num,OW2.out.below hN hlt2,Below.onto hB2 hN,HNB.out⟩
  ·obtain rfl : k = n:=by omega
   have hltz : ¬ (k : Int) < (k : Int):=by omega
   have HGOOD : Aside (badMove t frm to = false):=by
    show _ = _
    have:=NB.out
    rw [HN.out,List.take_length] at this
    rw [HB.out];exact this
   have hso:=hsort wr g c (by rw [HM.out];exact OW.out) (fun e he => by
    unfold movedPre at he
    obtain ⟨x,hx,rfl⟩:=List.mem_map.1 he
    have h80:=HP80.out x (by rw [← HRR.out];exact hx)
    unfold mvF maxLen
    split
    ·simp [mvE];omega
    ·omega) hR80
   clear hsort
   go_wp2_with (go_at_call 160;refine hso.mono ?_;clear hso;rintro rr w4 ⟨rfl,l',hp,hs,hLi,hgb⟩;have HS : Aside _:=hs;clear hs)
   go_ret2
   refine .inr ⟨HGOOD.out,l',hp,HS.out.imp (fun h => by omega),some ⟨g,0,none⟩,c,?_,hLi,?_,nofun,BW.out.grown hgb BW.out.size (fun j hj => by simp at hj;omega)⟩
   ·rw [hp.length_eq,hml2.out];rfl
   ·rw [hp.length_eq,hml2.out];have:=OW.out.len;rw [dkL_len,← HN.out] at this;exact this
def moveAsk (t : List Ent) (f : List UInt8) : Int:=orL [(faultL false t).1,missL t f]
def moveAsk2 (t : List Ent) (f to : List UInt8) : Int:=orL [noDirL t (dirOf to),roomL t f to]
def moveErr (t : List Ent) (frm to : ByteArray) : Int :=
 if moveAsk t frm.data.toList = 0 then
  if clean to.data.toList = true then
   if frm.data.toList = to.data.toList then 0
   else if under to.data.toList frm.data.toList = true then 8
   else if moveAsk2 t frm.data.toList to.data.toList = 0 then (if badMove t frm to = true then 4 else 0)
   else moveAsk2 t frm.data.toList to.data.toList
  else 7
 else moveAsk t frm.data.toList
def MovePost (t : List Ent) (frm to : ByteArray) (w : World) (r : Ending) (w' : World) : Prop :=
 ∃ l,TreePost (moveErr t frm to) l w r w' ∧ (moveErr t frm to ≠ 0 → l = []) ∧
  (moveErr t frm to = 0 → (frm.data.toList = to.data.toList → l = t) ∧ (frm.data.toList ≠ to.data.toList → l.Perm (movedPre t frm to) ∧ l.Pairwise fun a b => ¬ cmp b.p a.p < 0))
theorem moveAsk_of (t : List Ent) (f : List UInt8) (r : Int) (hr : Sorted t → r = missL t f) : orL [(faultL false t).1,r] = moveAsk t f:=by
 unfold moveAsk
 by_cases h : (faultL false t).1 = 0
 ·rw [hr (faultL_zero.1 h).sorted]
 ·simp [orL,h]
theorem moveAsk_zero {t : List Ent} {f : List UInt8} (h : moveAsk t f = 0) : Right false t ∧ ∃ e ∈ t,e.p = f:=by
 unfold moveAsk at h
 obtain ⟨h1,h⟩:=orL_zero.1 h
 obtain ⟨h2,_⟩:=orL_zero.1 h
 refine ⟨faultL_zero.1 h1,?_⟩
 unfold missL at h2
 split at h2
 ·assumption
 ·omega
theorem MovePost.err {t : List Ent} {frm to : ByteArray} {w w' : World} {er : Int} (he : er = moveErr t frm to) (h0 : er ≠ 0) (hB : Below w.heap.size w w') : MovePost t frm to w (.returned (.tuple #[.slice none 0 0,.int .i64 er])) w':=by
 subst he
 exact ⟨[],TreePost.none hB,fun _ => rfl,fun h => absurd h h0⟩
set_option maxHeartbeats 8000000 in
set_option maxRecDepth 100000 in
theorem move_any (t : List Ent) (frm to : ByteArray) (m : Int) (p : Option Addr) (cap : Nat) (w : World) (hL : Lies w p t) (hF : Fits t) (hn : t.length < 4611686018427387904) (hcap : t.length ≤ cap) (hnil : p = none → cap = 0)
  (hf : frm.size ≤ maxLen) (ht : to.size ≤ maxLen) (hm : w.cell? ⟨0,0,none⟩ = some (.int .i64 m)) :
  Calls Tryz.prog 183 #[.slice p t.length cap,.string frm,.string to] w (MovePost t frm to w):=by
 have hwr:=fun W (hB : Below w.heap.size w W) => wrong_any t m p cap W (hL.kept hB) hF hn hcap (held hB hm)
 have hms:=fun W (hB : Below w.heap.size w W) => missing_any t frm p cap W (hL.kept hB) hF hn hf
 have hcl:=fun W (hB : Below w.heap.size w W) => clean_any to m W ht (held hB hm)
 have HA : Aside (∀ r : Int,(Sorted t → r = missL t frm.data.toList) → orL [(faultL false t).1,r] = moveAsk t frm.data.toList):=moveAsk_of t frm.data.toList
 have hB : Below w.heap.size w w:=Below.refl _ _
 have hfld:=field40
 have HER : Aside (moveErr t frm to = if moveAsk t frm.data.toList = 0 then
  if clean to.data.toList = true then
   if frm.data.toList = to.data.toList then 0
   else if under to.data.toList frm.data.toList = true then 8
   else if moveAsk2 t frm.data.toList to.data.toList = 0 then (if badMove t frm to = true then 4 else 0)
   else moveAsk2 t frm.data.toList to.data.toList
  else 7
 else moveAsk t frm.data.toList):=rfl
 have HZ : Aside (moveAsk t frm.data.toList = 0 → Right false t ∧ ∃ e ∈ t,e.p = frm.data.toList):=moveAsk_zero
 obtain ⟨n,hnl⟩ : ∃ n,n = t.length:=⟨_,rfl⟩
 have HN : Aside (n = t.length):=hnl
 generalize (faultL false t).1 = f at hwr HA
 generalize ((faultL false t).2 : Int) = fa at hwr
 generalize moveAsk t frm.data.toList = ask at HA HER HZ
 by_cases hask : ask = 0
 ·subst hask
  have HRT:=HZ.out rfl
  have HR : Aside (Right false t ∧ ∃ e ∈ t,e.p = frm.data.toList):=HRT
  have hf80 : frm.size ≤ 80:=by
   obtain ⟨hr,x,hx,hxp⟩:=HRT
   have:=hr.clean hx
   rw [hxp] at this
   exact clean_size this
  have HL : Aside (Lies w p t):=hL
  have HFt : Aside (Fits t):=hF
  rw [if_pos rfl] at HER
  cases hct : clean to.data.toList with
  | false =>
   have HE7 : Aside (7 = moveErr t frm to):=by show _ = _;rw [HER.out,hct];rfl
   rw [hct] at hcl
   rw [← hnl] at hwr hms ⊢
   clear hnl HRT hL hF hn hcap
   go_enter Tryz.func183,Tryz.ntmps183
   go_wp2_with (first
    | (go_at_call 24;refine (hwr _ hB).mono ?_;clear hwr;rintro e w1 ⟨rfl,hN⟩;replace hB:=Below.onto hB hN;clear hN)
    | (go_at_call 217;refine (hms _ hB).mono ?_;clear hms;rintro e w2 ⟨r,rfl,hr,hN⟩;have HE : Aside (orL [f,r] = 0):=HA.out r hr;clear hr HA;replace hB:=Below.onto hB hN;clear hN)
    | (go_at_call 157;refine (or2_any _ _ _).mono ?_;rintro e w4 ⟨rfl,hw⟩;subst hw;replace hB:=hB.alloc hB.size (.cells #[.int .i64 f,.int .i64 r] 31);rw [HE.out])
    | (go_at_call 26;refine (hcl _ hB).mono ?_;clear hcl;rintro e w5 ⟨rfl,hN⟩;replace hB:=Below.onto hB hN;clear hN))
   go_ret2
   exact MovePost.err HE7.out (by decide) hB
  | true =>
   have ht80 : to.size ≤ 80:=clean_size hct
   rw [hct,if_pos rfl] at HER
   rw [hct] at hcl
   have hn80 : n ≤ 80:=by rw [hnl];exact HRT.1.len
   have hun:=fun W => under_any to frm W ht hf
   have hnd : ∀ W,Below w.heap.size w W → Calls Tryz.prog 114 #[.slice p t.length cap,.string to] W fun r w' => r = .returned (.int .i64 (noDirL t (dirOf to.data.toList))) ∧ Below W.heap.size W w':=fun W hB => (noDirFor_any t to p cap W (hL.kept hB) hF hn ht (by omega)).mono fun r w' ⟨x,h1,h2,h3⟩ => ⟨by rw [h1,h2 HRT.1.sorted],h3⟩
   have hro:=fun W (hB : Below w.heap.size w W) => noRoom_any t frm to p cap W (hL.kept hB) hF hn hf ht HRT.1.sorted
   have hmo:=fun W (hB : Below w.heap.size w W) => moved_any t frm to m p cap W (hL.kept hB) hnil HRT.1 hf80 ht80 (held hB hm)
   have HA2 : Aside (orL [noDirL t (dirOf to.data.toList),roomL t frm.data.toList to.data.toList] = moveAsk2 t frm.data.toList to.data.toList):=rfl
   generalize noDirL t (dirOf to.data.toList) = nd at hnd HA2
   generalize roomL t frm.data.toList to.data.toList = rm at hro HA2
   generalize moveAsk2 t frm.data.toList to.data.toList = ask2 at HA2 HER
   rw [← hnl] at hwr hms hnd hro hmo ⊢
   clear hnl HRT hL hF hn hcap
   by_cases hft : frm.data.toList = to.data.toList
   ·have HE0 : Aside (moveErr t frm to = 0):=by show _ = _;rw [HER.out,if_pos hft]
    obtain ⟨e1,e2⟩:=eq_parts hft
    have HFT : Aside (frm.data.toList = to.data.toList):=hft
    clear hft hun hnd hro hmo HER HA2
    go_enter Tryz.func183,Tryz.ntmps183
    go_wp2_with (first
    | (go_at_call 24;refine (hwr _ hB).mono ?_;clear hwr;rintro e w1 ⟨rfl,hN⟩;replace hB:=Below.onto hB hN;clear hN)
    | (go_at_call 217;refine (hms _ hB).mono ?_;clear hms;rintro e w2 ⟨r,rfl,hr,hN⟩;have HE : Aside (orL [f,r] = 0):=HA.out r hr;clear hr HA;replace hB:=Below.onto hB hN;clear hN)
    | (go_at_call 157;refine (or2_any _ _ _).mono ?_;rintro e w4 ⟨rfl,hw⟩;subst hw;replace hB:=hB.alloc hB.size (.cells #[.int .i64 f,.int .i64 r] 31);rw [HE.out];clear HE)
    | (go_at_call 26;refine (hcl _ hB).mono ?_;clear hcl;rintro e w5 ⟨rfl,hN⟩;replace hB:=Below.onto hB hN;clear hN)
    | (at_builtin;refine append_copy _ rfl _ _ rfl w5.heap.size rfl ?_ p n cap t rfl HN.out ?_ hnil hn80 ?_ ?_))
    ·exact empty_row w5 _ rfl
    ·exact (HL.out.kept hB).grown ((Grown.refl _).alloc _)
    ·simp
    ·intro g c w6 hO hg hB6
     have hX : Below w5.heap.size w5 w6:=((Below.refl _ _).alloc (Nat.le_refl _) _).trans hB6
     have H6 : Aside (Own w6 g c t ∧ Below w.heap.size w w6):=⟨hO,Below.onto hB hX⟩
     clear hO hB6 hX
     go_wp2
     go_ret2
     refine ⟨t,?_,fun h => absurd HE0.out h,fun _ => ⟨fun _ => rfl,fun h => absurd HFT.out h⟩⟩
     rw [HE0.out]
     exact ⟨some ⟨g,0,none⟩,c,by rw [← HN.out];rfl,H6.out.1.lies,H6.out.1.len,nofun,H6.out.2⟩
   ·rw [if_neg hft] at HER
    obtain ⟨e1,e2⟩:=ne_parts hft
    have HFT : Aside (frm.data.toList ≠ to.data.toList):=hft
    clear hft
    cases hut : under to.data.toList frm.data.toList with
    | true =>
     have HE8 : Aside (8 = moveErr t frm to):=by show _ = _;rw [HER.out,hut];rfl
     rw [hut] at hun
     clear hnd hro hmo HER HA2
     go_enter Tryz.func183,Tryz.ntmps183
     go_wp2_with (first
    | (go_at_call 24;refine (hwr _ hB).mono ?_;clear hwr;rintro e w1 ⟨rfl,hN⟩;replace hB:=Below.onto hB hN;clear hN)
    | (go_at_call 217;refine (hms _ hB).mono ?_;clear hms;rintro e w2 ⟨r,rfl,hr,hN⟩;have HE : Aside (orL [f,r] = 0):=HA.out r hr;clear hr HA;replace hB:=Below.onto hB hN;clear hN)
    | (go_at_call 157;refine (or2_any _ _ _).mono ?_;rintro e w4 ⟨rfl,hw⟩;subst hw;replace hB:=hB.alloc hB.size (.cells #[.int .i64 f,.int .i64 r] 31);rw [HE.out];clear HE)
    | (go_at_call 26;refine (hcl _ hB).mono ?_;clear hcl;rintro e w5 ⟨rfl,hN⟩;replace hB:=Below.onto hB hN;clear hN)
    | (go_at_call 186;refine (hun _).mono ?_;rintro rr wx ⟨rfl,hwx⟩;subst wx))
     go_ret2
     exact MovePost.err HE8.out (by decide) hB
    | false =>
     rw [hut] at hun HER
     rw [if_neg (by decide)] at HER
     by_cases hask2 : ask2 = 0
     ·rw [if_pos hask2] at HER
      subst hask2
      go_enter Tryz.func183,Tryz.ntmps183
      go_wp2_with (first
    | (go_at_call 24;refine (hwr _ hB).mono ?_;clear hwr;rintro e w1 ⟨rfl,hN⟩;replace hB:=Below.onto hB hN;clear hN)
    | (go_at_call 217;refine (hms _ hB).mono ?_;clear hms;rintro e w2 ⟨r,rfl,hr,hN⟩;have HE : Aside (orL [f,r] = 0):=HA.out r hr;clear hr HA;replace hB:=Below.onto hB hN;clear hN)
    | (go_at_call 157;refine (or2_any _ _ _).mono ?_;rintro e w4 ⟨rfl,hw⟩;subst hw;replace hB:=hB.alloc hB.size (.cells #[.int .i64 f,.int .i64 r] 31);rw [HE.out];clear HE)
    | (go_at_call 26;refine (hcl _ hB).mono ?_;clear hcl;rintro e w5 ⟨rfl,hN⟩;replace hB:=Below.onto hB hN;clear hN)
    | (go_at_call 186;refine (hun _).mono ?_;rintro rr wx ⟨rfl,hwx⟩;subst wx)
    | (go_at_call 114;refine (hnd _ hB).mono ?_;clear hnd;rintro rr w6 ⟨rfl,hN⟩;replace hB:=Below.onto hB hN;clear hN)
    | (go_at_call 223;refine (hro _ hB).mono ?_;clear hro;rintro rr w7 ⟨rfl,hN⟩;replace hB:=Below.onto hB hN;clear hN)
    | (go_at_call 157;refine (or2_any _ _ _).mono ?_;rintro rr w8 ⟨rfl,hw⟩;subst hw;replace hB:=hB.alloc hB.size (.cells #[.int .i64 nd,.int .i64 rm] 31);rw [HA2.out])
    | (go_at_call 224;refine (hmo _ hB).mono ?_;clear hmo;rintro rr w9 (⟨hbad,p9,c9,rfl,hl9,hc9,hn9,hB9⟩ | ⟨hbad,l9,hp9,hs9,p9,c9,rfl,hl9,hc9,hn9,hB9⟩)))
      ·go_ret2
       have h4 : moveErr t frm to = 4:=by rw [HER.out,if_pos hbad]
       refine ⟨[],?_,fun _ => rfl,fun h => by rw [h4] at h;cases h⟩
       rw [h4]
       exact ⟨p9,c9,rfl,hl9,hc9,hn9,Below.onto hB hB9⟩
      ·go_ret2
       have h0 : moveErr t frm to = 0:=by rw [HER.out,if_neg (by rw [hbad];decide)]
       refine ⟨l9,?_,fun h => absurd h0 h,fun _ => ⟨fun h => absurd h HFT.out,fun _ => ⟨hp9,hs9.imp (fun h => by omega)⟩⟩⟩
       rw [h0]
       exact ⟨p9,c9,rfl,hl9,hc9,hn9,Below.onto hB hB9⟩
     ·rw [if_neg hask2] at HER
      clear hmo
      go_enter Tryz.func183,Tryz.ntmps183
      go_wp2_with (first
    | (go_at_call 24;refine (hwr _ hB).mono ?_;clear hwr;rintro e w1 ⟨rfl,hN⟩;replace hB:=Below.onto hB hN;clear hN)
    | (go_at_call 217;refine (hms _ hB).mono ?_;clear hms;rintro e w2 ⟨r,rfl,hr,hN⟩;have HE : Aside (orL [f,r] = 0):=HA.out r hr;clear hr HA;replace hB:=Below.onto hB hN;clear hN)
    | (go_at_call 157;refine (or2_any _ _ _).mono ?_;rintro e w4 ⟨rfl,hw⟩;subst hw;replace hB:=hB.alloc hB.size (.cells #[.int .i64 f,.int .i64 r] 31);rw [HE.out];clear HE)
    | (go_at_call 26;refine (hcl _ hB).mono ?_;clear hcl;rintro e w5 ⟨rfl,hN⟩;replace hB:=Below.onto hB hN;clear hN)
    | (go_at_call 186;refine (hun _).mono ?_;rintro rr wx ⟨rfl,hwx⟩;subst wx)
    | (go_at_call 114;refine (hnd _ hB).mono ?_;clear hnd;rintro rr w6 ⟨rfl,hN⟩;replace hB:=Below.onto hB hN;clear hN)
    | (go_at_call 223;refine (hro _ hB).mono ?_;clear hro;rintro rr w7 ⟨rfl,hN⟩;replace hB:=Below.onto hB hN;clear hN)
    | (go_at_call 157;refine (or2_any _ _ _).mono ?_;rintro rr w8 ⟨rfl,hw⟩;subst hw;replace hB:=hB.alloc hB.size (.cells #[.int .i64 nd,.int .i64 rm] 31);rw [HA2.out]))
      go_ret2
      exact MovePost.err HER.out.symm hask2 hB
 ·have HEA : Aside (ask = moveErr t frm to):=by show _ = _;rw [HER.out,if_neg hask]
  rw [← hnl] at hwr hms ⊢
  clear hnl hL hF hn hcap hcl
  go_enter Tryz.func183,Tryz.ntmps183
  go_wp2_with (first
   | (go_at_call 24;refine (hwr _ hB).mono ?_;clear hwr;rintro e w1 ⟨rfl,hN⟩;replace hB:=Below.onto hB hN;clear hN)
   | (go_at_call 217;refine (hms _ hB).mono ?_;clear hms;rintro e w2 ⟨r,rfl,hr,hN⟩;have HE : Aside (orL [f,r] = ask):=HA.out r hr;clear hr HA;replace hB:=Below.onto hB hN;clear hN)
   | (go_at_call 157;refine (or2_any _ _ _).mono ?_;rintro e w4 ⟨rfl,hw⟩;subst hw;replace hB:=hB.alloc hB.size (.cells #[.int .i64 f,.int .i64 r] 31);rw [HE.out]))
  go_ret2
  exact MovePost.err HEA.out hask hB
theorem getL_congr {a b : List Ent} {q : List UInt8} (ha : Sorted a) (hb : Sorted b) (h : ∀ x,x.p = q → (x ∈ a ↔ x ∈ b)) : getL a q = getL b q:=by
 by_cases hq : q = []
 ·rw [hq,getL_nil,getL_nil]
 cases h1 : getL a q with
 | none =>
  have:=(getL_none h1).2
  exact (getL_none_of hq fun e he hp => this e ((h e hp).2 he) hp).symm
 | some x =>
  obtain ⟨hx,hp⟩:=getL_some hq h1
  have:=getL_of hb ((h x hp).1 hx) (by rw [hp];exact hq)
  rw [hp] at this;exact this.symm
theorem getL_put_same {t : List Ent} {e : Ent} (hs : Sorted t) (he : e.p ≠ []) : getL (putL t e) e.p = some e:=getL_of (sorted_putL hs e) (mem_putL.2 (.inl rfl)) he
theorem getL_put_other {t : List Ent} {e : Ent} {q : List UInt8} (hs : Sorted t) (hq : q ≠ e.p) : getL (putL t e) q = getL t q :=
 getL_congr (sorted_putL hs e) hs fun x hx => by
  rw [mem_putL]
  constructor
  ·rintro (rfl | ⟨h,_⟩)
   ·exact absurd hx.symm hq
   ·exact h
  ·intro h;exact .inr ⟨h,by rw [hx];exact hq⟩
theorem getL_rem_other {t : List Ent} {p q : List UInt8} (hs : Sorted t) (hq : q ≠ p) : getL (remL t p) q = getL t q :=
 getL_congr (sorted_remL hs p) hs fun x hx => by
  rw [mem_remL]
  exact ⟨fun h => h.1,fun h => ⟨h,by rw [hx];exact hq⟩⟩
theorem get_det (t : List Ent) (q : ByteArray) (p : Option Addr) (cap : Nat) (w : World) (hL : Lies w p t) (hF : Fits t) (hn : t.length < 4611686018427387904) (hq : q.size ≤ maxLen) (hs : Sorted t) (x : Ent) (b : Bool) (hx : (getL t q.data.toList).getD zeroE = x) (hb : (getL t q.data.toList).isSome = b) :
  Calls Tryz.prog 27 #[.slice p t.length cap,.string q] w fun r w' => r = .returned (.tuple #[.agg #[.string x.path, .int .i64 x.kind, .string x.text, .bool x.opq],.bool b]) ∧ Below w.heap.size w w':=by
 refine (get_any t q p cap w hL hF hn hq).mono ?_
 rintro r w' ⟨x',b',rfl,hg,hz,_,hB⟩
 have h1:=getD_of (hg hs) hz
 have h2 : (getL t q.data.toList).isSome = b':=by rw [hg hs];cases b' <;> rfl
 rw [← hx,h1,← hb,h2]
 exact ⟨rfl,hB⟩
theorem upA {w W : World} {o o2 : Obj} (h : Below (w.heap.size + 1) (w.alloc o) W) : Below (w.heap.size + 1) (w.alloc o) (W.alloc o2):=h.alloc (by have:=h.size;simpa using this) _
theorem insertion_nil (w : World) :
  Calls Tryz.prog 238 #[.slice none 0 0,.int .i64 0,.int .i64 0,.func (.func 161) #[] #[]] w fun e w' => e = .returned (.tuple #[]) ∧ w' = w:=by
 go_enter Tryz.func238,Tryz.ntmps238
 go_wp2
 go_loopg [8] 1 (fun gg i wr => i = .int .i64 1 ∧ wr = w)
 case atStart => exact ⟨rfl,rfl⟩
 case round =>
  obtain ⟨rfl,rfl⟩:=hrel
  go_wp2
  go_end0
  exact ⟨rfl,rfl⟩
set_option maxHeartbeats 2000000 in
set_option maxRecDepth 100000 in
theorem pdq_nil (k : Int) (w : World) :
  Calls Tryz.prog 204 #[.slice none 0 0,.int .i64 0,.int .i64 0,.int .i64 k,.func (.func 161) #[] #[]] w fun e w' => e = .returned (.tuple #[]) ∧ w' = w:=by
 have hi:=insertion_nil
 go_enter Tryz.func204,Tryz.ntmps204
 go_wp2
 go_loopg [1,2] 1 (fun gg a b wr => a = .int .i64 0 ∧ b = .int .i64 0 ∧ wr = w)
 case atStart => exact ⟨rfl,rfl,rfl⟩
 case round =>
  obtain ⟨rfl,rfl,rfl⟩:=hrel
  go_wp2_with (go_at_call 238;refine (hi _).mono ?_;rintro e w' ⟨rfl,hw⟩;subst hw)
  try simp only [Exit.inBlock,Exit.then]
  refine bodyPost_ret (results_none rfl _ _ _) rfl ?_
  exact ⟨rfl,rfl⟩
theorem sort_nil (w : World) :
  Calls Tryz.prog 160 #[.slice none 0 0,.func (.func 161) #[] #[]] w fun e w' => e = .returned (.tuple #[]) ∧ w' = w:=by
 have hl : Calls Tryz.prog 205 #[.int .u64 0] w fun e w' => e = .returned (.int .i64 (Lib.bitLen 0 : Nat)) ∧ w' = w:=by
  have h:=Any.bits_Len (SlLaysF0.n15.bits Tryz.bitsE) 0 w (by omega) (by omega)
  exact h
 have hp:=pdq_nil (Lib.bitLen 0 : Nat) w
 generalize ((Lib.bitLen 0 : Nat) : Int) = k at hl hp
 go_enter Tryz.func160,Tryz.ntmps160
 go_wp2_with (first | (go_at_call 205;refine hl.mono ?_;rintro e wx ⟨rfl,hwx⟩;subst wx) | (go_at_call 204;refine hp.mono ?_;rintro e w' ⟨rfl,hw⟩;subst hw))
 go_end0
 exact ⟨rfl,rfl⟩
end Go.Proofs.YthfeoiffoeagkaaGreatDoor
