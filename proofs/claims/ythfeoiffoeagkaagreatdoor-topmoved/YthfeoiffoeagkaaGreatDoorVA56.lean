/-
  TopMoved: the model.
-/
import Derived.Test.YthfeoiffoeagkaaGreatDoorVA53
namespace Go.Proofs.YthfeoiffoeagkaaGreatDoor
open Go.RowKit PM Go.Sort
set_option linter.unusedVariables false
def twoB : ByteArray:=⟨#[116,119,111]⟩
def moveO : Cl:=⟨1,0,0,7,0,pathB,⟨#[]⟩,⟨#[]⟩,false⟩
def moveR (t : ByteArray) : Cl:=⟨9,0,0,0,0,dirB,t,⟨#[]⟩,false⟩
def moveW (x : ByteArray) : Cl:=⟨4,0,0,0,0,⟨#[]⟩,⟨#[]⟩,x,false⟩
def moveT (t : ByteArray) : Cl:=⟨12,0,0,0,0,t ++ ⟨#[47,98]⟩,⟨#[]⟩,⟨#[]⟩,false⟩
def moveI (t : ByteArray) : Cl:=⟨11,0,0,0,0,t,⟨#[]⟩,⟨#[]⟩,false⟩
def moveD : Cl:=⟨12,0,0,0,0,dirB,⟨#[]⟩,⟨#[]⟩,false⟩
def movedL (t x : ByteArray) : List Cl:=[moveO,moveR t,moveW x,moveT t,moveI t,moveD]
noncomputable def s1M : Sy:=(runB [moveO]).1
def opM : Opn:=⟨0,7,0⟩
def flM : Fl:=⟨pathB,⟨#[]⟩,[]⟩
def fl2 (t : ByteArray) : Fl:=⟨t ++ ⟨#[47,98]⟩,⟨#[]⟩,[]⟩
theorem mo_seen1 : s1M.seen = base6:=by kernel_rfl
theorem mo_wrong1 : (wrongU s1M.all).1 = 0:=by kernel_rfl
theorem mo_lows1 : s1M.lows = [base6]:=by kernel_rfl
theorem mo_up1M : s1M.up = []:=by kernel_rfl
theorem mo_right1 : Right false base6:=faultL_zero.1 (by kernel_rfl)
theorem mo_step1 (t : ByteArray) : s1M.stepR (moveR t) = (s1M.renErr dirB t,s1M.renDo dirB t,noAns):=by kernel_rfl
theorem mo_lead1 : leadL base6 false dirL = (0,dirL):=by kernel_rfl
theorem cmp_app : ∀ p a b : List UInt8,cmp (p ++ a) (p ++ b) = cmp a b
 | [],a,b => rfl
 | c :: p,a,b => by
  show (if c = c then cmp (p ++ a) (p ++ b) else rk c - rk c) = _
  rw [if_pos rfl,cmp_app p a b]
theorem clean_one {t : List UInt8} (h : named t = true) : clean t = true:=by
 obtain ⟨hf,_,hl⟩:=named_free h
 simp only [clean,Bool.and_eq_true,decide_eq_true_eq,parts_free t hf]
 exact ⟨by omega,by simp [h]⟩
theorem clean_two {t c : List UInt8} (h : named t = true) (hc : named c = true) : clean (t ++ 47 :: c) = true:=by
 obtain ⟨hf,_,hl⟩:=named_free h
 obtain ⟨hf2,_,hl2⟩:=named_free hc
 simp only [clean,Bool.and_eq_true,decide_eq_true_eq,parts_last t c hf2,parts_free t hf]
 exact ⟨by simp;omega,by simp [h,hc]⟩
theorem join_two {t c : List UInt8} (h : t ≠ []) : joinL t c = t ++ 47 :: c:=by
 unfold joinL
 rw [if_neg (by cases t with | nil => exact absurd rfl h | cons => simp)]
theorem baL_self (t : ByteArray) : baL t.data.toList = t:=ba_ext (by simp [baL])
def ent1 (t : ByteArray) : Ent:=⟨t,2,⟨#[]⟩,false⟩
def ent2 (t : ByteArray) : Ent:=⟨t ++ ⟨#[47,97]⟩,1,⟨#[111,110,101]⟩,false⟩
def ent3 (t x : ByteArray) : Ent:=⟨t ++ ⟨#[47,98]⟩,1,twoB ++ x,false⟩
def entA6 : Ent:=⟨pathA,1,⟨#[111,110,101]⟩,false⟩
theorem base_eq : base6 = [entD6,entA6,entB6]:=rfl
theorem mo_mv1 (t : ByteArray) : mvE dirB t entD6 = ent1 t:=by
 have : t ++ (⟨#[]⟩ : ByteArray) = t:=ba_ext (by simp)
 show (⟨t ++ (ByteArray.mk #[100,105,114]).extract 3 3,2,⟨#[]⟩,false⟩ : Ent) = _
 rw [show (ByteArray.mk #[100,105,114]).extract 3 3 = ⟨#[]⟩ by kernel_rfl,this]
 rfl
theorem mo_mv2 (t : ByteArray) : mvE dirB t entA6 = ent2 t:=by
 show (⟨t ++ pathA.extract 3 5,1,⟨#[111,110,101]⟩,false⟩ : Ent) = _
 rw [show pathA.extract 3 5 = ⟨#[47,97]⟩ by kernel_rfl]
 rfl
theorem two_none : twoB ++ (⟨#[]⟩ : ByteArray) = twoB:=by kernel_rfl
theorem mo_mv3 (t : ByteArray) : mvE dirB t entB6 = ent3 t ⟨#[]⟩:=by
 unfold ent3
 rw [two_none]
 show (⟨t ++ pathB.extract 3 5,1,⟨#[116,119,111]⟩,false⟩ : Ent) = _
 rw [show pathB.extract 3 5 = ⟨#[47,98]⟩ by kernel_rfl]
 rfl
theorem mo_p1 (t : ByteArray) : (ent1 t).p = t.data.toList:=rfl
theorem mo_p2 (t : ByteArray) : (ent2 t).p = t.data.toList ++ [47,97]:=by simp [Ent.p,ent2]
theorem mo_p3 (t x : ByteArray) : (ent3 t x).p = t.data.toList ++ [47,98]:=by simp [Ent.p,ent3]
theorem mo_c12 (t : ByteArray) : cmp (ent1 t).p (ent2 t).p < 0:=by rw [mo_p1,mo_p2];exact cmp_under _ _
theorem mo_c13 (t x : ByteArray) : cmp (ent1 t).p (ent3 t x).p < 0:=by rw [mo_p1,mo_p3];exact cmp_under _ _
theorem mo_c23 (t x : ByteArray) : cmp (ent2 t).p (ent3 t x).p < 0:=by rw [mo_p2,mo_p3,cmp_app];decide
def seenM (t x : ByteArray) : List Ent:=[ent1 t,ent2 t,ent3 t x]
theorem seenM_sorted (t x : ByteArray) : Sorted (seenM t x):=by
 unfold Sorted seenM
 refine List.Pairwise.cons (fun b hb => ?_) (List.Pairwise.cons (fun b hb => ?_) (List.pairwise_singleton _ _))
 ·simp only [List.mem_cons,List.not_mem_nil,or_false] at hb
  rcases hb with rfl | rfl
  ·exact mo_c12 t
  ·exact mo_c13 t x
 ·rw [List.mem_singleton] at hb
  subst hb
  exact mo_c23 t x
theorem seenM_put (t x : ByteArray) : putL (seenM t ⟨#[]⟩) (ent3 t x) = seenM t x:=by
 have h1:=mo_c13 t x
 have h2:=mo_c23 t x
 have h3 : cmp (ent3 t ⟨#[]⟩).p (ent3 t x).p = 0:=by rw [mo_p3,mo_p3,cmp_self]
 have g1 : ¬ 0 < cmp (ent1 t).p (ent3 t x).p:=by omega
 have g2 : ¬ 0 < cmp (ent2 t).p (ent3 t x).p:=by omega
 unfold putL seenM
 simp [h1,h2,h3,g1,g2]
section
variable {t : ByteArray} (hn : named t.data.toList = true) (hd : ¬ t.data.toList = dirL)
include hn hd
theorem mo_get1 : getL base6 t.data.toList = none:=by
 refine getL_none_of (named_free hn).2.1 fun e he h => ?_
 have hf:=(named_free hn).1
 rw [base_eq] at he
 simp only [List.mem_cons,List.not_mem_nil,or_false] at he
 rcases he with rfl | rfl | rfl
 ·exact hd h.symm
 ·exact hf 47 (by rw [← h];decide) rfl
 ·exact hf 47 (by rw [← h];decide) rfl
end
theorem mo_leadT {t : ByteArray} (hn : named t.data.toList = true) : leadL base6 false t.data.toList = (0,t.data.toList) :=
 lead_in mo_right1 (d:=[]) (noDirL_zero.2 (.inl rfl)) hn (by have:=(named_free hn).2.2;show t.data.toList.length ≤ 80;omega) (fun _ => rfl)
theorem mo_underT {t : ByteArray} (hn : named t.data.toList = true) : under t.data.toList dirL = false:=by
 cases h : under t.data.toList dirL with
 | false => rfl
 | true =>
  obtain ⟨r,e⟩:=(under_iff _ _ (by decide)).1 h
  exact absurd rfl ((named_free hn).1 47 (by rw [e];simp))
section
variable {t : ByteArray} (hn : named t.data.toList = true) (hd : ¬ t.data.toList = dirL)
include hn hd
theorem mo_rem1 : remL base6 t.data.toList = base6:=by
 unfold remL
 refine List.filter_eq_self.2 fun e he => ?_
 have:=(getL_none (mo_get1 hn hd)).2 e he
 simp [this]
theorem moveE : moveErr base6 dirB t = 0:=by
 have hdd : ¬ dirB.data.toList = t.data.toList:=fun h => hd h.symm
 have h1 : moveAsk base6 dirB.data.toList = 0:=by kernel_rfl
 have h2 : moveAsk2 base6 dirB.data.toList t.data.toList = 0:=by
  unfold moveAsk2 roomL
  rw [mo_get1 hn hd,show dirOf t.data.toList = [] from (dir_join (d:=[]) hn).1]
  rfl
 have h3 : badMove base6 dirB t = false:=by
  unfold badMove
  rw [mo_rem1 hn hd,base_eq]
  have e1 : clean (mvE dirB t entD6).p = true:=by rw [mo_mv1,mo_p1];exact clean_one hn
  have e2 : clean (mvE dirB t entA6).p = true:=by rw [mo_mv2,mo_p2];exact clean_two hn (by decide)
  have e3 : clean (mvE dirB t entB6).p = true:=by rw [mo_mv3,mo_p3];exact clean_two hn (by decide)
  simp [e1,e2,e3]
 unfold moveErr
 rw [if_pos h1,if_pos (clean_one hn),if_neg hdd,if_neg (by rw [show dirB.data.toList = dirL from rfl,mo_underT hn];simp),if_pos h2,h3]
 rfl
theorem mo_renUp1 : (s1M.renUp dirB t).length ≤ 60:=by
 have hdd : ¬ dirB.data.toList = t.data.toList:=fun h => hd h.symm
 have hl:=(named_free hn).2.2
 have hz : Sorted ([] : List Ent):=List.Pairwise.nil
 unfold Sy.renUp
 rw [if_neg hdd,mo_seen1,mo_up1M,mo_lows1]
 unfold moveU clearTo
 rw [mo_get1 hn hd,if_neg (by simp),show base6.filter (inM dirB.data.toList) = [entD6,entA6,entB6] by kernel_rfl]
 obtain ⟨d1,d2⟩:=drop_len (B:=(mergeF [base6]).2) (p:=dirB) hz
 have d3 : dirB.size = 3:=rfl
 generalize dropL [] (mergeF [base6]).2 dirB = D at d1 d2 ⊢
 show (haveL (haveL (haveL D (mvE dirB t entD6)) (mvE dirB t entA6)) (mvE dirB t entB6)).length ≤ 60
 rw [mo_mv1,mo_mv2,mo_mv3]
 obtain ⟨s1,l1⟩:=have_sorted _ (Nat.le_refl (ent1 t).p.length) d2
 obtain ⟨s2,l2⟩:=have_sorted _ (Nat.le_refl (ent2 t).p.length) s1
 obtain ⟨s3,l3⟩:=have_sorted _ (Nat.le_refl (ent3 t ⟨#[]⟩).p.length) s2
 rw [mo_p1] at l1
 rw [mo_p2,List.length_append] at l2
 rw [mo_p3,List.length_append] at l3
 simp only [List.length_cons,List.length_nil] at d1 l2 l3
 omega
theorem mo_chg1 : chgErr (wrongU s1M.all).1 (moveErr s1M.seen dirB t) (s1M.renUp dirB t).length = 0 :=
 chgErr_zero.2 ⟨mo_wrong1,by rw [mo_seen1];exact moveE hn hd,by have:=mo_renUp1 hn hd;omega⟩
theorem moved_seen : seenU (s1M.renUp dirB t :: s1M.lows) = seenM t ⟨#[]⟩:=by
 have hdd : dirB.data.toList ≠ t.data.toList:=fun h => hd h.symm
 obtain ⟨h0,_,h2⟩:=ren_wrong (mo_chg1 hn hd)
 obtain ⟨hp,_⟩:=h2 hdd
 have hr : Right false (seenU (s1M.renUp dirB t :: s1M.lows)):=seenU_right _
 have hm : movedPre s1M.seen dirB t = seenM t ⟨#[]⟩:=by
  unfold movedPre
  rw [mo_seen1,mo_rem1 hn hd,base_eq]
  show [mvE dirB t entD6,mvE dirB t entA6,mvE dirB t entB6] = _
  rw [mo_mv1,mo_mv2,mo_mv3]
  rfl
 rw [hm] at hp
 exact sorted_ext hr.sorted (seenM_sorted t _) (fun x => hp.mem_iff)
end
noncomputable def sM (t : ByteArray) (U : List Ent) : Sy:=((s1M.release t).carry dirB t).withU U s1M.lows
theorem stepMW (t x : ByteArray) (U : List Ent) : (sM t U).stepR (moveW x) = ((sM t U).wrErr opM (carF dirB t (s1M.relF t flM)) x,(sM t U).wrDo 0 opM (carF dirB t (s1M.relF t flM)) x,ans x.size ⟨#[]⟩):=by kernel_rfl
theorem mo_rel1 {t : ByteArray} (hn : named t.data.toList = true) : carF dirB t (s1M.relF t flM) = fl2 t:=by
 have h1 : ¬ flM.path.data.toList = t.data.toList:=fun h => (named_free hn).1 47 (by rw [← h];decide) rfl
 unfold Sy.relF
 rw [if_neg h1]
 unfold carF
 rw [if_pos (by decide),show flM.path.extract dirB.size flM.path.size = ⟨#[47,98]⟩ by kernel_rfl]
 rfl
theorem mo_get3 (t x : ByteArray) : getL (seenM t x) (t.data.toList ++ [47,98]) = some (ent3 t x):=by
 have:=getL_of (seenM_sorted t x) (e:=ent3 t x) (by simp [seenM]) (by rw [mo_p3];simp)
 rwa [mo_p3] at this
theorem mo_sized3 : sizedL twoB 3 = twoB:=by kernel_rfl
theorem wrTextM (x : ByteArray) : wrText twoB x 3 = twoB ++ x:=by
 unfold wrText
 split
 ·rename_i h
  rw [show x = ⟨#[]⟩ from ba_ext h,two_none]
 ·rw [mo_sized3]
  have : (min (3 + (x.size : Int)) twoB.size).toNat = 3:=by have : twoB.size = 3:=rfl;omega
  rw [this,show twoB.extract 3 twoB.size = ⟨#[]⟩ by kernel_rfl]
  exact ba_ext (by simp)
theorem two_size (x : ByteArray) : (twoB ++ x).size = 3 + x.size:=by rw [ByteArray.size_append];rfl
theorem mo_path3 (t : ByteArray) : (fl2 t).path.data.toList = t.data.toList ++ [47,98]:=by simp [fl2]
section
variable {t x : ByteArray} (hn : named t.data.toList = true) (hd : ¬ t.data.toList = dirL) (hx : x.size ≤ 90)
include hn hd
theorem seen2M : (sM t (s1M.renUp dirB t)).seen = seenM t ⟨#[]⟩:=moved_seen hn hd
theorem text2M : (sM t (s1M.renUp dirB t)).textOf (fl2 t) = twoB:=by
 unfold Sy.textOf
 rw [mo_path3,if_neg (by simp),seen2M hn hd,mo_get3]
 exact two_none
theorem at2M : (sM t (s1M.renUp dirB t)).wrAt opM (fl2 t) = 3:=by
 unfold Sy.wrAt
 rw [if_pos (by decide),text2M hn hd]
 rfl
end
theorem dirM {t : ByteArray} (hn : named t.data.toList = true) (y : ByteArray) : noDirL (seenM t y) t.data.toList = 0 :=
 noDirL_zero.2 (.inr ⟨ent1 t,by simp [seenM],rfl,rfl,getL_of (seenM_sorted t y) (e:=ent1 t) (by simp [seenM]) (named_free hn).2.1⟩)
section
variable {t x : ByteArray} (hn : named t.data.toList = true) (hd : ¬ t.data.toList = dirL) (hx : x.size ≤ 90)
include hn hd
include hx
theorem mo_putM : putErr (seenM t ⟨#[]⟩) (ent3 t x) = 0:=by
 have hr : Right false (seenM t ⟨#[]⟩):=by rw [← seen2M hn hd];exact seenU_right _
 have hj : t.data.toList ++ [47,98] = joinL t.data.toList [98]:=(join_two (named_free hn).2.1).symm
 have ha : putAsk (seenM t ⟨#[]⟩) (ent3 t x) = 0:=by
  unfold putAsk
  have h2 : wrongE (ent3 t x) false = 0:=by
   have:=wrong_file (x:=twoB ++ x) (clean_two hn (c:=[98]) (by decide)) (by rw [two_size];omega)
   have e : baL (t.data.toList ++ 47 :: [98]) = t ++ ⟨#[47,98]⟩:=ba_ext (by simp [baL])
   rw [e] at this
   exact this
  rw [faultL_zero.2 hr,h2,mo_p3,hj,(dir_join (by decide)).1,dirM hn]
  rfl
 unfold putErr
 rw [if_pos ha,if_neg,if_neg]
 ·rintro ⟨h,_⟩
  exact h (ent3 t ⟨#[]⟩) (by simp [seenM]) (by rw [mo_p3,mo_p3])
 ·rintro ⟨y,hy,h1,h2⟩
  simp only [seenM,List.mem_cons,List.not_mem_nil,or_false] at hy
  rcases hy with rfl | rfl | rfl
  ·rw [mo_p1,mo_p3] at h1
   have:=congrArg List.length h1
   simp at this
  ·exact h2 rfl
  ·exact h2 rfl
end
theorem mo_upM {t x : ByteArray} (hn : named t.data.toList = true) (hd : ¬ t.data.toList = dirL) : (haveL (s1M.renUp dirB t) (ent3 t x)).length ≤ 80:=by
 obtain ⟨h0,_,_⟩:=ren_wrong (mo_chg1 hn hd)
 have hs : Sorted (s1M.renUp dirB t):=(union_parts (wrongU_zero.1 h0).2.1).2.1.sorted
 have:=(have_sorted _ (Nat.le_refl (ent3 t x).p.length) hs).2
 have:=mo_renUp1 hn hd
 have:=(named_free hn).2.2
 rw [mo_p3,List.length_append] at *
 simp only [List.length_cons,List.length_nil] at *
 omega
section
variable {t x : ByteArray} (hn : named t.data.toList = true) (hd : ¬ t.data.toList = dirL) (hx : x.size ≤ 90)
include hn hd
include hx
theorem mo_chgM : chgErr (wrongU (sM t (s1M.renUp dirB t)).all).1 (putErr (sM t (s1M.renUp dirB t)).seen (ent3 t x)) (haveL (sM t (s1M.renUp dirB t)).up (ent3 t x)).length = 0 :=
 chgErr_zero.2 ⟨(ren_wrong (mo_chg1 hn hd)).1,by rw [seen2M hn hd];exact mo_putM hn hd hx,mo_upM hn hd⟩
theorem wrErrM : (sM t (s1M.renUp dirB t)).wrErr opM (fl2 t) x = 0:=by
 unfold Sy.wrErr
 rw [if_neg (by decide),at2M hn hd,text2M hn hd,if_neg (by omega),wrTextM]
 unfold Sy.keepErr
 split
 ·rfl
 ·rw [mo_path3,if_neg (by simp)]
  exact mo_chgM hn hd hx
theorem seen3M : ((sM t (s1M.renUp dirB t)).wrDo 0 opM (fl2 t) x).seen = seenM t x:=by
 unfold Sy.wrDo
 rw [at2M hn hd,text2M hn hd,wrTextM]
 show ((sM t (s1M.renUp dirB t)).keepDo opM.file (fl2 t) (twoB ++ x)).seen = _
 unfold Sy.keepDo
 rw [text2M hn hd]
 split
 ·rename_i h
  rw [seen2M hn hd]
  have : x = ⟨#[]⟩:=ba_ext (List.eq_nil_of_length_eq_zero (by
   have:=congrArg List.length h
   rw [szl,szl,two_size] at this
   rw [szl]
   have h3 : twoB.size = 3:=rfl
   omega))
  rw [this]
 ·rw [mo_path3,if_neg (by simp),← seenM_put,← seen2M hn hd]
  exact put_seen _ _ (mo_chgM hn hd hx)
theorem moved_run : ∃ a0 a1 a2 a3 a4 a5 : An,(runB (movedL t x)).2 = [a0,a1,a2,a3,a4,a5] ∧ a1.err = 0 ∧ a3.text = twoB ++ x ∧ a4.names.length = 2 ∧ a5.err = 6:=by
 have q1 : s1M.rmQ dirB = dirL:=by unfold Sy.rmQ;rw [mo_seen1,show dirB.data.toList = dirL from rfl,mo_lead1]
 have q2 : s1M.rmQ t = t.data.toList:=by unfold Sy.rmQ;rw [mo_seen1,mo_leadT hn]
 have b1 : baL dirL = dirB:=rfl
 have hdd : ¬ dirB.data.toList = t.data.toList:=fun h => hd h.symm
 have hr2 : s1M.renDo dirB t = sM t (s1M.renUp dirB t):=by
  unfold Sy.renDo
  rw [q1,q2,b1,baL_self]
  unfold Sy.renamed
  rw [if_neg hdd]
  rfl
 have he2 : s1M.renErr dirB t = 0:=by
  have hno : ¬ (dirL = [] ∨ t.data.toList = []):=by
   rintro (h | h)
   ·cases h
   ·exact (named_free hn).2.1 h
  unfold Sy.renErr
  rw [mo_seen1,show dirB.data.toList = dirL from rfl,mo_lead1,mo_leadT hn,if_neg (by simp),if_neg (by simp),q1,q2,b1,baL_self,if_neg hno,← mo_seen1]
  exact mo_chg1 hn hd
 have e2 : s1M.answer (moveR t) = (sM t (s1M.renUp dirB t),noAns):=by
  unfold Sy.answer
  rw [mo_step1,he2,if_pos rfl,hr2]
 have e3 : (sM t (s1M.renUp dirB t)).answer (moveW x) = ((sM t (s1M.renUp dirB t)).wrDo 0 opM (fl2 t) x,ans x.size ⟨#[]⟩):=by
  unfold Sy.answer
  rw [stepMW,mo_rel1 hn,wrErrM hn hd hx,if_pos rfl]
 have hse:=seen3M hn hd hx
 generalize (sM t (s1M.renUp dirB t)).wrDo 0 opM (fl2 t) x = s3 at e3 hse
 have hr : Right false (seenM t x):=by rw [← hse];exact seenU_right _
 have l3 : leadL (seenM t x) true (t.data.toList ++ [47,98]) = (0,t.data.toList ++ [47,98]):=by
  have:=lead_at hr (fo:=true) (e:=ent3 t x) (by simp [seenM]) (by intro h;cases h)
  rwa [mo_p3] at this
 have l4 : leadL (seenM t x) true t.data.toList = (0,t.data.toList):=lead_at hr (fo:=true) (e:=ent1 t) (by simp [seenM]) (by intro h;cases h)
 have g5 : getL (seenM t x) dirL = none:=by
  refine getL_none_of (by decide) fun e he h => ?_
  have hf : ∀ c ∈ dirL,c ≠ 47:=by decide
  simp only [seenM,List.mem_cons,List.not_mem_nil,or_false] at he
  rcases he with rfl | rfl | rfl
  ·exact hd h
  ·rw [mo_p2] at h;exact hf 47 (by rw [← h];simp) rfl
  ·rw [mo_p3] at h;exact hf 47 (by rw [← h];simp) rfl
 have l5 : leadL (seenM t x) true dirL = (0,dirL) :=
  lead_in hr (d:=[]) (n:=dirL) (noDirL_zero.2 (.inl rfl)) (by decide) (by decide) (fun h => by rw [show joinL [] dirL = dirL from rfl,g5] at h;cases h)
 have ha4 : ∃ a4,s3.answer (moveT t) = (s3,a4) ∧ a4.text = twoB ++ x:=by
  have e1 : s3.stepR (moveT t) = (s3.statErr (t ++ ⟨#[47,98]⟩),s3,s3.statAns (t ++ ⟨#[47,98]⟩)):=rfl
  have ew : (t ++ (⟨#[47,98]⟩ : ByteArray)).data.toList = t.data.toList ++ [47,98]:=by simp
  have e2 : s3.statErr (t ++ ⟨#[47,98]⟩) = 0:=by
   unfold Sy.statErr
   rw [hse,ew,l3,if_neg (by simp),mo_get3]
   rfl
  refine ⟨s3.statAns (t ++ ⟨#[47,98]⟩),by unfold Sy.answer;rw [e1,e2,if_pos rfl],?_⟩
  unfold Sy.statAns
  rw [hse,ew,l3,mo_get3]
  rfl
 have ha5 : ∃ a5,s3.answer (moveI t) = (s3,a5) ∧ a5.names.length = 2:=by
  have e1 : s3.stepR (moveI t) = (s3.listErr t,s3,s3.listAns t):=rfl
  have hl : listL (seenM t x) t.data.toList = ([[97],[98]],0):=by
   unfold listL namesL
   rw [if_pos (dirM hn x)]
   have d1 : ¬ dirOf (ent1 t).p = t.data.toList:=by
    rw [mo_p1,show dirOf t.data.toList = [] from (dir_join (d:=[]) hn).1]
    exact fun h => (named_free hn).2.1 h.symm
   have j2 : (ent2 t).p = joinL t.data.toList [97]:=by rw [mo_p2,join_two (named_free hn).2.1]
   have j3 : (ent3 t x).p = joinL t.data.toList [98]:=by rw [mo_p3,join_two (named_free hn).2.1]
   have d2 : dirOf (ent2 t).p = t.data.toList ∧ (cutL (ent2 t).p).2 = [97]:=by rw [j2];exact dir_join (by decide)
   have d3 : dirOf (ent3 t x).p = t.data.toList ∧ (cutL (ent3 t x).p).2 = [98]:=by rw [j3];exact dir_join (by decide)
   simp [seenM,d1,d2.1,d2.2,d3.1,d3.2]
  have e2 : s3.listErr t = 0:=by
   unfold Sy.listErr
   rw [hse,l4,if_neg (by simp),hl]
  refine ⟨s3.listAns t,by unfold Sy.answer;rw [e1,e2,if_pos rfl],?_⟩
  unfold Sy.listAns
  rw [hse,l4,hl]
  rfl
 have ha6 : ∃ a6,s3.answer moveD = (s3,a6) ∧ a6.err = 6:=by
  have e1 : s3.stepR moveD = (s3.statErr dirB,s3,s3.statAns dirB):=rfl
  have e2 : s3.statErr dirB = 6:=by
   unfold Sy.statErr
   rw [hse,show dirB.data.toList = dirL from rfl,l5,if_neg (by simp),g5]
   rfl
  refine ⟨errAns 6,?_,rfl⟩
  unfold Sy.answer
  rw [e1,e2,if_neg (by show ¬ (6 : Int) = 0;decide)]
 obtain ⟨a4,h4,t4⟩:=ha4
 obtain ⟨a5,h5,t5⟩:=ha5
 obtain ⟨a6,h6,t6⟩:=ha6
 have hs1 : ((startS [] [base6]).answer moveO).1 = s1M:=by kernel_rfl
 refine ⟨((startS [] [base6]).answer moveO).2,noAns,ans x.size ⟨#[]⟩,a4,a5,a6,?_,rfl,t4,t5,t6⟩
 unfold runB movedL
 simp only [Sy.run]
 rw [hs1,e2]
 simp only [e3,h4,h5,h6]
end
theorem named_size {t : ByteArray} (hn : named t.data.toList = true) : t.size ≤ 12:=by
 have:=(named_free hn).2.2
 rwa [szl] at this
theorem moved_play (t x : ByteArray) (hn : named t.data.toList = true) (hd : ¬ t.data.toList = dirL) (hx : x.size ≤ 90) (W : World) (b b' H cc : Nat) (hU : UnOK W ⟨none,0,[]⟩ [⟨some ⟨b,0,none⟩,3,base6⟩] (some ⟨b',0,none⟩) 1) (hG : Gl W.heap.size W) (hC : LiesC W (some ⟨H,0,none⟩) (movedL t x)) :
  Calls Tryz.prog 16 #[.agg #[.slice none 0 0,.slice (some ⟨b',0,none⟩) 1 1],.slice (some ⟨H,0,none⟩) 6 cc] W (fun r w' => ∃ a0 k0 c0 a1 k1 c1 ps sn sc op b ac q c,r = .returned (.tuple #[.agg #[.slice a0 k0 c0,.slice a1 k1 c1,.slice ps sn sc,.int .i64 op],.slice (some ⟨b,0,none⟩) 6 ac,.int .i64 0]) ∧ w'.cell? ⟨b,4,none⟩ = some (.int .i64 0) ∧ w'.cell? ⟨b,14,none⟩ = some (.string (⟨#[116,119,111]⟩ ++ x)) ∧ w'.cell? ⟨b,19,none⟩ = some (.slice q 2 c) ∧ w'.cell? ⟨b,20,none⟩ = some (.int .i64 6) ∧ Below W.heap.size W w'):=by
 have ht:=named_size hn
 refine (top_play (movedL t x) 6 rfl (by show 6 ≤ 80;decide) (by simp [movedL]) (fun c hc => by
  simp only [movedL,List.mem_cons,List.not_mem_nil,or_false] at hc
  rcases hc with rfl | rfl | rfl | rfl | rfl | rfl
  ·exact ⟨Nat.le_of_ble_eq_true rfl,Nat.le_of_ble_eq_true rfl,Nat.le_of_ble_eq_true rfl⟩
  ·exact ⟨Nat.le_of_ble_eq_true rfl,by show t.size ≤ _;omega,Nat.le_of_ble_eq_true rfl⟩
  ·exact ⟨Nat.le_of_ble_eq_true rfl,Nat.le_of_ble_eq_true rfl,by show x.size ≤ _;omega⟩
  ·exact ⟨by show (t ++ (⟨#[47,98]⟩ : ByteArray)).size ≤ _;rw [ByteArray.size_append];show t.size + 2 ≤ _;omega,Nat.le_of_ble_eq_true rfl,Nat.le_of_ble_eq_true rfl⟩
  ·exact ⟨by show t.size ≤ _;omega,Nat.le_of_ble_eq_true rfl,Nat.le_of_ble_eq_true rfl⟩
  ·exact ⟨Nat.le_of_ble_eq_true rfl,Nat.le_of_ble_eq_true rfl,Nat.le_of_ble_eq_true rfl⟩) W b b' H cc hU hG hC).mono fun r w' ⟨y,pl,cl,ps,sc,yn,ln,sn,op,b1,ac,e,hB,hh⟩ => ?_
 obtain ⟨_,_,_,e4⟩:=hh.out
 obtain ⟨a0,a1,a2,a3,a4,a5,hr,h1,h3,h4,h5⟩:=moved_run hn hd hx
 obtain ⟨_,_,_,g1,_⟩:=e4 1 a1 (by rw [hr];rfl)
 obtain ⟨_,_,_,_,_,g3,_⟩:=e4 3 a3 (by rw [hr];rfl)
 obtain ⟨q4,c4,bs4,_,_,_,g4,hm,_⟩:=e4 4 a4 (by rw [hr];rfl)
 obtain ⟨_,_,_,g5,_⟩:=e4 5 a5 (by rw [hr];rfl)
 have hl : bs4.length = 2:=by rw [← h4,← hm,List.length_map]
 rw [h1] at g1
 rw [h3] at g3
 rw [hl] at g4
 rw [h5] at g5
 exact ⟨_,_,_,_,_,_,_,_,_,_,_,_,q4,c4,e,g1,g3,g4,g5,hB⟩
set_option maxRecDepth 100000 in
set_option maxHeartbeats 1000000 in
theorem topMoved_in (t x : ByteArray) (hm : t.size ≤ maxLen) (hn : named t.data.toList = true) (hd : ¬ t.data.toList = dirL) (hx : x.size ≤ 90) (w : World) (hg : Gl w.heap.size w) : TrueC 13 #[.string t,.string x] w:=by
 have hal:=topAlive_any w hg
 have hpl:=moved_play t x hn hd hx
 have HG : Aside (Gl w.heap.size w):=hg
 have n1 : ¬ (90 : Int) < (x.size : Int):=by omega
 have n2 : ¬ 90 < x.size:=by omega
 have hne : (t.toList == [100,105,114]) = false:=beq_lit _ _ false (by simpa [dirL] using hd)
 have hnm:=hn
 have ht:=named_size hn
 have z1 : (9223372036854775807 < t.size + 2) = False:=by simp;omega
 have z2 : (9223372036854775807 < 3 + x.size) = False:=by simp;omega
 have hnd:=fun w => named_any t w hm
 rw [hnm] at hnd
 clear hg hx hn hd ht hnm hm
 go_enter Tryz.func13,Tryz.ntmps13
 go_wp2_with (first
  | (go_at_call 32;refine hal.mono ?_;clear hal;rintro r w2 ⟨rfl,hB2⟩;have H4 : Aside (Below w.heap.size w w2):=hB2;clear hB2)
  | (go_at_call 37;refine (hnd _).mono ?_;clear hnd;rintro r w3 ⟨rfl,rfl⟩)
  | (go_at_call 33;refine (open_call _ _ _).mono ?_;rintro r w4 ⟨rfl,hB4⟩;replace H4 : Aside (Below w.heap.size w w4):=Below.onto H4.out hB4;clear hB4)
  | (go_at_call 34;refine (on_call _ _ _ _ _).mono ?_;rintro r w4 ⟨rfl,hB4⟩;replace H4 : Aside (Below w.heap.size w w4):=Below.onto H4.out hB4;clear hB4)
  | (go_at_call 35;refine (at_call _ _ _ _).mono ?_;rintro r w4 ⟨rfl,hB4⟩;replace H4 : Aside (Below w.heap.size w w4):=Below.onto H4.out hB4;clear hB4)
  | (go_at_call 36;refine (base_any _).mono ?_;rintro r w5 ⟨b,b',rfl,hU,hB5⟩;have H5 : Aside (UnOK w5 ⟨none,0,[]⟩ [⟨some ⟨b,0,none⟩,3,base6⟩] (some ⟨b',0,none⟩) 1 ∧ Below w.heap.size w w5 ∧ LiesC w5 (some ⟨w4.heap.size,0,none⟩) (movedL t x)):=⟨hU,Below.onto (H4.out.alloc H4.out.size _) hB5,(liesC_new w4 (movedL t x) _ rfl).kept hB5⟩;clear hU hB5 H4)
  | (go_at_call 16;refine (hpl w5 b b' _ _ H5.out.1 (HG.out.up H5.out.2.1) H5.out.2.2).mono ?_;clear hpl;rintro r w6 ⟨a0,k0,c0,a1,k1,c1,ps,sn,sc,op,b1,ac,q,c,rfl,q1,q3,q4,q5,hB6⟩;have H6 : Aside (Below w.heap.size w w6):=Below.onto H5.out.2.1 hB6;clear hB6 H5;replace q1:=Lib.cell?_alloc_some (.cells #[.slice a0 k0 c0,.slice a1 k1 c1,.slice ps sn sc,.int .i64 op] 29) q1;replace q3:=Lib.cell?_alloc_some (.cells #[.slice a0 k0 c0,.slice a1 k1 c1,.slice ps sn sc,.int .i64 op] 29) q3;replace q4:=Lib.cell?_alloc_some (.cells #[.slice a0 k0 c0,.slice a1 k1 c1,.slice ps sn sc,.int .i64 op] 29) q4;replace q5:=Lib.cell?_alloc_some (.cells #[.slice a0 k0 c0,.slice a1 k1 c1,.slice ps sn sc,.int .i64 op] 29) q5))
 go_ret
 first
  | exact ⟨by simp,H6.out⟩
  | exact ⟨by simp,H6.out.alloc H6.out.size _⟩
theorem topMoved_noName (t x : ByteArray) (hm : t.size ≤ maxLen) (h : named t.data.toList = false) (w : World) (hg : Gl w.heap.size w) : TrueC 13 #[.string t,.string x] w:=by
 have hal:=topAlive_any w hg
 have hnd:=fun w => named_any t w hm
 rw [h] at hnd
 clear hg h hm
 go_enter Tryz.func13,Tryz.ntmps13
 go_wp2_with (first
  | (go_at_call 32;refine hal.mono ?_;clear hal;rintro r w2 ⟨rfl,hB2⟩;have H2 : Aside (Below w.heap.size w w2):=hB2;clear hB2)
  | (go_at_call 37;refine (hnd _).mono ?_;clear hnd;rintro r w3 ⟨rfl,rfl⟩))
 all_goals go_ret
 all_goals exact ⟨rfl,H2.out⟩
theorem topMoved_dir (t x : ByteArray) (hm : t.size ≤ maxLen) (h : named t.data.toList = true) (hd : t.data.toList = dirL) (w : World) (hg : Gl w.heap.size w) : TrueC 13 #[.string t,.string x] w:=by
 have hal:=topAlive_any w hg
 have hnd:=fun w => named_any t w hm
 have hne : (t.toList == [100,105,114]) = true:=beq_lit _ _ true (by rw [hd];rfl)
 rw [h] at hnd
 clear hg h hd hm
 go_enter Tryz.func13,Tryz.ntmps13
 go_wp2_with (first
  | (go_at_call 32;refine hal.mono ?_;clear hal;rintro r w2 ⟨rfl,hB2⟩;have H2 : Aside (Below w.heap.size w w2):=hB2;clear hB2)
  | (go_at_call 37;refine (hnd _).mono ?_;clear hnd;rintro r w3 ⟨rfl,rfl⟩))
 all_goals go_ret
 all_goals exact ⟨rfl,H2.out⟩
theorem topMoved_long (t x : ByteArray) (hm : t.size ≤ maxLen) (h : named t.data.toList = true) (hd : ¬ t.data.toList = dirL) (hx : ¬ x.size ≤ 90) (w : World) (hg : Gl w.heap.size w) : TrueC 13 #[.string t,.string x] w:=by
 have hal:=topAlive_any w hg
 have hnd:=fun w => named_any t w hm
 have hne : (t.toList == [100,105,114]) = false:=beq_lit _ _ false (by simpa [dirL] using hd)
 have n1 : (90 : Int) < (x.size : Int):=by omega
 have n2 : 90 < x.size:=by omega
 rw [h] at hnd
 clear hg h hd hx hm
 go_enter Tryz.func13,Tryz.ntmps13
 go_wp2_with (first
  | (go_at_call 32;refine hal.mono ?_;clear hal;rintro r w2 ⟨rfl,hB2⟩;have H2 : Aside (Below w.heap.size w w2):=hB2;clear hB2)
  | (go_at_call 37;refine (hnd _).mono ?_;clear hnd;rintro r w3 ⟨rfl,rfl⟩))
 all_goals go_ret
 all_goals exact ⟨rfl,H2.out⟩
theorem topMoved_law (t x : ByteArray) (hm : t.size ≤ maxLen) (w : World) (hg : Gl w.heap.size w) : TrueC 13 #[.string t,.string x] w:=by
 cases hn : named t.data.toList with
 | false => exact topMoved_noName t x hm hn w hg
 | true =>
  by_cases hd : t.data.toList = dirL
  ·exact topMoved_dir t x hm hn hd w hg
  ·by_cases hx : x.size ≤ 90
   ·exact topMoved_in t x hm hn hd hx w hg
   ·exact topMoved_long t x hm hn hd hx w hg
end Go.Proofs.YthfeoiffoeagkaaGreatDoor
