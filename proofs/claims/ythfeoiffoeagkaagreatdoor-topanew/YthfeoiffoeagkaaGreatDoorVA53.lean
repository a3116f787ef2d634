/-
  Where a clean path leads.
-/
import Derived.Test.YthfeoiffoeagkaaGreatDoorVA50
namespace Go.Proofs.YthfeoiffoeagkaaGreatDoor
open Go.RowKit PM Go.Sort
set_option linter.unusedVariables false
theorem named_free {n : List UInt8} (h : named n = true) : (∀ c ∈ n,c ≠ 47) ∧ n ≠ [] ∧ n.length ≤ 12:=by
 simp only [named,Bool.and_eq_true,decide_eq_true_eq,List.all_eq_true] at h
 obtain ⟨⟨h1,h2⟩,h3⟩:=h
 refine ⟨fun c hc e => ?_,?_,h2⟩
 ·subst e;exact absurd (h3 47 hc) (by decide)
 ·rintro rfl;simp at h1
theorem parseP_named : ∀ L : List (List UInt8),(∀ p ∈ L,named p = true) → parseP L = some L
 | [],_ => rfl
 | p :: r,h => by
  have hp:=h p (by simp)
  obtain ⟨_,h0,_⟩:=named_free hp
  have h1 : p ≠ [46]:=by rintro rfl;exact absurd hp (by decide)
  have hs : skip p = false:=by simp [skip,h0,h1]
  have hb : bad p = false:=by simp [bad,hp]
  rw [parseP,hs,hb,parseP_named r (fun x hx => h x (by simp [hx]))]
  rfl
theorem parse_clean {l : List UInt8} (h : clean l = true) : parseL l = (parts l,0):=by
 have hne:=clean_ne h
 simp only [clean,Bool.and_eq_true,decide_eq_true_eq,List.all_eq_true] at h
 unfold parseL
 rw [if_neg (by omega),if_neg (by cases l with | nil => exact absurd rfl hne | cons => simp),parseP_named _ h.2]
def plD (d : List UInt8) : List (List UInt8):=if d = [] then [] else parts d
theorem parts_join {d n : List UInt8} (hn : named n = true) : parts (joinL d n) = plD d ++ [n]:=by
 obtain ⟨hf,_,_⟩:=named_free hn
 unfold joinL plD
 cases d with
 | nil => exact parts_free n hf
 | cons c r =>
  rw [if_neg (by simp),if_neg (by simp)]
  exact parts_last _ n hf
theorem go_straight {seen : List Ent} {fo : Bool} {a n : List UInt8} {r : List (List UInt8)} {h : Nat} (hd : noDirL seen a = 0) (hn : named n = true) (hk : ((getL seen (joinL a n)).getD zeroE).kind = 3 → r = [] ∧ fo = false) : goL seen fo a n r h = (0,joinL a n,r,h):=by
 unfold goL
 rw [if_neg (by simp [hd]),if_neg (by rintro rfl;exact absurd hn (by decide)),if_neg]
 rintro ⟨h1,h2⟩
 obtain ⟨g1,g2⟩:=hk h1
 rcases h2 with h2 | h2
 ·exact h2 g1
 ·rw [g2] at h2;cases h2
theorem lead_go {seen : List Ent} (hr : Right false seen) (fo : Bool) : ∀ (k : Nat) (d : List UInt8),d.length ≤ k → noDirL seen d = 0 → ∀ (g : Nat) (rest : List (List UInt8)) (h : Nat),leadN seen fo (g + (plD d).length) [] (plD d ++ rest) h = leadN seen fo g d rest h:=by
 intro k
 induction k with
 | zero =>
  intro d hk hd g rest h
  have : d = []:=List.length_eq_zero_iff.1 (by omega)
  subst this
  rfl
 | succ k ih =>
  intro d hk hd g rest h
  by_cases h0 : d = []
  ·subst h0;rfl
  ·rcases noDirL_zero.1 hd with e | ⟨e,he,hp,hkd,hg⟩
   ·exact absurd e h0
   have hc:=hr.clean he
   rw [hp] at hc
   obtain ⟨hj,hn,_⟩:=clean_cut d hc
   have hdd : noDirL seen (dirOf d) = 0:=by
    rcases hr.dir e he with g' | ⟨d',hd',hdp,hdk⟩
    ·rw [hp] at g';rw [g'];exact noDirL_zero.2 (.inl rfl)
    ·rw [hp] at hdp
     exact noDirL_zero.2 (.inr ⟨d',hd',hdp,hdk,by rw [← hdp];exact getL_of hr.sorted hd' (hr.ne hd')⟩)
   have hpt : plD d = plD (dirOf d) ++ [(cutL d).2]:=by
    rw [← parts_join hn]
    show plD d = parts (joinL (cutL d).1 (cutL d).2)
    rw [hj,plD,if_neg h0]
   rw [hpt,List.append_assoc,List.length_append,List.length_singleton,show g + ((plD (dirOf d)).length + 1) = (g + 1) + (plD (dirOf d)).length by omega,ih (dirOf d) (by have:=dirOf_short h0;omega) hdd (g + 1)]
   show leadN seen fo (g + 1) (dirOf d) ((cutL d).2 :: rest) h = _
   have hj' : joinL (dirOf d) (cutL d).2 = d:=hj
   rw [leadN,go_straight hdd hn (fun h3 => by rw [hj',hg] at h3;simp [hkd] at h3),if_pos rfl,hj']
theorem clean_join {seen : List Ent} (hr : Right false seen) {d n : List UInt8} (hd : noDirL seen d = 0) (hn : named n = true) (hl : (joinL d n).length ≤ 80) : clean (joinL d n) = true:=by
 simp only [clean,Bool.and_eq_true,decide_eq_true_eq,List.all_eq_true]
 refine ⟨hl,fun p hp => ?_⟩
 rw [parts_join hn] at hp
 rcases List.mem_append.1 hp with hp | hp
 ·unfold plD at hp
  split at hp
  ·cases hp
  ·rename_i h0
   rcases noDirL_zero.1 hd with e | ⟨e,he,hpe,_⟩
   ·exact absurd e h0
   ·have hc:=hr.clean he
    rw [hpe] at hc
    simp only [clean,Bool.and_eq_true,decide_eq_true_eq,List.all_eq_true] at hc
    exact hc.2 p hp
 ·rw [List.mem_singleton] at hp;rw [hp];exact hn
theorem lead_in {seen : List Ent} (hr : Right false seen) {fo : Bool} {d n : List UInt8} (hd : noDirL seen d = 0) (hn : named n = true) (hl : (joinL d n).length ≤ 80) (hk : ((getL seen (joinL d n)).getD zeroE).kind = 3 → fo = false) : leadL seen fo (joinL d n) = (0,joinL d n):=by
 have hc:=clean_join hr hd hn hl
 have hp:=parse_clean hc
 have hL : leadN seen fo 1100 [] (parts (joinL d n)) 0 = (0,joinL d n):=by
  have h1 : (parts (joinL d n)).length ≤ 81:=by have:=parts_length (joinL d n);omega
  rw [parts_join hn] at h1 ⊢
  rw [List.length_append,List.length_singleton] at h1
  rw [show 1100 = (1098 - (plD d).length + 2) + (plD d).length by omega,lead_go hr fo _ d (Nat.le_refl _) hd,leadN,go_straight hd hn (fun h3 => ⟨rfl,hk h3⟩),if_pos rfl,leadN]
 unfold leadL
 rw [hp]
 simp only [hL]
 rw [if_neg (by simp),if_neg (by simp),if_neg (by omega)]
theorem lead_at {seen : List Ent} (hr : Right false seen) {fo : Bool} {e : Ent} (he : e ∈ seen) (hk : e.kind = 3 → fo = false) : leadL seen fo e.p = (0,e.p):=by
 have hc:=hr.clean he
 obtain ⟨hj,hn,_⟩:=clean_cut e.p hc
 have hl : e.p.length ≤ 80:=by simp only [clean,Bool.and_eq_true,decide_eq_true_eq] at hc;exact hc.1
 have hj' : joinL (dirOf e.p) (cutL e.p).2 = e.p:=hj
 have hdd : noDirL seen (dirOf e.p) = 0:=by
  rcases hr.dir e he with g' | ⟨d',hd',hdp,hdk⟩
  ·rw [g'];exact noDirL_zero.2 (.inl rfl)
  ·exact noDirL_zero.2 (.inr ⟨d',hd',hdp,hdk,by rw [← hdp];exact getL_of hr.sorted hd' (hr.ne hd')⟩)
 have:=lead_in hr (fo:=fo) hdd hn (by rw [hj'];exact hl) (fun h3 => hk (by rw [hj',getL_of hr.sorted he (hr.ne he)] at h3;exact h3))
 rwa [hj'] at this
def pathB : ByteArray:=⟨#[100,105,114,47,98]⟩
def dirB : ByteArray:=⟨#[100,105,114]⟩
def dirL : List UInt8:=[100,105,114]
theorem up_seen (s : Sy) (q : ByteArray) (use : Int) (n : Nat) : (s.opened q use n).seen = s.seen:=by
 unfold Sy.opened Sy.fileAt
 split <;> rfl
theorem open_seen (s : Sy) (o : Nat) (n : Int) (p : ByteArray) : (s.openTo o n p).seen = seenU (s.readyUp (s.opL n p).2 n :: s.lows):=by
 unfold Sy.openTo
 rw [up_seen]
 rfl
theorem ready_new (s : Sy) (q : List UInt8) (n : Int) (h : ¬ s.asIs q n) : s.readyUp q n = haveL s.up ⟨baL q,1,⟨#[]⟩,false⟩:=by
 unfold Sy.readyUp
 rw [if_neg h]
theorem put_seen (s : Sy) (e : Ent) (h : chgErr (wrongU s.all).1 (putErr s.seen e) (haveL s.up e).length = 0) : seenU (haveL s.up e :: s.lows) = putL s.seen e:=(put_wrong h).2
theorem wrong_file {q : List UInt8} {x : ByteArray} (h : clean q = true) (hx : x.size ≤ 100) : wrongE ⟨baL q,1,x,false⟩ false = 0:=by
 unfold wrongE
 have hc : clean (Ent.p ⟨baL q,1,x,false⟩) = true:=by simpa [Ent.p,baL] using h
 rw [hc]
 simp
 omega
theorem dir_join {d n : List UInt8} (hn : named n = true) : dirOf (joinL d n) = d ∧ (cutL (joinL d n)).2 = n:=by
 obtain ⟨hf,_,_⟩:=named_free hn
 unfold joinL dirOf
 cases d with
 | nil => rw [if_pos (show ([] : List UInt8).isEmpty = true from rfl),cutL_free n hf];exact ⟨rfl,rfl⟩
 | cons c r => rw [if_neg (by simp),cutL_slash _ n hf];exact ⟨rfl,rfl⟩
def anew4 : List Cl:=[⟨8,0,0,0,0,pathA,⟨#[]⟩,⟨#[]⟩,false⟩,⟨8,0,0,0,0,pathB,⟨#[]⟩,⟨#[]⟩,false⟩,⟨7,0,0,0,0,dirB,⟨#[]⟩,⟨#[]⟩,false⟩,⟨6,0,0,0,0,dirB,⟨#[]⟩,⟨#[]⟩,false⟩]
def anewO (n : ByteArray) : Cl:=⟨1,0,0,26,0,⟨#[100,105,114,47]⟩ ++ n,⟨#[]⟩,⟨#[]⟩,false⟩
def anewI : Cl:=⟨11,0,0,0,0,dirB,⟨#[]⟩,⟨#[]⟩,false⟩
def anewL (n : ByteArray) : List Cl:=anew4 ++ [anewO n] ++ [anewI]
noncomputable def s4A : Sy:=(runB anew4).1
theorem an_seen4 : s4A.seen = [entD6]:=by kernel_rfl
theorem an_wrong4 : (wrongU s4A.all).1 = 0:=by kernel_rfl
theorem an_free4 : s4A.freeOf 0 = 0:=by kernel_rfl
theorem an_up4 : s4A.up.length = 1:=by kernel_rfl
theorem an_errs4 : (runB anew4).2.map (·.err) = [0,0,0,0]:=by kernel_rfl
theorem an_step4 (n : ByteArray) : s4A.stepR (anewO n) = (s4A.openErr 0 26 (⟨#[100,105,114,47]⟩ ++ n),s4A.openTo 0 26 (⟨#[100,105,114,47]⟩ ++ n),ans (s4A.freeOf 0) ⟨#[]⟩):=by kernel_rfl
theorem an_right4 : Right false [entD6]:=faultL_zero.1 (by kernel_rfl)
theorem an_no4 : noDirL [entD6] dirL = 0:=by kernel_rfl
theorem an_way4 (n : ByteArray) : (ByteArray.mk #[100,105,114,47] ++ n).data.toList = joinL dirL n.data.toList:=by
 simp [joinL,dirL]
def entN (n : ByteArray) : Ent:=⟨baL (joinL dirL n.data.toList),1,⟨#[]⟩,false⟩
theorem entN_p (n : ByteArray) : (entN n).p = joinL dirL n.data.toList:=by simp [Ent.p,entN,baL]
section
variable {n : ByteArray} (hn : named n.data.toList = true)
include hn
theorem an_len4 : (joinL dirL n.data.toList).length ≤ 80:=by
 have:=(named_free hn).2.2
 have:=join_len dirL n.data.toList
 have : dirL.length = 3:=rfl
 omega
end
theorem an_get4 {n : ByteArray} : getL [entD6] (joinL dirL n.data.toList) = none:=by
 refine getL_none_of (by simp [joinL,dirL]) fun e he => ?_
 rw [List.mem_singleton] at he
 subst he
 intro h
 have:=congrArg List.length h
 simp [joinL,dirL,entD6,Ent.p] at this
section
variable {n : ByteArray} (hn : named n.data.toList = true)
include hn
theorem an_lead4 (fo : Bool) : leadL [entD6] fo (joinL dirL n.data.toList) = (0,joinL dirL n.data.toList) :=
 lead_in an_right4 an_no4 hn (an_len4 hn) (fun h3 => by rw [an_get4] at h3;exact absurd h3 (by decide))
end
theorem an_cmp4 {n : ByteArray} : cmp entD6.p (entN n).p < 0:=by
 rw [entN_p]
 exact cmp_under dirL n.data.toList
section
variable {n : ByteArray} (hn : named n.data.toList = true)
include hn
theorem an_putE4 : putErr [entD6] (entN n) = 0:=by
 have ha : putAsk [entD6] (entN n) = 0:=by
  unfold putAsk
  have h1 : (faultL false [entD6]).1 = 0:=by kernel_rfl
  have h2 : wrongE (entN n) false = 0:=wrong_file (clean_join an_right4 an_no4 hn (an_len4 hn)) (by decide)
  rw [h1,h2,entN_p,(dir_join hn).1,an_no4]
  rfl
 unfold putErr
 rw [if_pos ha,if_neg,if_neg]
 ·rintro ⟨_,h⟩
  cases h
 ·rintro ⟨y,hy,h1,h2⟩
  rw [List.mem_singleton] at hy
  subst hy
  have:=an_cmp4 (n:=n)
  rw [h1,cmp_self] at this
  omega
end
theorem an_put4 {n : ByteArray} : putL [entD6] (entN n) = [entD6,entN n]:=by
 have h:=an_cmp4 (n:=n)
 have h2 : ¬ 0 < cmp entD6.p (entN n).p:=by omega
 unfold putL
 simp [h,h2]
section
variable {n : ByteArray} (hn : named n.data.toList = true)
include hn
theorem an_chg4 : chgErr (wrongU s4A.all).1 (putErr s4A.seen (entN n)) (haveL s4A.up (entN n)).length = 0:=by
 refine chgErr_zero.2 ⟨an_wrong4,by rw [an_seen4];exact an_putE4 hn,?_⟩
 have hs : Sorted s4A.up:=by
  have:=an_up4
  match h : s4A.up,this with
  | [a],_ => exact List.pairwise_singleton _ a
 have:=(have_sorted _ (Nat.le_refl (entN n).p.length) hs).2
 have:=an_len4 hn
 have h3 : (entN n).p.length ≤ 16:=by
  rw [entN_p]
  have:=(named_free hn).2.2
  have:=join_len dirL n.data.toList
  have : dirL.length = 3:=rfl
  omega
 rw [an_up4] at *
 omega
theorem an_opL4 : s4A.opL 26 (⟨#[100,105,114,47]⟩ ++ n) = (0,joinL dirL n.data.toList):=by
 unfold Sy.opL
 rw [an_seen4,an_way4]
 exact an_lead4 hn _
end
theorem an_none4 {n : ByteArray} : getL s4A.seen (joinL dirL n.data.toList) = none:=by rw [an_seen4];exact an_get4
theorem an_asIs4 {n : ByteArray} : ¬ s4A.asIs (joinL dirL n.data.toList) 26:=by
 unfold Sy.asIs
 rw [an_none4]
 simp
section
variable {n : ByteArray} (hn : named n.data.toList = true)
include hn
theorem an_openE4 : s4A.openErr 0 26 (⟨#[100,105,114,47]⟩ ++ n) = 0:=by
 unfold Sy.openErr
 rw [if_neg (by decide),an_free4,if_neg (by decide),an_opL4 hn,if_neg (by simp)]
 unfold Sy.readyErr
 rw [an_none4,if_neg (by decide),if_neg (by simp),if_neg (by simp),if_neg (an_asIs4)]
 exact an_chg4 hn
theorem an_seen5 : (s4A.openTo 0 26 (⟨#[100,105,114,47]⟩ ++ n)).seen = [entD6,entN n]:=by
 rw [open_seen,an_opL4 hn,ready_new _ _ _ (an_asIs4)]
 show seenU (haveL s4A.up (entN n) :: s4A.lows) = _
 rw [put_seen s4A _ (an_chg4 hn),an_seen4,an_put4]
theorem an_right5 : Right false [entD6,entN n]:=by
 rw [← an_put4]
 exact (put_okU (an_putE4 hn)).2.2
theorem an_list5 : listL [entD6,entN n] dirL = ([n.data.toList],0):=by
 have h0 : noDirL [entD6,entN n] dirL = 0:=noDirL_zero.2 (.inr ⟨entD6,by simp,rfl,rfl,rfl⟩)
 unfold listL namesL
 rw [if_pos h0]
 have h1 : dirOf entD6.p ≠ dirL:=by decide
 have h2 : dirOf (entN n).p = dirL:=by rw [entN_p];exact (dir_join hn).1
 have h3 : (cutL (entN n).p).2 = n.data.toList:=by rw [entN_p];exact (dir_join hn).2
 simp [h1,h2,h3]
theorem anew_run : (runB (anewL n)).2.map (·.err) = [0,0,0,0,0,0] ∧ ((runB (anewL n)).2[5]?).map (·.names) = some [n.data.toList] ∧ (runB (anewL n)).1.seen.length = 2:=by
 obtain ⟨s5,hs5⟩ : ∃ s5,s4A.openTo 0 26 (⟨#[100,105,114,47]⟩ ++ n) = s5:=⟨_,rfl⟩
 have h5 : s4A.answer (anewO n) = (s5,ans 0 ⟨#[]⟩):=by
  unfold Sy.answer
  rw [an_step4,an_openE4 hn,if_pos rfl,an_free4,hs5]
 have hse:=an_seen5 hn
 rw [hs5] at hse
 have hl : leadL s5.seen true dirL = (0,dirL):=by
  rw [hse]
  exact lead_at (an_right5 hn) (e:=entD6) (by simp) (by decide)
 have h6 : s5.answer anewI = (s5,⟨0,0,⟨#[]⟩,[n.data.toList]⟩):=by
  have e1 : s5.stepR anewI = (s5.listErr dirB,s5,s5.listAns dirB):=rfl
  have e2 : s5.listErr dirB = 0:=by
   unfold Sy.listErr
   rw [show dirB.data.toList = dirL from rfl,hl,if_neg (by simp),hse,an_list5 hn]
  have e3 : s5.listAns dirB = ⟨0,0,⟨#[]⟩,[n.data.toList]⟩:=by
   unfold Sy.listAns
   rw [show dirB.data.toList = dirL from rfl,hl,hse,an_list5 hn]
  unfold Sy.answer
  rw [e1,e2,if_pos rfl,e3]
 have hr : runB (anewL n) = (s5,(runB anew4).2 ++ [ans 0 ⟨#[]⟩] ++ [⟨0,0,⟨#[]⟩,[n.data.toList]⟩]):=by
  have r1 : runB (anew4 ++ [anewO n]) = (s5,(runB anew4).2 ++ [ans 0 ⟨#[]⟩]):=by
   have:=run_snoc (startS [] [base6]) anew4 (anewO n)
   have e : ((startS [] [base6]).run anew4).1 = s4A:=rfl
   rw [e,h5] at this
   exact this
  have:=run_snoc (startS [] [base6]) (anew4 ++ [anewO n]) anewI
  have e : (startS [] [base6]).run (anew4 ++ [anewO n]) = (s5,(runB anew4).2 ++ [ans 0 ⟨#[]⟩]):=r1
  rw [e,h6] at this
  exact this
 have hlen : (runB anew4).2.length = 4:=run_len _ _
 rw [hr]
 refine ⟨?_,?_,by show s5.seen.length = 2;rw [hse];rfl⟩
 ·show ((runB anew4).2 ++ [ans 0 ⟨#[]⟩] ++ [(⟨0,0,⟨#[]⟩,[n.data.toList]⟩ : An)]).map (·.err) = _
  rw [List.map_append,List.map_append,an_errs4]
  rfl
 ·show (((runB anew4).2 ++ [ans 0 ⟨#[]⟩] ++ [(⟨0,0,⟨#[]⟩,[n.data.toList]⟩ : An)])[5]?).map (·.names) = _
  rw [List.append_assoc,List.getElem?_append_right (by omega),hlen]
  rfl
end
end Go.Proofs.YthfeoiffoeagkaaGreatDoor
