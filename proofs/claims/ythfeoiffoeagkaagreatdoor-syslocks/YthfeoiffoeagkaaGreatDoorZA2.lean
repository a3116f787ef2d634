/-
  What path.Parse answers, and what it leaves of memory; the closed fact that the statements ask first.
-/
import Derived.Test.YthfeoiffoeagkaaGreatDoorZA0
namespace Go.Proofs.YthfeoiffoeagkaaGreatDoor
open Go.RowKit PM
set_option linter.unusedVariables false
namespace PM
def skip (p:List UInt8):Bool:=p.isEmpty || p == [46]
def bad (p:List UInt8):Bool:=!(p == [46,46]) && !named p
def bO:List (List UInt8)→Option (List (List UInt8))
 | []=>some []
 | p::r=>if skip p then bO r else if bad p then none else (bO r).map (p::·)
def aI (l:List UInt8):List (List UInt8) × Int :=
 if 80<l.length then ([],4) else if l.isEmpty then ([],6) else match bO (parts l) with
  | none=>([],7)
  | some x=>(x,0)
theorem Ao {L:List (List UInt8)} {k:Nat} {p:List UInt8} {d:List (List UInt8)} {r:Option (List (List UInt8))} (hp:L[k]?=some p) (h:r=(bO (L.drop k)).map (d++·)) (hs:skip p=true):r=(bO (L.drop (k+1))).map (d++·):=by
 obtain ⟨hk,rfl⟩:=List.getElem?_eq_some_iff.1 hp
 rw [h,List.drop_eq_getElem_cons hk,bO,if_pos hs]
theorem Dh {L:List (List UInt8)} {k:Nat} {p:List UInt8} {d:List (List UInt8)} {r:Option (List (List UInt8))} (hp:L[k]?=some p) (h:r=(bO (L.drop k)).map (d++·)) (hs:skip p=false) (hb:bad p=true):r=none:=by
 obtain ⟨hk,rfl⟩:=List.getElem?_eq_some_iff.1 hp
 rw [h,List.drop_eq_getElem_cons hk,bO,if_neg (by simp [hs]),if_pos hb];rfl
theorem Am {L:List (List UInt8)} {k:Nat} {p:List UInt8} {d:List (List UInt8)} {r:Option (List (List UInt8))} (hp:L[k]?=some p) (h:r=(bO (L.drop k)).map (d++·)) (hs:skip p=false) (hb:bad p=false):r=(bO (L.drop (k+1))).map (d++[p]++·):=by
 obtain ⟨hk,rfl⟩:=List.getElem?_eq_some_iff.1 hp
 rw [h,List.drop_eq_getElem_cons hk,bO,if_neg (by simp [hs]),if_neg (by simp [hb])]
 cases bO (L.drop (k+1)) <;> simp
end PM
def Strs (w:World) (base:Nat) (v:Value) (bs:List ByteArray):Prop:=w.ownsRow base 9 1 v bs.length (bs.map Value.string)
theorem Strs.nil (w:World) (base:Nat):Strs w base (.slice none 0 0) []:=World.ownsRow_nil _ _ _ _
theorem Strs.mono {w:World} {base base':Nat} {v:Value} {bs:List ByteArray} (h:Strs w base v bs) (hb:base'≤base):Strs w base' v bs:=by
 refine ⟨h.1,h.2.imp id ?_⟩
 rintro ⟨g,cap,cur,e,hg,r⟩
 exact ⟨g,cap,cur,e,Nat.le_trans hb hg,r⟩
theorem Strs.below {w w':World} {base:Nat} {v:Value} {bs:List ByteArray} (h:Strs w base v bs) (hb:Below w.heap.size w w'):Strs w' base v bs:=by
 refine ⟨h.1,h.2.imp id ?_⟩
 rintro ⟨g,cap,cur,e,hg,hh,r⟩
 have hlt:g<w.heap.size:=by
  rcases Nat.lt_or_ge g w.heap.size with h' | h'
  ·exact h'
  ·rw [Array.getElem?_eq_none h'] at hh;cases hh
 exact ⟨g,cap,cur,e,hg,by rw [hb.block g hlt];exact hh,r⟩
theorem Strs.iC {w:World} {base:Nat} {v:Value} {bs:List ByteArray} (h:w.ownsRow base 9 1 v bs.length (bs.map Value.string)):Strs w base v bs:=h
theorem Ct:∃ i0,Tryz.prog.info? 9=some i0∧i0.zero=some (.string ByteArray.empty)∧i0.size=1∧i0.bytes=16:=by
 have h:(Tryz.prog.info? 9).map (fun i=>(i.zero,i.size,i.bytes))=some (some (.string ByteArray.empty),1,16):=by kernel_rfl
 cases hi:Tryz.prog.info? 9 with
 | none=>rw [hi] at h;cases h
 | some i0 =>
  rw [hi] at h
  simp only [Option.map_some,Option.some.injEq,Prod.mk.injEq] at h
  exact ⟨i0,rfl,h.1,h.2.1,h.2.2⟩
theorem beq_lit (p:ByteArray) (l:List UInt8) (b:Bool) (h:(p.data.toList == l)=b):(p.toList == l)=b:=by
 rw [Lib.toList_data];exact h
theorem Je (p:ByteArray) (l:List UInt8) (h:(p.data.toList == l)=true):p.toList=l:=by
 rw [Lib.toList_data];simpa using h
theorem ET (p:ByteArray) (l:List UInt8) (h:(p.data.toList == l)=false):¬ p.toList=l:=by
 rw [Lib.toList_data];simpa using h
theorem BH {p:List UInt8} (h:skip p=false):¬ p=[]∧(p == [46])=false:=by
 simp only [skip,Bool.or_eq_false_iff] at h
 refine ⟨?_,h.2⟩
 rintro rfl
 simp at h
theorem G7 {p:List UInt8} (h:skip p=true) (h0:¬ p=[]):(p == [46])=true:=by
 simp only [skip,Bool.or_eq_true] at h
 rcases h with h | h
 ·exact absurd (List.isEmpty_iff.1 h) h0
 ·exact h
theorem wB {p:List UInt8} (h:bad p=true):(p == [46,46])=false∧named p=false:=by
 simpa only [bad,Bool.and_eq_true,Bool.not_eq_true'] using h
theorem DU {p:List UInt8} (h:bad p=false):(p == [46,46])=true∨(p == [46,46])=false∧named p=true:=by
 cases h1:(p == [46,46]) with
 | true=>exact .inl rfl
 | false=>rw [bad,h1] at h;exact .inr ⟨rfl,by simpa using h⟩
def dG (w:World) (l:List (List UInt8)) (n:Int) (e:Ending) (w':World):Prop :=
 (∃ v bs,e=.returned (.tuple #[v,.int .i64 n])∧Strs w' w.heap.size v bs∧bs.map (·.data.toList)=l)∧Below w.heap.size w w'
theorem dG.mk {w w':World} {l l':List (List UInt8)} {n n':Int} {v:Value} {bs:List ByteArray} {P:List (List UInt8) × Int} (hP:P=(l',n')) (hn:P.2=n) (hl:P.1=l) (h:Strs w' w.heap.size v bs) (he:bs.map (·.data.toList)=l') (hB:Below w.heap.size w w') :
  dG w l n (.returned (.tuple #[v,.int .i64 n'])) w':=by
 subst hP;subst hn;subst hl
 exact ⟨⟨v,bs,rfl,h,he⟩,hB⟩
set_option maxHeartbeats 2000000 in
theorem xw (s:ByteArray) (m:Int) (w:World) (hs:s.size≤maxLen) (hm:w.cell? ⟨0,0,none⟩=some (.int .i64 m)) :
  Calls Tryz.prog 170 #[.string s] w (dG w (aI s.data.toList).1 (aI s.data.toList).2):=by
 unfold maxLen at hs
 by_cases h:s.size≤80
 ·have g:¬ (80:Int)<(s.size:Int):=by omega
  by_cases h0:s.data.toList=[]
  ·have h1:=kC h0
   have HN:Hid (aI s.data.toList=([],6)):=by show _=_;rw [h0];rfl
   clear h0
   go_enter Tryz.func170,Tryz.ntmps170
   go_wp2
   go_ret2
   exact dG.mk HN.out rfl rfl (Strs.nil _ _) rfl (Below.refl _ _)
  ·have h1:=iX h0
   have HL:Hid (∀ r,bO (parts s.data.toList)=r→aI s.data.toList=match r with | none=>([],7) | some x=>(x,0)):=by
    intro r hr
    rw [aI,if_neg (by rw [szl];omega),tL h0,hr];rfl
   clear h0
   obtain ⟨i0,hi,hz0,hz1,hz2⟩:=Ct
   have cS:=Tryz.strings_Split s ⟨#[47]⟩ m w (by omega) hm (by decide)
   have hP:=uw s
   have hn:=xH s
   have hcnt:Lib.countB s ⟨#[47]⟩≤s.size:=Lib.countB_le ⟨#[47]⟩ (by decide) s.size s (Nat.le_refl _)
   generalize Lib.splitB ⟨#[47]⟩ 0 (Lib.countB s ⟨#[47]⟩) s=Ps at *
   generalize Lib.countB s ⟨#[47]⟩=cn at *
   have HP:Hid (Ps.map (·.data.toList)=parts s.data.toList):=hP
   clear hP
   go_enter Tryz.func170,Tryz.ntmps170
   go_wp2_with (go_at_call 50;refine cS.mono ?_;rintro e w' ⟨rfl,hw⟩;rw [hw])
   clear cS
   go_loopw [4,15] (fun v i wr=>∃ (k:Nat) (bs:List ByteArray),k≤cn+1∧i=.int .i64 k∧bs.length≤k∧Strs wr (w.heap.size+1) v bs∧Below (w.heap.size+1) (w.alloc (.cells (Ps.map Value.string).toArray 9)) wr ∧
     Hid (bO (parts s.data.toList)=(bO ((parts s.data.toList).drop k)).map (bs.map (·.data.toList)++·)))
    (fun _ i _=>cn+1-(intOf i).toNat)
   case atStart=>exact ⟨0,[],Nat.zero_le _,rfl,Nat.le_refl _,Strs.nil _ _,Below.refl _ _,by show _=_;simp⟩
   case round =>
    obtain ⟨k,bs,hk,rfl,hbl,hS,hB,HI⟩:=hrel
    by_cases hlt:k<cn+1
    ·have hlt':(k:Int)<(cn:Int)+1:=by omega
     obtain ⟨p,hp⟩:∃ p,Ps[k]?=some p:=⟨_,List.getElem?_eq_getElem (by omega)⟩
     have hcell:wr.cell? ⟨w.heap.size,k,none⟩=some (.string p):=(hB.cell (p:=⟨w.heap.size,k,none⟩) (by simp)).trans (Lib.pieces_cell_at w Ps 9 k p hp)
     have hps:=(xA s HP.out hp).2
     have hp80:p.size≤maxLen:=by unfold maxLen;omega
     have HPk:Hid ((parts s.data.toList)[k]?=some p.data.toList):=by show _=_;rw [← HP.out,List.getElem?_map,hp];rfl
     clear hp
     cases hsk:skip p.data.toList with
     | true =>
      have HN:Hid (bO (parts s.data.toList)=(bO ((parts s.data.toList).drop (k+1))).map (bs.map (·.data.toList)++·)):=Ao HPk.out HI.out hsk
      clear HI
      by_cases h0:p.data.toList=[]
      ·have hp0:=kC h0
       clear h0 hsk
       go_wp2
       exact ⟨⟨k+1,bs,by omega,by go_num,by omega,hS,hB,HN⟩,by simp [intOf];omega⟩
      ·have hp0:=iX h0
       have hp1:(p.toList == [46])=true:=beq_lit p [46] true (G7 hsk h0)
       clear h0 hsk
       go_wp2
       exact ⟨⟨k+1,bs,by omega,by go_num,by omega,hS,hB,HN⟩,by simp [intOf];omega⟩
     | false =>
      have hp0:=iX (BH hsk).1
      have hp1:(p.toList == [46])=false:=beq_lit p [46] false (BH hsk).2
      cases hbd:bad p.data.toList with
      | true =>
       have HN:Hid (bO (parts s.data.toList)=none):=Dh HPk.out HI.out hsk hbd
       have HN2:Hid (aI s.data.toList=([],7)):=HL.out _ HN.out
       have hp2:=beq_lit p [46,46] false (wB hbd).1
       have hp2':=ET p [46,46] (wB hbd).1
       have hp3:named p.data.toList=false:=(wB hbd).2
       clear HI hsk hbd
       go_wp2_with (go_at_call 37;refine (rM _ _ (by assumption)).mono ?_;rintro e w' ⟨rfl,hw'⟩;subst w')
       go_ret2
       exact dG.mk HN2.out rfl rfl (Strs.nil _ _) rfl (((Below.refl _ _).alloc (Nat.le_refl _) _).trans (hB.mono (by omega)))
      | false => 
       have HN:Hid (bO (parts s.data.toList)=(bO ((parts s.data.toList).drop (k+1))).map ((bs++[p]).map (·.data.toList)++·)):=by
        show _=_
        rw [List.map_append]
        exact Am HPk.out HI.out hsk hbd
       have hS':wr.ownsRow (w.heap.size+1) 9 1 u4 bs.length (bs.map Value.string):=hS
       clear HI hsk hS
       rcases DU hbd with h2 | ⟨h2,h3⟩
       ·have hp2:=beq_lit p [46,46] true h2
        have hp2':=Je p [46,46] h2
        clear h2 hbd
        go_wp2_with (at_builtin;refine wpList_append_own _ rfl _ _ 36 rfl (w.heap.size+1) 9 i0 (.string ByteArray.empty) 1 16 Tryz.underlying36 hi hz0 hz1 hz2 rfl (by decide) _ _ _ rfl (hS'.alloc _) ⟨wr.heap.size,0,none⟩ 1 1 [.string p] rfl rfl ?c1 ?c2 ?c3 ?c4 ?c5 ?_)
        case c1=>exact cell_one_new _ _ _
        case c2=>intro u hu;simp at hu;subst hu;rfl
        case c3=>unfold maxLen;omega
        case c4=>omega
        case c5=>have:=hB.size;simp at this ⊢;omega
        ·intro v' w1 hown hgrow _
         go_wp2
         have hB1:Below (w.heap.size+1) (w.alloc (.cells (Ps.map Value.string).toArray 9)) w1 :=
          (hB.alloc (by have:=hB.size;simpa using this) _).grown hgrow (by have:=hB.size;simp at this ⊢;omega) (fun j hj=>(hS'.lt j hj).1)
         exact ⟨⟨k+1,bs++[p],by omega,by go_num,by simp;omega,by simpa [Strs] using hown,hB1,HN⟩,by simp [intOf];omega⟩
       ·have hp2:=beq_lit p [46,46] false h2
        have hp2':=ET p [46,46] h2
        clear h2 hbd
        go_wp2_with (first
         | (go_at_call 37;refine (rM _ _ (by assumption)).mono ?_;rintro e w' ⟨rfl,hw'⟩;subst w')
         | (at_builtin;refine wpList_append_own _ rfl _ _ 36 rfl (w.heap.size+1) 9 i0 (.string ByteArray.empty) 1 16 Tryz.underlying36 hi hz0 hz1 hz2 rfl (by decide) _ _ _ rfl (hS'.alloc _) ⟨wr.heap.size,0,none⟩ 1 1 [.string p] rfl rfl ?c1 ?c2 ?c3 ?c4 ?c5 ?_))
        case c1=>exact cell_one_new _ _ _
        case c2=>intro u hu;simp at hu;subst hu;rfl
        case c3=>unfold maxLen;omega
        case c4=>omega
        case c5=>have:=hB.size;simp at this ⊢;omega
        ·intro v' w1 hown hgrow _
         go_wp2
         have hB1:Below (w.heap.size+1) (w.alloc (.cells (Ps.map Value.string).toArray 9)) w1 :=
          (hB.alloc (by have:=hB.size;simpa using this) _).grown hgrow (by have:=hB.size;simp at this ⊢;omega) (fun j hj=>(hS'.lt j hj).1)
         exact ⟨⟨k+1,bs++[p],by omega,by go_num,by simp;omega,by simpa [Strs] using hown,hB1,HN⟩,by simp [intOf];omega⟩
    ·have hlt':¬ (k:Int)<(cn:Int)+1:=by omega
     have HN:Hid (aI s.data.toList=(bs.map (·.data.toList),0)):=by
      have hh:=HL.out (some (bs.map fun x=>x.data.toList)) (by
       rw [HI.out,List.drop_of_length_le (by rw [← HP.out,List.length_map];omega)];simp [bO])
      exact hh
     clear HI HL
     go_wp2
     go_ret2
     exact dG.mk HN.out rfl rfl (hS.mono (by omega)) rfl (((Below.refl _ _).alloc (Nat.le_refl _) _).trans (hB.mono (by omega)))
 ·have g:(80:Int)<(s.size:Int):=by omega
  have HN:Hid (aI s.data.toList=([],4)):=by show _=_;rw [aI,if_pos (by rw [szl];omega)]
  go_enter Tryz.func170,Tryz.ntmps170
  go_wp2
  go_ret2
  exact dG.mk HN.out rfl rfl (Strs.nil _ _) rfl (Below.refl _ _)
theorem Strs.form {w:World} {base:Nat} {v:Value} {bs:List ByteArray} (h:Strs w base v bs):∃ a c,v=.slice a bs.length c:=by
 rcases h.2 with ⟨rfl,hn⟩ | ⟨g,cap,cur,rfl,_⟩
 ·rw [hn];exact ⟨_,_,rfl⟩
 ·exact ⟨_,_,rfl⟩
theorem below_draws {w w':World} (h:∃ n,w'=w.drewN n):Below w.heap.size w w':=by
 obtain ⟨n,rfl⟩:=h
 exact below_drewN (Below.refl _ _) n
theorem held {w w':World} {m:Int} (hB:Below w.heap.size w w') (hm:w.cell? ⟨0,0,none⟩=some (.int .i64 m)):w'.cell? ⟨0,0,none⟩=some (.int .i64 m):=by
 rw [hB.cell (p:=⟨0,0,none⟩) (Il hm)];exact hm
theorem Below.onto {w w' w'':World} (h:Below w.heap.size w w') (k:Below w'.heap.size w' w''):Below w.heap.size w w'':=h.trans (k.mono h.size)
end Go.Proofs.YthfeoiffoeagkaaGreatDoor
