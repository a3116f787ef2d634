/-
  Rows of answers and of calls, wherever the block lies that is appended; answers that are the same.
-/
import Derived.Test.YthfeoiffoeagkaaGreatDoorZA56
import Derived.Test.YthfeoiffoeagkaaGreatDoorZA52
namespace Go.Proofs.YthfeoiffoeagkaaGreatDoor
open Go.RowKit PM Go.Sort
set_option linter.unusedVariables false
namespace PM
theorem LQ (s:Sy) (ow k:Nat) (ck cn cm:Int) (cx:ByteArray) (ca:Bool) (j:Nat) (op:Opn) (f:Fl):(s.onR ow k ck cn cm cx ca j op f).2.2.names=[]:=by
 unfold Sy.onR
 repeat' split
 all_goals rfl
theorem LD (s:Sy) (ow:Nat) (ck cf cn cm:Int) (cx:ByteArray) (ca:Bool):(s.numR ow ck cf cn cm cx ca).2.2.names=[]:=by
 unfold Sy.numR
 split
 ·rfl
 ·split
  ·rfl
  ·split
   ·rfl
   ·split
    ·rfl
    ·exact LQ _ _ _ _ _ _ _ _ _ _ _
theorem Lr (s:Sy) (w:ByteArray):(s.sM w).names.length≤80:=by
 have hr:s.seen.length≤80:=(aK s.all).len
 show (kW _ _).1.length≤80
 unfold kW
 split
 ·show (nJ _ _).length≤80
  unfold nJ
  rw [List.length_map]
  exact Nat.le_trans (List.length_filter_le _ _) hr
 ·exact Nat.zero_le _
theorem Lx (s:Sy) (c:Cl):(s.eY c).2.2.names.length≤80:=by
 unfold Sy.eY
 repeat' split
 all_goals first | exact Nat.zero_le _ | exact Lr _ _ | (rw [LD];exact Nat.zero_le _)
theorem KS (s:Sy) (c:Cl):(s.answer c).2.names.length≤80:=by
 unfold Sy.answer
 split
 ·exact Lx s c
 ·exact Nat.zero_le _
theorem Ko:∀ (l:List Cl) (s:Sy),∀ a∈(s.run l).2,a.names.length≤80
 | [],s,a,h=>by cases h
 | c::r,s,a,h=>by
  rw [Sy.run] at h
  rcases List.mem_cons.1 h with h | h
  ·rw [h];exact KS s c
  ·exact Ko r _ a h
end PM
set_option maxHeartbeats 4000000 in
theorem KL (bs:List ByteArray) (p q:Option Addr) (c d n:Nat) (hn:n=bs.length) (w:World) (h1:fI w p bs) (h2:fI w q bs) (hl:n≤80) :
  sH 46 #[.slice p n c,.slice q n d] w:=by
 subst hn
 rcases Nat.eq_zero_or_pos bs.length with h0 | h0
 ·rw [h0]
  go_enter Tryz.func46,Tryz.ntmps46
  go_wp2
  refine wp_loop_rounds 1 ?_
  rw [rounds_succ]
  go_wp2
  go_ret
  exact ⟨rfl,Below.refl _ _⟩
 ·have hne:bs≠[]:=by rintro rfl;cases h0
  obtain ⟨g1,o1,rfl,hg1,hc1⟩:=h1.resolve_left hne
  obtain ⟨g2,o2,rfl,hg2,hc2⟩:=h2.resolve_left hne
  have HC1:Aside (∀ (j:Nat) x,bs[j]?=some x→w.cell? ⟨g1,o1+j,none⟩=some (.string x)):=hc1
  have HC2:Aside (∀ (j:Nat) x,bs[j]?=some x→w.cell? ⟨g2,o2+j,none⟩=some (.string x)):=hc2
  clear hc1 hc2 h1 h2
  go_enter Tryz.func46,Tryz.ntmps46
  go_wp2
  go_loopw [13] (fun i wr=>∃ k:Nat,k≤bs.length∧i=.int .i64 k∧∃ n,wr=w.drewN n) (fun i _=>bs.length-(intOf i).toNat)
  case atStart=>exact ⟨0,Nat.zero_le _,rfl,0,rfl⟩
  case round =>
   obtain ⟨k,hk,rfl,n,rfl⟩:=hrel
   by_cases hlt:k<bs.length
   ·have hlt':(k:Int)<(bs.length:Int):=by omega
    obtain ⟨p,hp⟩:∃ p,bs[k]?=some p:=⟨_,List.getElem?_eq_getElem hlt⟩
    have hcell1:=HC1.out k p hp
    have hcell2:=HC2.out k p hp
    clear hp
    go_wp2
    go_quiet (fail)
    go_wp2
    exact ⟨⟨k+1,by omega,by go_num,_,rfl⟩,by simp [intOf];omega⟩
   ·have hlt':¬ (k:Int)<(bs.length:Int):=by omega
    go_wp2
    go_ret
    exact ⟨rfl,by repeat (first | exact Below.refl _ _ | refine below_drewN ?_ _)⟩
set_option maxRecDepth 100000 in
theorem KI (er n:Int) (tx:ByteArray) (bs:List ByteArray) (p q:Option Addr) (c d k:Nat) (hk:k=bs.length) (w:World) (h1:fI w p bs) (h2:fI w q bs) (hl:k≤80) :
  sH 19 #[.agg #[.int .i64 er,.int .i64 n,.string tx,.slice p k c],.agg #[.int .i64 er,.int .i64 n,.string tx,.slice q k d]] w:=by
 obtain ⟨X,hX⟩:∃ X,(w.alloc (.cells #[.int .i64 er,.int .i64 n,.string tx,.slice p k c] 38)).alloc (.cells #[.int .i64 er,.int .i64 n,.string tx,.slice q k d] 38)=X:=⟨_,rfl⟩
 have hBX:Below w.heap.size w X:=by rw [← hX];exact ((Below.refl _ _).alloc (Nat.le_refl _) _).alloc (by simp) _
 have hst:=fun Y (hY:Below w.heap.size w Y)=>KL bs p q c d k hk Y (h1.kept hY) (h2.kept hY) hl
 obtain ⟨⟨b0,b1,b2,b3⟩,_⟩:=bK (iI hX)
 obtain ⟨⟨d0,d1,d2,d3⟩,_⟩:=bK (dY hX)
 have HX:Aside (Below w.heap.size w X∧(w.alloc (.cells #[.int .i64 er,.int .i64 n,.string tx,.slice p k c] 38)).alloc (.cells #[.int .i64 er,.int .i64 n,.string tx,.slice q k d] 38)=X):=⟨hBX,hX⟩
 clear hBX hX h1 h2 hk hl
 go_enter Tryz.func19,Tryz.ntmps19
 go_wp2_with (first
  | (go_at_call 46;refine (hst _ (by rw [HX.out.2];exact HX.out.1)).mono ?_;clear hst;rintro r w3 ⟨rfl,hB3⟩;rw [HX.out.2] at hB3))
 go_ret
 exact ⟨by simp,Below.onto HX.out.1 hB3⟩
theorem KX:∀ {a b:List ByteArray},a.map (·.data.toList)=b.map (·.data.toList)→a=b
 | [],[],_=>rfl
 | [],y::t,h=>by simp at h
 | x::r,[],h=>by simp at h
 | x::r,y::t,h=>by
  simp only [List.map_cons,List.cons.injEq] at h
  rw [dz h.1,KX h.2]
def Lh (s:Sy) (anl:List An) (n sn op:Nat) (W:World) (r:Ending) (W':World):Prop:=∃ (y:Lay) (lo:List Lay) (pl:Option Addr) (cl:Nat) (ps:Option Addr) (sc yn ln:Nat) (pa:Option Addr) (ac:Nat),r=.returned (.tuple #[.agg #[.slice y.ad yn y.cap,.slice pl ln cl,.slice ps sn sc,.int .i64 op],.slice pa n ac,.int .i64 0])∧Below W.heap.size W W'∧Aside (yn=y.es.length∧ln=lo.length∧y.es=s.up∧lo.map (·.es)=s.lows∧UnOK W' y lo pl cl∧Lies W' ps s.seen∧pU W' pa anl)
theorem nC.n {s:Sy} {anl:List An} {n sn op:Nat} (hn:n=anl.length) (hs:sn=s.seen.length) (ho:op=s.reach.length) {W:World} {r:Ending} {W':World} (h:nC s anl W r W'):Lh s anl n sn op W r W':=by
 obtain ⟨y,lo,pl,cl,ps,sc,yn,ln,sn',op',pa,na,ac,e,hB,e1,e2,e3,e4,e5,e6,e7,e8,e9,e10,e11,e12,e13,e14⟩:=h
 subst hn hs ho
 rw [e3,e4,e11] at e
 exact ⟨y,lo,pl,cl,ps,sc,yn,ln,pa,ac,e,hB,e1,e2,e5,e6,e7,e8,e14⟩
theorem Kv {w:World} {pa pb:Option Addr} {al:List An} (h1:pU w pa al) (h2:pU w pb al) {k:Nat} (hk:k<al.length) (hm:∀ a∈al,a.names.length≤80):∃ b b' er n tx q q' c c' m,pa=some ⟨b,0,none⟩∧pb=some ⟨b',0,none⟩∧w.cell? ⟨b,k*4,none⟩=some (.int .i64 er)∧w.cell? ⟨b,k*4+1,none⟩=some (.int .i64 n)∧w.cell? ⟨b,k*4+2,none⟩=some (.string tx)∧w.cell? ⟨b,k*4+3,none⟩=some (.slice q m c)∧w.cell? ⟨b',k*4,none⟩=some (.int .i64 er)∧w.cell? ⟨b',k*4+1,none⟩=some (.int .i64 n)∧w.cell? ⟨b',k*4+2,none⟩=some (.string tx)∧w.cell? ⟨b',k*4+3,none⟩=some (.slice q' m c')∧Aside (∀ Y,Below w.heap.size w Y→sH 19 #[.agg #[.int .i64 er,.int .i64 n,.string tx,.slice q m c],.agg #[.int .i64 er,.int .i64 n,.string tx,.slice q' m c']] Y):=by
 have hne:¬ al=[]:=by rintro rfl;cases hk
 obtain ⟨b,rfl,_,g1⟩:=h1.resolve_left hne
 obtain ⟨b',rfl,_,g2⟩:=h2.resolve_left hne
 have ha:al[k]?=some al[k]:=List.getElem?_eq_getElem hk
 obtain ⟨q,c,bs,c0,c1,c2,c3,c4,_,_,c7⟩:=g1 k _ ha
 obtain ⟨q',c',bs',d0,d1,d2,d3,d4,_,_,d7⟩:=g2 k _ ha
 have e:bs=bs':=KX (c4.trans d4.symm)
 subst e
 have hl:bs.length≤80:=by
  have:=hm _ (List.mem_of_getElem? ha)
  rw [← c4,List.length_map] at this
  exact this
 exact ⟨b,b',_,_,_,q,q',c,c',_,rfl,rfl,c0,c1,c2,c3,d0,d1,d2,d3,fun Y hY=>KI _ _ _ bs q q' c c' _ rfl Y (c7.kept hY) (d7.kept hY) hl⟩
end Go.Proofs.YthfeoiffoeagkaaGreatDoor
