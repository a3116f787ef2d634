/-
  lock.joined: sorted, and one of each two that touch and are alike.
-/
import Derived.Test.YthfeoiffoeagkaaGreatDoorXA20
namespace Go.Proofs.YthfeoiffoeagkaaGreatDoor.LK
open Go.RowKit Go.Sort KM
set_option linter.unusedVariables false
theorem Rows.JQ {w : World} {g c base : Nat} {l : List Lk} (h : Own w g c l) (hb : base ≤ g) : Rows w base (.slice (some ⟨g,0,none⟩) l.length c) l:=by
 obtain ⟨cur,hh,hs,hl,hm,hc⟩:=h
 refine ⟨(dK l),.inr ⟨g,c,cur,rfl,hb,hh,hl,hm,hs,?_⟩⟩
 apply List.ext_getElem?
 intro k
 rw [List.getElem?_take]
 by_cases hk : k < l.length * 4
 ·rw [if_pos hk]
  obtain ⟨u,hu⟩ : ∃ u,(l.flatMap encK)[k]? = some u:=⟨_,List.getElem?_eq_getElem (by rw [dK];exact hk)⟩
  obtain ⟨j,e,i,h1,h2,rfl⟩:=flat_get hu
  rw [hu,Array.getElem?_toList]
  exact hc j e h1 i u h2
 ·rw [if_neg hk,List.getElem?_eq_none (by rw [dK];omega)]
theorem Own.setT {w : World} {g c : Nat} {l : List Lk} (h : Own w g c l) {j : Nat} {z : Lk} (hz : l[j]? = some z) (t : Int) : Own (w.setCell ⟨g,j * 4 + 2,none⟩ (.int .i64 t)) g c (l.set j { z with t:=t }):=by
 obtain ⟨cur,hh,hs,hl,hm,hc⟩:=h
 have hj:=(List.getElem?_eq_some_iff.1 hz).1
 refine ⟨cur.setIfInBounds (j * 4 + 2) (.int .i64 t),heap_set hh _ _,by simpa using hs,by simpa using hl,hm,fun k e he i v hv => ?_⟩
 have hi:=lu hv
 rw [List.getElem?_set] at he
 rw [Array.getElem?_setIfInBounds]
 by_cases hk : j = k
 ·subst hk
  rw [if_pos rfl,if_pos hj] at he
  obtain rfl : { z with t:=t } = e:=by simpa using he
  obtain rfl | rfl | rfl | rfl : i = 0 ∨ i = 1 ∨ i = 2 ∨ i = 3:=by omega
  ·rw [if_neg (by omega)];exact hc j z hz 0 v hv
  ·rw [if_neg (by omega)];exact hc j z hz 1 v hv
  ·rw [if_pos rfl,if_pos (by omega)];exact hv
  ·rw [if_neg (by omega)];exact hc j z hz 3 v hv
 ·rw [if_neg hk] at he
  rw [if_neg (by omega)]
  exact hc k e he i v hv
theorem FN {w : World} {base : Nat} {v : Value} {l : List Lk} (h : Rows w base v l) {j : Nat} {z : Lk} (hl : l.length = j + 1) (hz : l[j]? = some z) :
  ∃ g c,v = .slice (some ⟨g,0,none⟩) (j + 1) c ∧ base ≤ g ∧ g < w.heap.size ∧ Own w g c l:=by
 obtain ⟨g,c,e,hg,ho⟩:=Own.iU h (by rintro rfl;obtain ⟨_,⟨_,h2⟩ | ⟨g,cap,cur,hv',_⟩⟩:=h <;> first | omega | cases hv') rfl
 exact ⟨g,c,by rw [e,hl],hg,ho.lt,ho⟩
theorem C8 {out : List Lk} {j : Nat} {z : Lk} (hl : out.length = j + 1) (hz : out[j]? = some z) (x : Lk) : dX out x = if rise z x then out ++ [x] else out.set j { z with t:=x.t }:=by
 unfold dX
 rw [last_at hl hz,hl]
 rfl
theorem El (out : List Lk) (x : Lk) : (dX out x).length ≤ out.length + 1:=by
 unfold dX
 split
 ·simp
 ·split
  ·simp
  ·simp
theorem GQ (l : List Lk) : ∀ out : List Lk,(l.foldl dX out).length ≤ out.length + l.length:=by
 induction l with
 | nil => intro out;simp
 | cons x r ih =>
  intro out
  have h1:=ih (dX out x)
  have h2:=El out x
  rw [List.foldl_cons,List.length_cons];omega
theorem Et {l : List Lk} {k : Nat} {y : Lk} (hy : l[k]? = some y) : (l.take (k + 1)).foldl dX [] = dX ((l.take k).foldl dX []) y:=by
 rw [dz hy,List.foldl_append];rfl
def GK (m : List Lk) (g : Nat) (w : World) (e : Ending) (w' : World) : Prop :=
 ∃ v m',e = .returned v ∧ m'.Perm m ∧ m'.Pairwise (fun a b => ¬ cmpK b a < 0) ∧ Rows w' w.heap.size v (joinL m') ∧ w.grownBy w' (some g)
set_option maxHeartbeats 400000 in
theorem DX (m : List Lk) (g cap : Nat) (w : World) (hO : Own w g cap m) (hn : m.length ≤ 1000) :
  Calls Tryz.prog 194 #[.slice (some ⟨g,0,none⟩) m.length cap] w (GK m g w):=by
 have hs:=qV m g cap w hO (by omega)
 have hgl:=hO.lt
 clear hO
 obtain ⟨n,hnl⟩ : ∃ n,n = m.length:=⟨_,rfl⟩
 have HN : Aside (n = m.length):=hnl
 rw [← hnl] at hn hs ⊢
 clear hnl
 go_enter Tryz.func194,Tryz.ntmps194
 go_wp2_with (go_at_call 227;refine hs.mono ?_;clear hs;rintro e w1 ⟨rfl,l',hp,hpw,hL,hG⟩;have HP : Aside (l'.Perm m):=hp;have HS : Aside (l'.Pairwise (fun a b => ¬ cmpK b a < 0)):=hpw;have HL : Aside (Lies w1 (some ⟨g,0,none⟩) l'):=hL;have HG : Aside (w.grownBy w1 (some g)):=hG;clear hp hpw hL hG)
 have HNL : Aside (l'.length = n):=by show _ = _;rw [HP.out.length_eq,HN.out]
 have HLen : Aside (∀ k,((l'.take k).foldl dX []).length ≤ 1000):=fun k => by
  have h1:=GQ (l'.take k) []
  have h2 : (l'.take k).length ≤ l'.length:=by rw [List.length_take];omega
  have h3:=HNL.out
  simp only [List.length_nil] at h1
  omega
 go_loopg [3,11] n (fun gg s3 s11 wr => ∃ k : Nat,k ≤ n ∧ n - k ≤ gg ∧ s11 = .int .i64 k ∧ Aside (Rows wr w1.heap.size s3 ((l'.take k).foldl dX []) ∧ Below w1.heap.size w1 wr))
 case atStart => exact ⟨0,Nat.zero_le _,by omega,rfl,(⟨Rows.nil _ _,Below.refl _ _⟩ : Rows _ _ _ [] ∧ _)⟩
 case round =>
  obtain ⟨k,hk,hg,rfl,I⟩:=hrel
  by_cases hlt : k < n
  ·have hltz : (k : Int) < (n : Int):=by omega
   obtain ⟨y,hy⟩ : ∃ y,l'[k]? = some y:=⟨_,List.getElem?_eq_getElem (by have:=HNL.out;omega)⟩
   have HF : Aside ((l'.take (k + 1)).foldl dX [] = dX ((l'.take k).foldl dX []) y):=Et hy
   have hlen:=HLen.out k
   rcases HL.out with h0 | ⟨b,off,hbe,hb,hc⟩
   ·rw [h0] at hy;simp at hy
   obtain ⟨rfl,rfl⟩ : g = b ∧ 0 = off:=by simpa using hbe
   clear hbe
   obtain ⟨c0,c1,c2,c3⟩:=Lies.cells hc hb I.out.2 hy
   simp only [Nat.zero_add] at c0 c1 c2 c3
   have hsz:=I.out.2.size
   have hb' : g < wr.heap.size:=by omega
   have hne : g ≠ wr.heap.size:=by omega
   have hX : Below wr.heap.size wr (wr.alloc (.cells #[.int .i64 y.o, .int .i64 y.f, .int .i64 y.t, .bool y.a] 58)):=((Grown.refl wr).alloc _).below
   clear hc hy
   generalize hout : (l'.take k).foldl dX [] = out at I HF hlen
   clear hout
   by_cases h0 : out.length = 0
   ·obtain ⟨p,c,hv,_,_,_⟩:=I.out.1.form
    rw [h0] at hv
    subst hv
    have HO : Aside (out = []):=List.eq_nil_of_length_eq_zero h0
    go_wp2
    go_quiet (fail)
    go_wp2_with (at_builtin;refine ko _ y rfl _ _ rfl w1.heap.size (.slice p 0 c) out rfl (I.out.1.below (below_drewN hX _)) (by omega) (by simp;omega) (wr.heap.size + 1) (by simp) rfl ?_)
    intro v' w2 hR2 hB2 _ hsz2
    have HI : Aside (Rows w2 w1.heap.size v' (dX out y) ∧ Below w1.heap.size w1 w2):=⟨by have:=HO.out;subst this;exact hR2,(I.out.2.trans ((below_drewN hX _).mono hsz)).trans hB2⟩
    clear hR2 hB2 hsz2 hX
    go_wp2
    go_roundg (n - (k + 1))
    case measure => omega
    case rel => exact ⟨k + 1,by omega,by omega,by go_num,by rw [HF.out];exact HI⟩
   ·obtain ⟨j,hj⟩ : ∃ j,out.length = j + 1:=⟨out.length - 1,by omega⟩
    obtain ⟨z,hz⟩ : ∃ z,out[j]? = some z:=⟨_,List.getElem?_eq_getElem (by omega)⟩
    obtain ⟨gb,c,rfl,hgb1,hgb2,hO⟩:=FN I.out.1 hj hz
    have HM : Aside (dX out y = if rise z y then out ++ [y] else out.set j { z with t:=y.t }):=C8 hj hz y
    have hOX:=hO.below hX hgb2
    obtain ⟨⟨z0,z1,z2,z3⟩,_⟩:=hOX.cells hz
    have hne3 : gb ≠ wr.heap.size:=by omega
    have hk1 : (((j + 1 : Nat) : Int) - 1) = (j : Int):=by omega
    have hk7 : (j : Int) + 1 - 1 = (j : Int):=by omega
    have hk8 : IntKind.i64.wrap ((j : Int) + 1 - 1) = (j : Int):=by simp [IntKind.wrap,IntKind.bits,IntKind.signed];omega
    have hk2 : IntKind.i64.wrap (j : Int) = j:=by simp [IntKind.wrap,IntKind.bits,IntKind.signed];omega
    have hk3 : (0 : Int) ≤ (j : Int):=by omega
    have hk4 : (j : Int) < ((j + 1 : Nat) : Int):=by omega
    have hk5 : (j : Int) < (j : Int) + 1:=by omega
    have HO : Aside (Own (wr.alloc (.cells #[.int .i64 y.o, .int .i64 y.f, .int .i64 y.t, .bool y.a] 58)) gb c out):=hOX
    have HZ : Aside (out[j]? = some z):=hz
    have HJ : Aside (out.length = j + 1):=hj
    clear hO hOX hz hj h0
    go_wp2
    go_region_held3 (fun w' => w'.cell? ⟨wr.heap.size,0,none⟩ = some (.int .i64 y.o) ∧ w'.cell? ⟨wr.heap.size,1,none⟩ = some (.int .i64 y.f) ∧ w'.cell? ⟨wr.heap.size,2,none⟩ = some (.int .i64 y.t) ∧ w'.cell? ⟨wr.heap.size,3,none⟩ = some (.bool y.a) ∧ w'.cell? ⟨gb,j * 4,none⟩ = some (.int .i64 z.o) ∧ w'.cell? ⟨gb,j * 4 + 1,none⟩ = some (.int .i64 z.f) ∧ w'.cell? ⟨gb,j * 4 + 2,none⟩ = some (.int .i64 z.t) ∧ w'.cell? ⟨gb,j * 4 + 3,none⟩ = some (.bool z.a)) (go_keep) (first
     | (go_at_call 84;refine (zC z y _).mono ?_;rintro r w2 ⟨rfl,hG⟩;have hGG : Grown (wr.alloc (.cells #[.int .i64 y.o, .int .i64 y.f, .int .i64 y.t, .bool y.a] 58)) w2:=((Grown.refl _).drewN 1).trans hG;obtain ⟨⟨d0,d1,d2,d3⟩,_⟩:=new4 (by simp) hGG.below;have HO2 : Aside (Own w2 gb c out):=HO.out.grown hGG;obtain ⟨⟨e0,e1,e2,e3⟩,⟨f0,f1,f2,f3⟩⟩:=HO2.out.cells HZ.out;clear hG))
    have HB2 : Aside (Below wr.heap.size wr w2):=hX.trans (hGG.below.mono (by simp))
    have hsz2:=HB2.out.size
    have hgl2 : gb < w2.heap.size:=by omega
    clear hGG hX z0 z1 z2 z3 c0 c1 c2 c3
    cases hrz : rise z y with
    | true =>
     go_wp2_with (at_builtin;refine ko w2 y rfl _ _ rfl w1.heap.size (.slice (some ⟨gb,0,none⟩) (j + 1) c) out rfl (I.out.1.below HB2.out) (by have:=HJ.out;omega) (by omega) w2.heap.size rfl rfl ?_)
     intro v' w3 hR3 hB3 _ hsz3
     have HI : Aside (Rows w3 w1.heap.size v' (dX out y) ∧ Below w1.heap.size w1 w3):=⟨by rw [HM.out,hrz];exact hR3,(I.out.2.trans (HB2.out.mono hsz)).trans hB3⟩
     clear hR3 hB3 hsz3
     go_wp2
     go_roundg (n - (k + 1))
     case measure => omega
     case rel => exact ⟨k + 1,by omega,by omega,by go_num,by rw [HF.out];exact HI⟩
    | false =>
     have HI : Aside (Rows (w2.setCell ⟨gb,j * 4 + 2,none⟩ (.int .i64 y.t)) w1.heap.size (.slice (some ⟨gb,0,none⟩) (j + 1) c) (dX out y) ∧ Below w1.heap.size w1 (w2.setCell ⟨gb,j * 4 + 2,none⟩ (.int .i64 y.t))):=by
      refine ⟨?_,(I.out.2.trans (HB2.out.mono hsz)).setCell hgb1 _⟩
      have h1:=Rows.JQ (HO2.out.setT HZ.out y.t) hgb1
      rw [List.length_set,HJ.out] at h1
      rw [HM.out,hrz]
      exact h1
     go_wp2
     go_roundg (n - (k + 1))
     case measure => omega
     case rel => exact ⟨k + 1,by omega,by omega,by go_num,by rw [HF.out];exact HI⟩
  ·have hltz : ¬ (k : Int) < (n : Int):=by omega
   have hI:=I.out
   rw [List.take_of_length_le (by have:=HNL.out;omega)] at hI
   have HI : Aside _:=hI
   clear hI I
   go_wp2
   go_ret
   exact ⟨_,l',rfl,HP.out,HS.out.imp (fun h => by omega),HI.out.1.mono HG.out.size,bg HG.out HI.out.2⟩
end Go.Proofs.YthfeoiffoeagkaaGreatDoor.LK
namespace Go.Proofs.YthfeoiffoeagkaaGreatDoor.LK
open Go.RowKit Go.Sort KM
set_option linter.unusedVariables false
set_option maxRecDepth 100000
def nG (free : Bool) (l : List Lk) (x : Lk) (w : World) (e : Ending) (w' : World) : Prop :=
 ∃ v err m,e = .returned (.tuple #[v,.int .i64 err]) ∧ Rows w' w.heap.size v m ∧ jF free l x err m ∧ Below w.heap.size w w'
def qP (free : Bool) (l : List Lk) (x : Lk) (w : World) (e : Ending) (w' : World) : Prop :=
 ∃ v err m,e = .returned (.tuple #[v,.int .i64 err]) ∧ Rows w' w.heap.size v m ∧ Below w.heap.size w w' ∧
  ((err = 13 ∧ m = [] ∧ free = false ∧ l.any (clash x) = true) ∨ (err = 0 ∧ (free = true ∨ l.any (clash x) = false) ∧ eY m ∧ lq free l x m))
def qC (w : World) (B1 B2 : Nat) (p : Option Addr) (n cap : Nat) (x : Lk) : Prop :=
 w.cell? ⟨B1,0,none⟩ = some (.slice p n cap) ∧ (w.cell? ⟨B2,0,none⟩ = some (.int .i64 x.o) ∧ w.cell? ⟨B2,1,none⟩ = some (.int .i64 x.f) ∧ w.cell? ⟨B2,2,none⟩ = some (.int .i64 x.t) ∧ w.cell? ⟨B2,3,none⟩ = some (.bool x.a)) ∧ B1 < w.heap.size ∧ B2 < w.heap.size
theorem qC.kept {w w' : World} {B1 B2 n cap : Nat} {p : Option Addr} {x : Lk} (h : qC w B1 B2 p n cap x) (hB : Below w.heap.size w w') : qC w' B1 B2 p n cap x:=by
 obtain ⟨h1,⟨h2,h3,h4,h5⟩,h6,h7⟩:=h
 have hs:=hB.size
 exact ⟨(hB.cell (p:=⟨B1,0,none⟩) h6).trans h1,⟨(hB.cell (p:=⟨B2,0,none⟩) h7).trans h2,(hB.cell (p:=⟨B2,1,none⟩) h7).trans h3,(hB.cell (p:=⟨B2,2,none⟩) h7).trans h4,(hB.cell (p:=⟨B2,3,none⟩) h7).trans h5⟩,by omega,by omega⟩
theorem oH (l : List Lk) (x : Lk) (p : Option Addr) (cap B1 B2 : Nat) (w : World) (hL : Lies w p l) (h0 : fP l x = 0) (hb : qC w B1 B2 p l.length cap x) :
  Calls Tryz.prog 196 #[.pointer (some ⟨B1,0,none⟩),.pointer (some ⟨B2,0,none⟩)] w (qP true l x w):=by
 have hw:=fun W (hB : Below w.heap.size w W) => kG l x p cap W (hL.kept hB) (mU.1 h0).1.1
 have HS : Aside (eY (aO l x) ∧ lq true l x (aO l x)):=free_spec h0
 obtain ⟨c0,⟨c1,c2,c3,c4⟩,hb1,hb2⟩:=hb
 generalize l.length = n at hw c0
 clear hL h0
 go_enter Tryz.func196,Tryz.ntmps196
 go_wp2_with (go_at_call 195;refine (hw _ (Below.refl _ _)).mono ?_;clear hw;rintro e w1 ⟨v,rfl,hR,hB⟩;have HR : Aside (Rows w1 w.heap.size v (aO l x)):=hR;have HB : Aside (Below w.heap.size w w1):=hB;clear hR hB)
 go_ret2
 exact ⟨v,0,aO l x,rfl,HR.out,HB.out,.inr ⟨rfl,.inl rfl,HS.out⟩⟩
theorem xS {ops : Array Oper} {o : Oper} {a : Act} {K : Act → World → Prop} {Q : Exit → Act → World → Prop} {E : Prop} {X : World} (hgd : o.guard = none) (s x : Operand)
  (ho : o.op = .call { callee:=.builtin .append,args:=#[s,x],argTypes:=#[60,60] }) (base : Nat) (v : Value) (l : List Lk) (hs : a.eval s = v) (hrow : Rows X base v l) (hlen : l.length ≤ 1000) (hbase : base ≤ X.heap.size)
  (H : Nat) (y : Lk) (hx : a.eval x = .slice (some ⟨H,0,none⟩) 1 1) (hL : ∀ j u,(encK y)[j]? = some u → X.cell? ((⟨H,0,none⟩ : Addr).add j) = some u)
  (h : ∀ v' w',Rows w' base v' (l ++ [y]) → Below base X w' → K (a.put o.dst v') w') :
  if Region.wanted o (yielded ops a.tmps) = true then Oper.wp Tryz.prog o a X K Q else E:=by
 have hw : Region.wanted o (yielded ops a.tmps) = true:=by simp [Region.wanted,hgd]
 rw [if_pos hw]
 obtain ⟨i0,hi,hz0,hz1,hz2⟩:=Dv
 refine wp_append_own X s x 60 ho base 58 i0 _ 4 32 Tryz.underlying60 hi hz0 hz1 hz2 rfl (by decide) v l.length (l.flatMap encK) hs hrow ⟨H,0,none⟩ 1 1 (encK y) hx rfl hL (fun u hu => gF (t:=[y]) (by simpa using hu)) (by unfold maxLen;omega) (by omega) hbase ?_
 intro v' w' hown hg _
 exact h v' w' (by simpa [Rows] using hown) ((Below.refl base X).grown hg hbase (fun j hj => (World.ownsRow.lt hrow j hj).1))
theorem Bv {X : World} {H : Nat} {y : Lk} (h : X.cell? ⟨H,0,none⟩ = some (.int .i64 y.o) ∧ X.cell? ⟨H,1,none⟩ = some (.int .i64 y.f) ∧ X.cell? ⟨H,2,none⟩ = some (.int .i64 y.t) ∧ X.cell? ⟨H,3,none⟩ = some (.bool y.a)) : ∀ j u,(encK y)[j]? = some u → X.cell? ((⟨H,0,none⟩ : Addr).add j) = some u:=by
 intro j u hu
 have hj:=lu hu
 rw [Addr.add_lit,Nat.zero_add]
 obtain rfl | rfl | rfl | rfl : j = 0 ∨ j = 1 ∨ j = 2 ∨ j = 3:=by omega
 ·obtain rfl : Value.int .i64 y.o = u:=by simpa [encK] using hu
  exact h.1
 ·obtain rfl : Value.int .i64 y.f = u:=by simpa [encK] using hu
  exact h.2.1
 ·obtain rfl : Value.int .i64 y.t = u:=by simpa [encK] using hu
  exact h.2.2.1
 ·obtain rfl : Value.bool y.a = u:=by simpa [encK] using hu
  exact h.2.2.2
theorem Fw {w : World} {base : Nat} {v : Value} {l : List Lk} (h : Rows w base v l) (hl : l ≠ []) : ∃ g c,v = .slice (some ⟨g,0,none⟩) l.length c ∧ base ≤ g ∧ Own w g c l:=by
 obtain ⟨g,c,e,hg,ho⟩:=Own.iU h (by
  rintro rfl
  obtain ⟨_,⟨_,h2⟩ | ⟨g,cap,cur,hv',_⟩⟩:=h
  ·exact hl (List.eq_nil_of_length_eq_zero h2)
  ·cases hv') rfl
 exact ⟨g,c,e,hg,ho⟩
theorem Dt (m : List Lk) (base : Nat) (v : Value) (w : World) (hR : Rows w base v m) (hm : m ≠ []) (hn : m.length ≤ 1000) (hb : base ≤ w.heap.size) :
  Calls Tryz.prog 194 #[v] w fun e w' => ∃ v' m',e = .returned v' ∧ m'.Perm m ∧ m'.Pairwise (fun a b => ¬ cmpK b a < 0) ∧ Rows w' base v' (joinL m') ∧ Below base w w':=by
 obtain ⟨g,c,rfl,hg,hO⟩:=Fw hR hm
 refine (DX m g c w hO hn).mono ?_
 rintro e w' ⟨v',m',rfl,h1,h2,h3,h4⟩
 exact ⟨v',m',rfl,h1,h2,h3.mono hb,(Below.refl base w).grown h4 hb (fun k hk => by simp at hk;omega)⟩
set_option maxHeartbeats 1000000 in
theorem EK (l : List Lk) (x : Lk) (p : Option Addr) (cap B1 B2 : Nat) (w : World) (hL : Lies w p l) (h0 : fP l x = 0) (hb : qC w B1 B2 p l.length cap x) :
  Calls Tryz.prog 193 #[.pointer (some ⟨B1,0,none⟩),.pointer (some ⟨B2,0,none⟩)] w (qP false l x w):=by
 have h40:=(mU.1 h0).1.1
 have hm:=fun W (hB : Below w.heap.size w W) => xU l x p cap W (hL.kept hB) (by omega)
 have hw:=fun W (hB : Below w.heap.size w W) => kG l x p cap W (hL.kept hB) h40
 have HZ : Aside (fP l x = 0):=h0
 have HBX : Aside (qC w B1 B2 p l.length cap x):=hb
 obtain ⟨c0,⟨c1,c2,c3,c4⟩,hb1,hb2⟩:=hb
 generalize l.length = n at hw hm c0 HBX
 clear hL h0
 go_enter Tryz.func193,Tryz.ntmps193
 go_wp2_with (go_at_call 31;refine (hm _ (Below.refl _ _)).mono ?_;clear hm;rintro r w1 ⟨y,b,rfl,hM,hB⟩;have HM : Aside (l.any (clash x) = b):=hM.any;have HB1 : Aside (Below w.heap.size w w1):=hB;obtain ⟨d0,⟨d1,d2,d3,d4⟩,hd1,hd2⟩:=HBX.out.kept hB;clear hM hB;cases b)
 ·have hW0 : Below w.heap.size w (w1.alloc (.cells #[.int .i64 y.o, .int .i64 y.f, .int .i64 y.t, .bool y.a] 58)):=HB1.out.alloc HB1.out.size _
  obtain ⟨d0,⟨d1,d2,d3,d4⟩,hd1,hd2⟩:=HBX.out.kept hW0
  generalize w1.alloc (.cells #[.int .i64 y.o, .int .i64 y.f, .int .i64 y.t, .bool y.a] 58) = W0 at *
  have HT : Aside (∀ m : List Lk,m.Perm (aO l x ++ [x]) → m.Pairwise (fun a b => ¬ cmpK b a < 0) → eY (joinL m) ∧ lq false l x (joinL m)):=fun m hp hs => ED HZ.out HM.out hp hs
  have HLn : Aside ((aO l x).length ≤ 80):=by have:=tT l x;show _ ≤ _;omega
  clear HZ HBX c0 c1 c2 c3 c4 h40
  have hB0:=hW0.size
  go_region_law (first
   | (refine xS rfl _ _ rfl W0.heap.size v (aO l x) (by first | (simp [Act.eval];done) | fail) (hR.below ((Grown.refl w2).alloc _).below) (by have:=HLn.out;omega) (by simp;omega) w2.heap.size x (by first | (simp [Act.eval];done) | fail) (jD w2 x _ rfl) ?_;clear hgo;intro v3 w3 hR3 hB3;have hs3:=hB3.size;(try simp at hs3);have hBB3 : Below W0.heap.size W0 w3:=hBB.trans (Below.trans (by first | exact ((Grown.refl w2).alloc _).below.mono (by omega) | exact Below.refl _ _) hB3);clear hB3)
   | (refine xS rfl _ _ rfl W0.heap.size v (aO l x) (by first | (simp [Act.eval];done) | fail) hR (by have:=HLn.out;omega) (by omega) W0.heap.size x (by first | (simp [Act.eval];done) | fail) (Bv hq) ?_;clear hgo;intro v3 w3 hR3 hB3;have hs3:=hB3.size;(try simp at hs3);have hBB3 : Below W0.heap.size W0 w3:=hBB.trans (Below.trans (by first | exact ((Grown.refl w2).alloc _).below.mono (by omega) | exact Below.refl _ _) hB3);clear hB3)
   | (go_simp;go_at_call 195;refine (hw _ hW0.drew).mono ?_;clear hw;rintro e w2 ⟨v,rfl,hR,hB2⟩;replace hR:=hR.mono (Nat.le_refl W0.heap.size);have hBB : Below W0.heap.size W0 w2:=(Below.refl _ W0).drew.trans hB2;have hq : True:=trivial;clear hB2;obtain ⟨e1,e2,e3,e4⟩ : w2.cell? ⟨B2,0,none⟩ = some (.int .i64 x.o) ∧ w2.cell? ⟨B2,1,none⟩ = some (.int .i64 x.f) ∧ w2.cell? ⟨B2,2,none⟩ = some (.int .i64 x.t) ∧ w2.cell? ⟨B2,3,none⟩ = some (.bool x.a):=⟨(hBB.cell (p:=⟨B2,0,none⟩) hd2).trans d1,(hBB.cell (p:=⟨B2,1,none⟩) hd2).trans d2,(hBB.cell (p:=⟨B2,2,none⟩) hd2).trans d3,(hBB.cell (p:=⟨B2,3,none⟩) hd2).trans d4⟩;have hs2 : W0.heap.size ≤ w2.heap.size:=hBB.size;have hgo : True:=trivial)
   | (go_simp;go_at_call 195;refine (hw _ (hW0.alloc hB0 (.cells #[.int .i64 x.o, .int .i64 x.f, .int .i64 x.t, .bool x.a] 58)).drew).mono ?_;clear hw;rintro e w2 ⟨v,rfl,hR,hB2⟩;replace hR:=hR.mono (base':=W0.heap.size) (by simp);have hBX : Below (W0.heap.size + 1) (W0.alloc (.cells #[.int .i64 x.o, .int .i64 x.f, .int .i64 x.t, .bool x.a] 58)) w2:=(Below.refl _ _).drew.trans (hB2.mono (by simp));have hBB : Below W0.heap.size W0 w2:=bG hBX;have hq:=(new4 (Nat.lt_succ_self _) hBX).1;clear hB2 hBX;obtain ⟨e1,e2,e3,e4⟩ : w2.cell? ⟨B2,0,none⟩ = some (.int .i64 x.o) ∧ w2.cell? ⟨B2,1,none⟩ = some (.int .i64 x.f) ∧ w2.cell? ⟨B2,2,none⟩ = some (.int .i64 x.t) ∧ w2.cell? ⟨B2,3,none⟩ = some (.bool x.a):=⟨(hBB.cell (p:=⟨B2,0,none⟩) hd2).trans d1,(hBB.cell (p:=⟨B2,1,none⟩) hd2).trans d2,(hBB.cell (p:=⟨B2,2,none⟩) hd2).trans d3,(hBB.cell (p:=⟨B2,3,none⟩) hd2).trans d4⟩;have hs2 : W0.heap.size ≤ w2.heap.size:=hBB.size;have hgo : True:=trivial)
   | (go_simp;go_at_call 194;refine (Dt (aO l x ++ [x]) W0.heap.size v3 w3 hR3 (by simp) (by have:=HLn.out;simp;omega) (by omega)).mono ?_;clear hR3;rintro e w4 ⟨v4,m',rfl,hp,hs,hR4,hB4⟩;have HR4 : Aside (Rows w4 W0.heap.size v4 (joinL m')):=hR4;have HB4 : Aside (Below w.heap.size w w4):=hW0.trans ((hBB3.trans hB4).mono hB0);have HP : Aside (eY (joinL m') ∧ lq false l x (joinL m')):=HT.out m' hp hs;clear hR4 hB4 hp hs))
  all_goals go_wp2
  all_goals go_ret2
  all_goals exact ⟨v4,0,joinL m',rfl,HR4.out.mono hB0,HB4.out,.inr ⟨rfl,.inr HM.out,HP.out⟩⟩
 ·go_ret2
  exact ⟨.slice none 0 0,13,[],rfl,Rows.nil _ _,HB1.out.alloc HB1.out.size _,.inl ⟨rfl,rfl,rfl,HM.out⟩⟩
end Go.Proofs.YthfeoiffoeagkaaGreatDoor.LK
namespace Go.Proofs.YthfeoiffoeagkaaGreatDoor.LK
open Go.RowKit Go.Sort KM
set_option linter.unusedVariables false
set_option maxRecDepth 100000
theorem IQ (a b : Value) (w : World) : Sem.run Tryz.prog (Instr.field 46 (.agg #[a,b]) 0) w = .ok a w:=by
 first | kernel_rfl | simp [go_sem] | rfl
theorem CJ {free : Bool} {l : List Lk} {x : Lk} {w w' : World} {e : Ending} (h : qP free l x w e w') :
  Aside (Below w.heap.size w w') ∧ ((∃ v,e = .returned (.tuple #[v,.int .i64 13]) ∧ Aside (free = false ∧ l.any (clash x) = true)) ∨
   ∃ p n c m,e = .returned (.tuple #[.slice p n c,.int .i64 0]) ∧ Aside (n = m.length) ∧ Aside (Rows w' w.heap.size (.slice p n c) m) ∧ Aside ((free = true ∨ l.any (clash x) = false) ∧ eY m ∧ lq free l x m) ∧ ((40 : Int) < (n : Int) ∨ ¬ (40 : Int) < (n : Int))):=by
 obtain ⟨v,err,m,rfl,hR,hB,⟨rfl,rfl,h1⟩ | ⟨rfl,h1⟩⟩:=h
 ·exact ⟨hB,.inl ⟨v,rfl,h1⟩⟩
 ·obtain ⟨p,c,rfl,_,_,_⟩:=hR.form
  exact ⟨hB,.inr ⟨p,m.length,c,m,rfl,rfl,hR,h1,Decidable.em _⟩⟩
abbrev BH (free : Bool) (l : List Lk) (x : Lk) (w : World) (gf : Nat) (lb : Array Value) : Prop :=
 fP l x = 0 → ∀ W,Below w.heap.size w W → Calls Tryz.prog gf lb W (qP free l x W)
theorem Je (l : List Lk) (x : Lk) : orL [(dF l).1,(dF [x]).1] = fP l x:=by
 rw [D8]
 unfold fP orL orL orL
 by_cases h : okK x <;> by_cases h1 : (dF l).1 = 0 <;> simp [h,h1]
set_option maxHeartbeats 1000000 in
theorem jC (free : Bool) (l : List Lk) (x : Lk) (p : Option Addr) (cap : Nat) (gf : Nat) (lb : Array Value) (eg : ∀ args w,(callFunc gf args).run Tryz.prog w = .ok (.enter gf args) w) (w : World) (hL : Lies w p l) (hn : l.length < 4611686018427387904) (hcap : l.length ≤ cap) (hch : BH free l x w gf lb) :
  Calls Tryz.prog 192 #[.slice p l.length cap,.agg #[.int .i64 x.o, .int .i64 x.f, .int .i64 x.t, .bool x.a],.func (.func gf) #[] lb] w (nG free l x w):=by
 have hw1:=fun W (hB : Below w.heap.size w W) => jY l p cap W (hL.kept hB) hn hcap
 have hw2 : ∀ (W : World) (H : Nat),H < W.heap.size → (∀ j u,(encK x)[j]? = some u → W.cell? ⟨H,j,none⟩ = some u) → Calls Tryz.prog 28 #[.slice (some ⟨H,0,none⟩) 1 1] W (rJ [x] W):=fun W H hH hc =>
  jY [x] (some ⟨H,0,none⟩) 1 W (.inr ⟨H,0,rfl,hH,fun j e he i v hv => by
   cases j with
   | zero => obtain rfl : x = e:=by simpa using he
             simpa using hc i v hv
   | succ j => simp at he⟩) (by show 1 < _;decide) (by show 1 ≤ 1;decide)
 have HP : Aside (orL [(dF l).1,(dF [x]).1] = fP l x):=Je l x
 have HCH : Aside (BH free l x w gf lb):=hch
 unfold rJ at hw1 hw2
 generalize (dF l).1 = f1 at hw1 HP
 generalize (dF l).2 = f1' at hw1
 generalize (dF [x]).1 = f2 at hw2 HP
 generalize (dF [x]).2 = f2' at hw2
 generalize l.length = n at *
 clear hch hL
 go_enter Tryz.func192,Tryz.ntmps192
 have hfld:=IQ
 go_wp2
 have hW0 : Below w.heap.size w (w.alloc (.cells #[.int .i64 x.o, .int .i64 x.f, .int .i64 x.t, .bool x.a] 58)):=((Grown.refl w).alloc _).below
 obtain ⟨⟨d1,d2,d3,d4⟩,_⟩:=new4 (w:=w) (B:=w.heap.size + 1) (Nat.lt_succ_self _) (Below.refl _ (w.alloc (.cells #[.int .i64 x.o, .int .i64 x.f, .int .i64 x.t, .bool x.a] 58)))
 have hd2 : w.heap.size < (w.alloc (.cells #[.int .i64 x.o, .int .i64 x.f, .int .i64 x.t, .bool x.a] 58)).heap.size:=by simp
 generalize w.alloc (.cells #[.int .i64 x.o, .int .i64 x.f, .int .i64 x.t, .bool x.a] 58) = W0 at *
 have hB0:=hW0.size
 generalize hpe : fP l x = pe at HP
 have HPE : Aside (fP l x = pe):=hpe
 clear hpe
 go_region_law (first
  | (go_simp;go_at_call 28;refine (hw1 _ hW0.drew).mono ?_;clear hw1;rintro e w2 ⟨rfl,hB2⟩;have hBB : Below W0.heap.size W0 w2:=(Below.refl _ W0).drew.trans hB2;have hq : True:=trivial;clear hB2;obtain ⟨e1,e2,e3,e4⟩ : w2.cell? ⟨w.heap.size,0,none⟩ = some (.int .i64 x.o) ∧ w2.cell? ⟨w.heap.size,1,none⟩ = some (.int .i64 x.f) ∧ w2.cell? ⟨w.heap.size,2,none⟩ = some (.int .i64 x.t) ∧ w2.cell? ⟨w.heap.size,3,none⟩ = some (.bool x.a):=⟨(hBB.cell (p:=⟨w.heap.size,0,none⟩) hd2).trans d1,(hBB.cell (p:=⟨w.heap.size,1,none⟩) hd2).trans d2,(hBB.cell (p:=⟨w.heap.size,2,none⟩) hd2).trans d3,(hBB.cell (p:=⟨w.heap.size,3,none⟩) hd2).trans d4⟩;have hs2 : W0.heap.size ≤ w2.heap.size:=hBB.size;have hgo : True:=trivial)
  | (go_simp;go_at_call 28;refine (hw1 _ (hW0.alloc hB0 (.cells #[.int .i64 x.o, .int .i64 x.f, .int .i64 x.t, .bool x.a] 58)).drew).mono ?_;clear hw1;rintro e w2 ⟨rfl,hB2⟩;have hBX : Below (W0.heap.size + 1) (W0.alloc (.cells #[.int .i64 x.o, .int .i64 x.f, .int .i64 x.t, .bool x.a] 58)) w2:=(Below.refl _ _).drew.trans (hB2.mono (by simp));have hBB : Below W0.heap.size W0 w2:=bG hBX;have hq:=(new4 (Nat.lt_succ_self _) hBX).1;have hq2 : W0.heap.size < w2.heap.size:=(by have:=hBX.size;simp at this;omega);clear hB2 hBX;obtain ⟨e1,e2,e3,e4⟩ : w2.cell? ⟨w.heap.size,0,none⟩ = some (.int .i64 x.o) ∧ w2.cell? ⟨w.heap.size,1,none⟩ = some (.int .i64 x.f) ∧ w2.cell? ⟨w.heap.size,2,none⟩ = some (.int .i64 x.t) ∧ w2.cell? ⟨w.heap.size,3,none⟩ = some (.bool x.a):=⟨(hBB.cell (p:=⟨w.heap.size,0,none⟩) hd2).trans d1,(hBB.cell (p:=⟨w.heap.size,1,none⟩) hd2).trans d2,(hBB.cell (p:=⟨w.heap.size,2,none⟩) hd2).trans d3,(hBB.cell (p:=⟨w.heap.size,3,none⟩) hd2).trans d4⟩;have hs2 : W0.heap.size ≤ w2.heap.size:=hBB.size;have hgo : True:=trivial)
  | (go_simp;go_at_call 28;refine (hw2 _ W0.heap.size hq2 (fun j u hu => by have:=Bv hq j u hu;rwa [Addr.add_lit,Nat.zero_add] at this)).mono ?_;clear hgo;rintro e w3 ⟨rfl,hB3⟩;have hBB3 : Below W0.heap.size W0 w3:=hBB.trans (hB3.mono hs2);clear hB3 hw2;have hs3:=hBB3.size)
  | (go_simp;go_at_call 28;refine (hw2 _ w2.heap.size (by simp) (fun j u hu => by have:=jD w2 x _ rfl j u hu;rwa [Addr.add_lit,Nat.zero_add] at this)).mono ?_;clear hgo;rintro e w3 ⟨rfl,hB3⟩;have hBB3 : Below W0.heap.size W0 w3:=hBB.trans ((((Grown.refl w2).alloc _).below.trans (hB3.mono (by simp))).mono hs2);clear hB3 hw2;have hs3:=hBB3.size)
  | (go_simp;go_at_call 157;refine (Gi f1 f2 w3.heap.size _ (by simp) (by simp)).mono ?_;rintro e w4 ⟨rfl,hw4⟩;subst hw4;rw [HP.out]))
 all_goals (have hB3 : Below w.heap.size w (w3.alloc (.cells #[.int .i64 f1,.int .i64 f2] 31)):=(hW0.trans (hBB3.mono hB0)).alloc (by omega) _)
 all_goals clear hBB hBB3 e1 e2 e3 e4 d1 d2 d3 d4
 all_goals (generalize w3.alloc (.cells #[.int .i64 f1,.int .i64 f2] 31) = W4 at *)
 all_goals (
  by_cases hpe0 : pe = 0
  ·subst hpe0
   have hch:=HCH.out HPE.out _ hB3
   go_wp2_with (go_at_fn gf;refine hch.mono ?_;clear hch;intro e w5 hM;obtain ⟨HB5,⟨v,rfl,H1⟩ | ⟨p5,n5,c5,m,rfl,HN5,HR5,H1,h40 | h40⟩⟩:=CJ hM <;> clear hM)
   ·go_ret2
    exact ⟨.slice none 0 0,13,[],rfl,Rows.nil _ _,.inr (.inl ⟨HPE.out,H1.out.1,H1.out.2,rfl,rfl⟩),Below.onto hB3 HB5.out⟩
   ·go_ret2
    exact ⟨.slice none 0 0,5,[],rfl,Rows.nil _ _,.inr (.inr ⟨HPE.out,H1.out.1,m,H1.out.2.1,H1.out.2.2,.inl ⟨by have:=HN5.out;omega,rfl,rfl⟩⟩),Below.onto hB3 HB5.out⟩
   ·go_ret2
    exact ⟨.slice p5 n5 c5,0,m,rfl,HR5.out.mono hB3.size,.inr (.inr ⟨HPE.out,H1.out.1,m,H1.out.2.1,H1.out.2.2,.inr ⟨by have:=HN5.out;omega,rfl,rfl⟩⟩),Below.onto hB3 HB5.out⟩
  ·go_wp2
   go_ret2
   exact ⟨.slice none 0 0,pe,[],rfl,Rows.nil _ _,.inl ⟨by rw [HPE.out];exact hpe0,HPE.out.symm,rfl⟩,hB3⟩)
theorem xA (w : World) (p : Option Addr) (n cap : Nat) (x : Lk) : qC ((w.alloc (.cells #[.slice p n cap] 60)).alloc (.cells #[.int .i64 x.o, .int .i64 x.f, .int .i64 x.t, .bool x.a] 58)) w.heap.size (w.heap.size + 1) p n cap x:=by
 have e : w.heap.size + 1 = (w.alloc (.cells #[.slice p n cap] 60)).heap.size:=by simp
 have h4:=(Ir (X:=w.alloc (.cells #[.slice p n cap] 60)) (t:=58) (a:=.int .i64 x.o) (b:=.int .i64 x.f) (c:=.int .i64 x.t) (d:=.bool x.a) e (Below.refl _ _)).1
 exact ⟨Lib.cell?_alloc_some _ (by simp),h4,by simp;omega,by simp⟩
theorem GY (l : List Lk) (x : Lk) (p : Option Addr) (cap : Nat) (w : World) (hL : Lies w p l) (hn : l.length < 4611686018427387904) (hcap : l.length ≤ cap) :
  Calls Tryz.prog 142 #[.slice p l.length cap,.agg #[.int .i64 x.o, .int .i64 x.f, .int .i64 x.t, .bool x.a]] w (nG true l x w):=by
 have eg : ∀ args w,(callFunc 196 args).run Tryz.prog w = .ok (.enter 196 args) w:=enters_of Tryz.func196 (by kernel_rfl) rfl
 have hG : Grown w ((w.alloc (.cells #[.slice p l.length cap] 60)).alloc (.cells #[.int .i64 x.o, .int .i64 x.f, .int .i64 x.t, .bool x.a] 58)):=((Grown.refl w).alloc _).alloc _
 have hc:=jC true l x p cap 196 #[.pointer (some ⟨w.heap.size,0,none⟩),.pointer (some ⟨w.heap.size + 1,0,none⟩)] eg _ (hL.grown hG) hn hcap (fun h0 W hB => oH l x p cap w.heap.size (w.heap.size + 1) W ((hL.grown hG).kept hB) h0 ((xA w p l.length cap x).kept hB))
 generalize l.length = n at *
 clear eg hL
 go_enter Tryz.func142,Tryz.ntmps142
 go_wp2_with (go_at_call 192;refine hc.mono ?_;clear hc;rintro e w1 ⟨v,err,m,rfl,hR,hS,hB⟩;have HR : Aside (Rows w1 w.heap.size v m):=hR.mono (by simp;omega);have HS : Aside (jF true l x err m):=hS;have HB : Aside (Below w.heap.size w w1):=hG.below.trans (hB.mono (by simp;omega));clear hR hS hB)
 go_ret2
 exact ⟨v,err,m,rfl,HR.out,HS.out,HB.out⟩
theorem Gv (l : List Lk) (x : Lk) (p : Option Addr) (cap : Nat) (w : World) (hL : Lies w p l) (hn : l.length < 4611686018427387904) (hcap : l.length ≤ cap) :
  Calls Tryz.prog 141 #[.slice p l.length cap,.agg #[.int .i64 x.o, .int .i64 x.f, .int .i64 x.t, .bool x.a]] w (nG false l x w):=by
 have eg : ∀ args w,(callFunc 193 args).run Tryz.prog w = .ok (.enter 193 args) w:=enters_of Tryz.func193 (by kernel_rfl) rfl
 have hG : Grown w ((w.alloc (.cells #[.slice p l.length cap] 60)).alloc (.cells #[.int .i64 x.o, .int .i64 x.f, .int .i64 x.t, .bool x.a] 58)):=((Grown.refl w).alloc _).alloc _
 have hc:=jC false l x p cap 193 #[.pointer (some ⟨w.heap.size,0,none⟩),.pointer (some ⟨w.heap.size + 1,0,none⟩)] eg _ (hL.grown hG) hn hcap (fun h0 W hB => EK l x p cap w.heap.size (w.heap.size + 1) W ((hL.grown hG).kept hB) h0 ((xA w p l.length cap x).kept hB))
 generalize l.length = n at *
 clear eg hL
 go_enter Tryz.func141,Tryz.ntmps141
 go_wp2_with (go_at_call 192;refine hc.mono ?_;clear hc;rintro e w1 ⟨v,err,m,rfl,hR,hS,hB⟩;have HR : Aside (Rows w1 w.heap.size v m):=hR.mono (by simp;omega);have HS : Aside (jF false l x err m):=hS;have HB : Aside (Below w.heap.size w w1):=hG.below.trans (hB.mono (by simp;omega));clear hR hS hB)
 go_ret2
 exact ⟨v,err,m,rfl,HR.out,HS.out,HB.out⟩
end Go.Proofs.YthfeoiffoeagkaaGreatDoor.LK
