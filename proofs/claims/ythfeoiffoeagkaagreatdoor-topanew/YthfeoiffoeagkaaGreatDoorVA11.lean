/-
  Lists of layers appended in memory of the call's own.
-/
import Derived.Test.YthfeoiffoeagkaaGreatDoorVA9
import Derived.Test.YthfeoiffoeagkaaGreatDoorVA10
namespace Go.Proofs.YthfeoiffoeagkaaGreatDoor
open Go.RowKit PM Go.Sort
set_option linter.unusedVariables false
def Lay.v (x : Lay) : Value:=.slice x.ad x.es.length x.cap
theorem infoT : ∃ i0,Tryz.prog.info? 23 = some i0 ∧ i0.zero = some (.slice none 0 0) ∧ i0.size = 1 ∧ i0.bytes = 24:=by
 have h : (Tryz.prog.info? 23).map (fun i => (i.zero,i.size,i.bytes)) = some (some (.slice none 0 0),1,24):=by kernel_rfl
 cases hi : Tryz.prog.info? 23 with
 | none => rw [hi] at h;cases h
 | some i0 =>
  rw [hi] at h
  simp only [Option.map_some,Option.some.injEq,Prod.mk.injEq] at h
  exact ⟨i0,rfl,h.1,h.2.1,h.2.2⟩
def RowsT (w : World) (base : Nat) (v : Value) (ls : List Lay) : Prop:=w.ownsRow base 23 1 v ls.length (ls.map Lay.v)
theorem RowsT.new (w : World) (H : Nat) (hH : H = w.heap.size) : RowsT (w.alloc (.cells #[] 23)) H (.slice (some ⟨H,0,none⟩) 0 0) []:=by
 subst hH
 exact ⟨rfl,.inr ⟨w.heap.size,0,#[],rfl,Nat.le_refl _,(by show (w.heap.push _)[w.heap.size]? = _;simp),Nat.le_refl _,by decide,rfl,rfl⟩⟩
theorem RowsT.alloc {w : World} {base : Nat} {v : Value} {ls : List Lay} (h : RowsT w base v ls) (o : Obj) : RowsT (w.alloc o) base v ls:=World.ownsRow.alloc h o
theorem RowsT.form {w : World} {base : Nat} {v : Value} {ls : List Lay} (h : RowsT w base v ls) : ∃ p c,v = .slice p ls.length c ∧ LiesT w p ls:=by
 obtain ⟨h1,⟨h2,h3⟩ | ⟨g,cap,cur,hv',hg,hh,hnc,hm,hs,ht⟩⟩:=h
 ·have : ls = []:=List.eq_nil_of_length_eq_zero h3
  subst this
  exact ⟨none,0,h2,.inl rfl⟩
 ·refine ⟨some ⟨g,0,none⟩,cap,hv',.inr ⟨g,0,rfl,?_,fun j x hx => ?_⟩⟩
  ·rcases Nat.lt_or_ge g w.heap.size with h' | h'
   ·exact h'
   ·rw [Array.getElem?_eq_none h'] at hh;cases hh
  ·have hj:=(List.getElem?_eq_some_iff.1 hx).1
   have h0 : (ls.map Lay.v)[j]? = some x.v:=by rw [List.getElem?_map,hx];rfl
   rw [← ht,List.getElem?_take] at h0
   split at h0
   ·simp only [World.cell?,hh]
    simpa [Lay.v] using h0
   ·cases h0
theorem append_lays {ops : Array Oper} {rest : List Oper} {o : Oper} {a : Act} {Q : Exit → Act → World → Prop} (X : World) (hgd : o.guard = none) (s x : Operand)
  (ho : o.op = .call { callee:=.builtin .append,args:=#[s,x],argTypes:=#[24,24] }) (base : Nat) (v : Value) (l : List Lay) (hs : a.eval s = v) (hrow : RowsT X base v l) (hlen : l.length ≤ 80) (hbase : base ≤ X.heap.size)
  (p : Option Addr) (n cap : Nat) (t : List Lay) (hx : a.eval x = .slice p n cap) (hn : n = t.length) (hL : t = [] ∨ ∃ ad,p = some ad ∧ ∀ j y,t[j]? = some y → X.cell? (ad.add j) = some y.v) (hnil : p = none → cap = 0) (h80 : n ≤ 80)
  (h : ∀ v' w',RowsT w' base v' (l ++ t) → Below base X w' → wpList Tryz.prog ops Q rest (a.put o.dst v') w') :
  wpList Tryz.prog ops Q (o :: rest) a X:=by
 obtain ⟨i0,hi,hz0,hz1,hz2⟩:=infoT
 cases p with
 | none =>
  obtain rfl : cap = 0:=hnil rfl
  have ht : t = []:=by
   rcases hL with h | ⟨ad,he,_⟩
   ·exact h
   ·cases he
  subst ht
  obtain rfl : n = 0:=hn
  refine wpList_append_own_none hgd s x 24 ho base 23 i0 1 Tryz.underlying24 hi v l.length (l.map Lay.v) hs hrow hx ?_
  exact h v X (by rw [List.append_nil];exact hrow) (Below.refl _ _)
 | some ad =>
  refine wpList_append_own X hgd s x 24 ho base 23 i0 _ 1 24 Tryz.underlying24 hi hz0 hz1 hz2 rfl (by decide) v l.length (l.map Lay.v) hs hrow ad n cap (t.map Lay.v) hx (by rw [List.length_map,hn];omega) (fun j u hu => ?_) (fun u hu => ?_) (by unfold maxLen;omega) (by omega) hbase ?_
  ·rw [List.getElem?_map] at hu
   obtain ⟨y,hy,rfl⟩:=Option.map_eq_some_iff.1 hu
   rcases hL with h | ⟨ad',he,hc⟩
   ·rw [h] at hy;simp at hy
   ·cases he
    exact hc j y hy
  ·obtain ⟨y,_,rfl⟩:=List.mem_map.1 hu
   rfl
  ·intro v' w' hown hg _
   refine h v' w' ?_ ((Below.refl base X).grown hg hbase (fun j hj => (World.ownsRow.lt hrow j hj).1))
   unfold RowsT
   rw [List.length_append,List.map_append,← hn]
   exact hown
theorem LiesT.kept {w W : World} {p : Option Addr} {ls : List Lay} (h : LiesT w p ls) (hB : Below w.heap.size w W) : LiesT W p ls:=by
 rcases h with h | ⟨b,off,hp,hb,hc⟩
 ·exact .inl h
 ·exact .inr ⟨b,off,hp,Nat.lt_of_lt_of_le hb hB.size,fun j x hx => (hB.cell (p:=⟨b,off + j,none⟩) hb).trans (hc j x hx)⟩
end Go.Proofs.YthfeoiffoeagkaaGreatDoor
