/-
  The library's slices.Backward over a list of layers: what its iterator hands out.
-/
import Derived.RangeFuncNested
import Derived.RangeFuncBound
import Derived.RangeFuncCalls
import Derived.RangeFuncLeaves
import Derived.RangeFuncFrom
import Derived.RangeFuncBox
import Derived.Shelf.Abstract
import Derived.Shelf.RegionOpen
import Derived.WalkKit
import Derived.OwnWalkIn
import Derived.TacticsInMore
import Derived.LoopNIn
import Derived.LoopIn
import Derived.Test.YthfeoiffoeagkaaGreatDoorXA6
import Derived.Deep.RegionHeld
namespace Go.Proofs.YthfeoiffoeagkaaGreatDoor
open Go.RowKit Go.Shelf PM
set_option linter.unusedVariables false
attribute [local go_sem] Oper.semAt_some
structure Lay where
 ad : Option Addr
 cap : Nat
 es : List Ent
def KpB (n₀ Bs : Nat) (A B : World) : Prop:=Below n₀ A B ∧ ∀ v,A.cell? ⟨Bs,0,none⟩ = some v → B.cell? ⟨Bs,0,none⟩ = some v
theorem KpB.refl (n₀ Bs : Nat) (A : World) : KpB n₀ Bs A A:=⟨Below.refl _ _,fun _ h => h⟩
theorem KpB.trans {n₀ Bs : Nat} {A B C : World} (h : KpB n₀ Bs A B) (k : KpB n₀ Bs B C) : KpB n₀ Bs A C:=⟨h.1.trans k.1,fun v hv => k.2 v (h.2 v hv)⟩
set_option maxRecDepth 100000 in
set_option maxHeartbeats 2000000 in
theorem zm (F : Fence) (n : Nat) (h7 : F.fn 156) (hro : F.round = none) (l Bs : Nat) (a : Option Addr) (cap : Nat) (W : World) (hBs : W.cell? ⟨Bs,0,none⟩ = some (.slice a 0 cap)) :
  CallsIn F n Tryz.prog 156 #[.func (.yield l) #[] #[],.pointer (some ⟨Bs,0,none⟩)] W fun e W' => (∃ v,e = .returned v) ∧ W' = W:=by
 refine callsIn_of_wp Tryz.func156 rfl h7 ?_ hro
 simp only [Tryz.ntmps156,List.size_toArray,List.length_cons,List.length_nil,Nat.reduceAdd,Nat.reduceSub,Array.replicate_succ,Array.replicate_zero,List.push_toArray,List.append_toArray,List.nil_append,List.cons_append]
 gi_wp2
 gi_loopw [3] (fun i wr => i = .int .i64 (-1) ∧ wr = W) (fun _ _ => 0)
 case atStart => exact ⟨rfl,rfl⟩
 case round =>
  obtain ⟨rfl,rfl⟩:=hrel
  gi_wp2
  go_end0
  exact ⟨⟨_,rfl⟩,rfl⟩
set_option maxRecDepth 100000 in
set_option maxHeartbeats 4000000 in
theorem Hu {α : Type} (f : α → Nat × Lay) (F : Fence) (n : Nat) (h7 : F.fn 156) (hro : F.round = none) (hn : 1 ≤ n) (l Bs n₀ b off cap N : Nat) (us : List α) (hN : N = us.length) (h80 : N ≤ 80) (hb : b < n₀) (J Jx : List α → World → Prop)
  (hY : ∀ pre x W,J pre W → pre.length < N → YieldAt F (n - 1) Tryz.prog l #[.int .i64 ((f x).1 : Int),.slice (f x).2.ad (f x).2.es.length (f x).2.cap] W fun e W' =>
    (e = .returned (.bool true) ∧ J (pre ++ [x]) W' ∧ KpB n₀ Bs W W') ∨ (e = .returned (.bool false) ∧ Jx (pre ++ [x]) W'))
  (W : World) (hBs : W.cell? ⟨Bs,0,none⟩ = some (.slice (some ⟨b,off,none⟩) N cap)) (hc : ∀ k x,us[k]? = some x → (f x).1 = N - 1 - k ∧ W.cell? ⟨b,off + (N - 1 - k),none⟩ = some (.slice (f x).2.ad (f x).2.es.length (f x).2.cap)) (h0 : J [] W) :
  CallsIn F n Tryz.prog 156 #[.func (.yield l) #[] #[],.pointer (some ⟨Bs,0,none⟩)] W fun e W' => (∃ v,e = .returned v) ∧
   ((∃ ys,ys = us ∧ J ys W') ∨ (∃ pre,(∃ k,k ≤ N ∧ pre = us.take k) ∧ Jx pre W')):=by
 refine callsIn_of_wp Tryz.func156 rfl h7 ?_ hro
 simp only [Tryz.ntmps156,List.size_toArray,List.length_cons,List.length_nil,Nat.reduceAdd,Nat.reduceSub,Array.replicate_succ,Array.replicate_zero,List.push_toArray,List.append_toArray,List.nil_append,List.cons_append]
 have hw0 : IntKind.i64.wrap ((N : Int) - 1) = (N : Int) - 1:=by simp [IntKind.wrap,IntKind.bits,IntKind.signed];omega
 gi_wp2
 gi_loopw [3] (fun i wr => ∃ k : Nat,k ≤ N ∧ i = .int .i64 ((N : Int) - 1 - k) ∧ J (us.take k) wr ∧ KpB n₀ Bs W wr) (fun i _ => (intOf i + 1).toNat)
 case atStart => exact ⟨0,Nat.zero_le _,by simp [hN],by simpa using h0,KpB.refl _ _ _⟩
 case round =>
  obtain ⟨k,hk,rfl,hJs,hnx⟩:=hrel
  by_cases hlt : k < N
  ·obtain ⟨x,hx⟩ : ∃ x,us[k]? = some x:=⟨_,List.getElem?_eq_getElem (by omega)⟩
   obtain ⟨hf1,hcx0⟩:=hc k x hx
   have hcx:=(hnx.1.cell (p:=⟨b,off + (N - 1 - k),none⟩) hb).trans hcx0
   have hbx:=hnx.2 _ hBs
   obtain ⟨fn,tmps,assign,body,hy,hR⟩:=hY _ x wr hJs (by rw [List.length_take];omega)
   have hsn : us.take k ++ [x] = us.take (k + 1):=by
    obtain ⟨h1,h2⟩:=List.getElem?_eq_some_iff.1 hx
    rw [List.take_succ_eq_append_getElem h1,h2]
   rw [hsn] at hR
   rw [hf1] at hy
   obtain ⟨j,hj⟩ : ∃ j,N - 1 - k = j:=⟨_,rfl⟩
   have hjz : (N : Int) - 1 - k = (j : Int):=by omega
   have hjN : j < N:=by omega
   have hjNz : (j : Int) < (N : Int):=by omega
   have hj0 : (0 : Int) ≤ (j : Int):=by omega
   have hwj : IntKind.i64.wrap ((j : Int) - 1) = (j : Int) - 1:=by simp [IntKind.wrap,IntKind.bits,IntKind.signed];omega
   rw [hj] at hcx hy
   rw [hjz]
   gi_wp2
   refine hR.mono ?_
   rintro e W3 (⟨rfl,hJ3,hk3⟩ | ⟨rfl,hJx3⟩)
   ·gi_wp2
    go_roundw
    case rel => exact ⟨k + 1,by omega,by congr 1 <;> omega,hJ3,hnx.trans hk3⟩
    case measure => simp [intOf]
   ·gi_wp2
    refine bodyPost_ret (results_none rfl _ _ _) rfl ?_
    exact ⟨⟨_,rfl⟩,.inr ⟨_,⟨k + 1,by omega,rfl⟩,hJx3⟩⟩
  ·obtain rfl : k = N:=by omega
   have hjz : (k : Int) - 1 - k = -1:=by omega
   rw [hjz]
   gi_wp2
   go_end0
   refine ⟨⟨_,rfl⟩,.inl ⟨_,rfl,?_⟩⟩
   rw [hN,List.take_length] at hJs
   exact hJs
set_option maxHeartbeats 1000000 in
theorem Jb (F : Fence) (n : Nat) (h5 : F.fn 111) (hro : F.round = none) (a : Option Addr) (len cap : Nat) (w : World) :
  CallsIn F n Tryz.prog 111 #[.slice a len cap] w fun e w' => e = .returned (.func (.func 156) #[] #[.pointer (some ⟨w.heap.size,0,none⟩)]) ∧ w' = w.alloc (.cells #[.slice a len cap] 24):=by
 refine callsIn_of_wp Tryz.func111 rfl h5 ?_ hro
 simp only [Tryz.ntmps111,List.size_toArray,List.length_cons,List.length_nil,Nat.reduceAdd,Nat.reduceSub,Array.replicate_succ,Array.replicate_zero,List.push_toArray,List.append_toArray,List.nil_append,List.cons_append]
 gi_wp2
 go_ret
 exact ⟨rfl,rfl⟩
def yX {α : Type} (f : α → Nat × Lay) (us : List α) (W : World) (a : Option Addr) (n₀ N : Nat) : Prop :=
 N = us.length ∧ (us = [] ∨ ∃ b off,a = some ⟨b,off,none⟩ ∧ b < n₀ ∧ ∀ k x,us[k]? = some x → (f x).1 = N - 1 - k ∧ W.cell? ⟨b,off + (N - 1 - k),none⟩ = some (.slice (f x).2.ad (f x).2.es.length (f x).2.cap))
theorem DU {α : Type} (f : α → Nat × Lay) (F : Fence) (n : Nat) (h7 : F.fn 156) (hro : F.round = none) (hn : 1 ≤ n) (Bs n₀ N cap : Nat) (a : Option Addr) (us : List α) (h80 : N ≤ 80) (w : World) (hBs : Bs < w.heap.size) (hn₀ : n₀ ≤ w.heap.size)
  (hc : w.cell? ⟨Bs,0,none⟩ = some (.slice a N cap)) (hI : yX f us w a n₀ N) :
  SeqStopsK F n Tryz.prog 156 #[.pointer (some ⟨Bs,0,none⟩)] (fun x : α => #[Value.int .i64 ((f x).1 : Int),.slice (f x).2.ad (f x).2.es.length (f x).2.cap]) (KpB n₀ Bs) (fun ys => ys = us)
   (fun pre => ∃ k,k ≤ N ∧ pre = us.take k) N w:=fun l J Jx W hW _ _ hY h0 => by
 have hc':=(hW.cell (p:=⟨Bs,0,none⟩) hBs).trans hc
 obtain ⟨hN,rfl | ⟨b,off,rfl,hb,hcs⟩⟩:=hI
 ·obtain rfl : N = 0:=hN
  exact (zm F n h7 hro l Bs a cap W hc').mono fun e W' ⟨he,hw⟩ => ⟨he,.inl ⟨_,rfl,by rw [hw];exact h0⟩⟩
 ·exact Hu f F n h7 hro hn l Bs n₀ b off cap N us hN h80 hb J Jx hY W hc' (fun k x hx => ⟨(hcs k x hx).1,((hW.mono hn₀).cell (p:=⟨b,off + (N - 1 - k),none⟩) hb).trans (hcs k x hx).2⟩) h0
theorem JR {w : World} {n₀ Bs : Nat} (h : n₀ ≤ w.heap.size) : ∀ (W : World) (l : Nat) (o o' : Obj),w.heap.size ≤ l → W.heap[l]? = some o → o.isCells = false → o.isWalk = false → KpB n₀ Bs W (W.putObj l o'):=fun W l o o' h1 h2 h3 h4 =>
 ⟨belowK_b h W l o o' h1 h2 h3 h4,fun v hv => cell_kept hv (grownBy_putObj' W l o') (fun r e => by cases e;exact ⟨o,h2,h3⟩)⟩
attribute [local go_sem] Oper.semAt_some
def bO (w : World) (p : Option Addr) (ls : List Lay) : Prop:=ls = [] ∨ ∃ b off,p = some ⟨b,off,none⟩ ∧ b < w.heap.size ∧ ∀ j x,ls[j]? = some x → w.cell? ⟨b,off + j,none⟩ = some (.slice x.ad x.es.length x.cap)
structure dZ (w : World) (x : Lay) : Prop where
 lies : Lies w x.ad x.es
 fits : Fits x.es
 cap : x.es.length ≤ x.cap
 small : x.es.length < 4611686018427387904
theorem dZ.kept {w W : World} {x : Lay} (h : dZ w x) (hB : Below w.heap.size w W) : dZ W x:=⟨h.lies.kept hB,h.fits,h.cap,h.small⟩
abbrev Al (w : World) : Type:={ x : Nat × Lay // dZ w x.2 }
def esOf {w : World} (pre : List (Al w)) : List (List Ent):=(pre.map fun x => x.1.2.es).reverse
theorem EM {w : World} (pre : List (Al w)) (x : Al w) : esOf (pre ++ [x]) = x.1.2.es :: esOf pre:=by simp [esOf]
def usOf {w : World} (ls : List Lay) (h : ∀ x ∈ ls,dZ w x) : List (Al w):=List.ofFn fun k : Fin ls.length => ⟨(ls.length - 1 - k,ls[ls.length - 1 - k]'(by have:=k.2;omega)),h _ (List.getElem_mem _)⟩
theorem yI {w : World} (ls : List Lay) (h : ∀ x ∈ ls,dZ w x) : (usOf ls h).length = ls.length:=by simp [usOf]
theorem BO {w : World} {ls : List Lay} {h : ∀ x ∈ ls,dZ w x} {k : Nat} {x : Al w} (hx : (usOf ls h)[k]? = some x) : x.1.1 = ls.length - 1 - k ∧ ls[ls.length - 1 - k]? = some x.1.2:=by
 unfold usOf at hx
 rw [List.getElem?_ofFn] at hx
 split at hx
 ·rename_i hk
  cases hx
  exact ⟨rfl,List.getElem?_eq_getElem _⟩
 ·cases hx
theorem Jj {w : World} (ls : List Lay) (h : ∀ x ∈ ls,dZ w x) : esOf (usOf ls h) = ls.map (·.es):=by
 unfold esOf
 apply List.ext_getElem
 ·simp [usOf]
 ·intro i h1 h2
  simp [usOf] at h1 h2
  simp [usOf]
  congr 2
  omega
theorem vR : ∀ {a r : List (List Ent)},¬ (ay r).1 = 0 → ay (a ++ r) = ((ay r).1,[])
 | [],r,h => by
  have:=tN h
  exact Prod.ext rfl this
 | x :: a,r,h => by
  have ih:=vR (a:=a) h
  show ay (x :: (a ++ r)) = _
  rw [qH (by rw [ih];exact h),ih]
theorem gP {t : List Ent} (h : Right false t) : Fits t:=fun e he => by
 have hw:=h.each e he
 have h1:=bM (bA hw)
 have h2 : e.text.size ≤ 100:=by
  unfold aI at hw
  split at hw
  ·cases hw
  ·split at hw
   ·cases hw
   ·split at hw
    ·cases hw
    ·omega
 unfold maxLen
 omega
theorem Lies.gV {W : World} {p : Option Addr} {t : List Ent} (h : Lies W p t) (a : Addr) (v : Value) (hne : ∀ b off s,p = some ⟨b,off,s⟩ → a.block ≠ b) : Lies (W.setCell a v) p t:=by
 rcases h with h | ⟨b,off,rfl,hb,hc⟩
 ·exact .inl h
 ·refine .inr ⟨b,off,rfl,by simpa using hb,fun j e he i v' hv => ?_⟩
  rw [World.cell?_setCell_far _ _ _ _ (hne b off none rfl)]
  exact hc j e he i v' hv
theorem Lies.Ee {W W' : World} {p : Option Addr} {t : List Ent} {row : Option Nat} (h : Lies W p t) (hg : W.grownBy W' row) (hr : ∀ r,row = some r → ∃ o : Obj,W.heap[r]? = some o ∧ o.isCells = false) : Lies W' p t:=by
 rcases h with h | ⟨b,off,rfl,hb,hc⟩
 ·exact .inl h
 ·exact .inr ⟨b,off,rfl,Nat.lt_of_lt_of_le hb hg.size,fun j e he i v' hv => cell_kept (hc j e he i v' hv) hg hr⟩
theorem pW {W W' : World} (h : Below W.heap.size W W') : KeepsOthers W W':=⟨h.size,fun k o hk _ => (h.block k (Array.getElem?_eq_some_iff.1 hk).1).trans hk⟩
theorem mq {W W2 : World} (h : Below W.heap.size W W2) {a : Addr} {v : Value} (hc : W.cell? a = some v) (hf : W.frozen? a = false) : W2.cell? a = some v ∧ W2.frozen? a = false :=
 ⟨(h.cell (block_lt_of_cell hc)).trans hc,(World.frozen?_of_block (h.block a.block (block_lt_of_cell hc))).trans hf⟩
theorem Co {w W : World} (m : Int) (x : Al w) (pre : List (Al w)) (pT : Option Addr) (cT : Nat) (hB : Below w.heap.size w W) (h0 : (ay (esOf pre)).1 = 0) (hL : Lies W pT (ay (esOf pre)).2) (hc : (ay (esOf pre)).2.length ≤ cT) (hm : w.cell? ⟨0,0,none⟩ = some (.int .i64 m)) :
  Calls Tryz.prog 112 #[.slice x.1.2.ad x.1.2.es.length x.1.2.cap,.slice pT (ay (esOf pre)).2.length cT] W (fB (ay (esOf (pre ++ [x]))).1 (ay (esOf (pre ++ [x]))).2 W):=by
 have hr:=iX h0
 have hx:=x.2.kept hB
 have:=Gb x.1.2.es (ay (esOf pre)).2 m x.1.2.ad pT x.1.2.cap cT W hx.lies hL hx.fits (gP hr) hx.small (by have:=hr.len;omega) hx.cap hc (held hB hm)
 rw [EM,lg h0]
 exact this
set_option maxRecDepth 100000 in
set_option maxHeartbeats 4000000 in
theorem Di (n : Nat) (h5 : 5 < n) (p : Option Addr) (cap : Nat) (w : World) : Calls Tryz.prog 77 #[.slice p n cap] w (fB 5 [] w):=by
 have h5z : (5 : Int) < (n : Int):=by omega
 refine (callsIn_wide (n:=3)).1 ?_
 refine callsIn_of_wp_marks Tryz.func77 rfl trivial ?_ rfl
 simp only [Tryz.ntmps77,List.size_toArray,List.length_cons,List.length_nil,Nat.reduceAdd,Nat.reduceSub,Array.replicate_succ,Array.replicate_zero,List.push_toArray,List.append_toArray,List.nil_append,List.cons_append]
 gi_wp2
 refine ⟨.tuple #[.slice none 0 0,.int .i64 5],?_,fB.none (((Below.refl _ w).alloc (Nat.le_refl _) _).alloc (by simp) _)⟩
 simp [results,Tryz.results77,go_sem]
set_option maxRecDepth 100000 in
set_option maxHeartbeats 8000000 in
theorem FI (ls : List Lay) (m : Int) (p : Option Addr) (cap : Nat) (w : World) (hT : bO w p ls) (hOK : ∀ x ∈ ls,dZ w x) (h5 : ls.length ≤ 5) (hm : w.cell? ⟨0,0,none⟩ = some (.int .i64 m)) :
  Calls Tryz.prog 77 #[.slice p ls.length cap] w (fB (ay (ls.map (·.es))).1 (ay (ls.map (·.es))).2 w):=by
 have h5z : ¬ (5 : Int) < (ls.length : Int):=by omega
 have hes:=Jj ls hOK
 have hBK : yX (fun x : Al w => x.1) (usOf ls hOK) w p w.heap.size ls.length:=by
  refine ⟨(yI ls hOK).symm,?_⟩
  rcases hT with h | ⟨b,off,hp,hb,hc⟩
  ·left
   apply List.eq_nil_of_length_eq_zero
   rw [yI,h];rfl
  ·exact .inr ⟨b,off,hp,hb,fun k x hx => ⟨(BO hx).1,hc _ _ (BO hx).2⟩⟩
 generalize usOf ls hOK = us at hes hBK
 rw [← hes]
 generalize ls.length = N at h5 h5z hBK
 clear hes hT hOK
 refine (callsIn_wide (n:=3)).1 ?_
 refine callsIn_of_wp_marks Tryz.func77 rfl trivial ?_ rfl
 simp only [Tryz.ntmps77,List.size_toArray,List.length_cons,List.length_nil,Nat.reduceAdd,Nat.reduceSub,Array.replicate_succ,Array.replicate_zero,List.push_toArray,List.append_toArray,List.nil_append,List.cons_append]
 gi_wp2_with (refine ⟨trivial,?_⟩;gi_at_call 111;refine (Jb Fence.wide _ trivial rfl _ _ _ _).mono ?_;rintro e w' ⟨rfl,rfl⟩)
 have bR0:=Boxed.new w 23 (.slice none 0 0)
 have bR1:=Boxed.new (w.alloc (.cells #[.slice none 0 0] 23)) 31 (.int .i64 0)
 have bT:=Boxed.new ((w.alloc (.cells #[.slice none 0 0] 23)).alloc (.cells #[.int .i64 0] 31)) 23 (.slice none 0 0)
 have bN:=Boxed.new (((w.alloc (.cells #[.slice none 0 0] 23)).alloc (.cells #[.int .i64 0] 31)).alloc (.cells #[.slice none 0 0] 23)) 24 (.slice p N cap)
 simp only [World.size_alloc] at bR1 bT bN
 obtain ⟨W0,hW0⟩ : ∃ W0,(((w.alloc (.cells #[.slice none 0 0] 23)).alloc (.cells #[.int .i64 0] 31)).alloc (.cells #[.slice none 0 0] 23)).alloc (.cells #[.slice p N cap] 24) = W0:=⟨_,rfl⟩
 have hB0 : Below w.heap.size w W0:=by
  rw [← hW0]
  exact ((((Below.refl _ w).alloc (Nat.le_refl _) _).alloc (by simp) _).alloc (by simp;omega) _).alloc (by simp;omega) _
 have hs0 : W0.heap.size = w.heap.size + 4:=by rw [← hW0];simp
 have b0 : Boxed W0 w.heap.size 23 (.slice none 0 0):=by rw [← hW0];exact ((bR0.alloc _).alloc _).alloc _
 have b1 : Boxed W0 (w.heap.size + 1) 31 (.int .i64 0):=by rw [← hW0];exact (bR1.alloc _).alloc _
 have b2 : Boxed W0 (w.heap.size + 1 + 1) 23 (.slice none 0 0):=by rw [← hW0];exact bT.alloc _
 have b3 : W0.cell? ⟨w.heap.size + 1 + 1 + 1,0,none⟩ = some (.slice p N cap):=by rw [← hW0];exact bN.cell
 have hBK0 : yX (fun x : Al w => x.1) us W0 p w.heap.size N:=by
  obtain ⟨h1,h2 | ⟨b,off,hp,hb,hc⟩⟩:=hBK
  ·exact ⟨h1,.inl h2⟩
  ·exact ⟨h1,.inr ⟨b,off,hp,hb,fun k x hx => ⟨(hc k x hx).1,(hB0.cell (p:=⟨b,off + (N - 1 - k),none⟩) hb).trans (hc k x hx).2⟩⟩⟩
 rw [hW0]
 clear bR0 bR1 bT bN hBK
 refine wpIn_rangeFunc_ownG rfl (by omega) (gf:=156) (lb:=#[.pointer (some ⟨w.heap.size + 1 + 1 + 1,0,none⟩)]) rfl trivial (enters_of Tryz.func156 (by kernel_rfl) rfl)
  (DU (fun x : Al w => x.1) Fence.wide _ trivial rfl (by omega) (w.heap.size + 1 + 1 + 1) w.heap.size N cap p us (by omega) W0 (by omega) (by omega) b3 hBK0) KpB.trans (JR (by omega)) (Below.refl _ _) (fun _ => rfl)
  (fun pre W => ((ay (esOf pre)).1 = 0 ∧ (W.cell? ⟨w.heap.size,0,none⟩ = some (.slice none 0 0) ∧ W.frozen? ⟨w.heap.size,0,none⟩ = false) ∧ (W.cell? ⟨w.heap.size + 1,0,none⟩ = some (.int .i64 0) ∧ W.frozen? ⟨w.heap.size + 1,0,none⟩ = false) ∧
    ∃ pT cT,(W.cell? ⟨w.heap.size + 1 + 1,0,none⟩ = some (.slice pT (ay (esOf pre)).2.length cT) ∧ W.frozen? ⟨w.heap.size + 1 + 1,0,none⟩ = false) ∧ Lies W pT (ay (esOf pre)).2 ∧ (ay (esOf pre)).2.length ≤ cT ∧ (pT = none → cT = 0) ∧ ∀ b off s,pT = some ⟨b,off,s⟩ → w.heap.size + 3 ≤ b) ∧ Below w.heap.size w W)
  (fun c pre W => (c = .ret ∧ ¬ (ay (esOf pre)).1 = 0 ∧ W.cell? ⟨w.heap.size,0,none⟩ = some (.slice none 0 0) ∧ W.cell? ⟨w.heap.size + 1,0,none⟩ = some (.int .i64 (ay (esOf pre)).1)) ∧ Below w.heap.size w W)
  (OwnFrom.and (Own.from (fun s A B row hs hg hr => ⟨hs.1,⟨cell_kept hs.2.1.1 hg hr,(frozen_kept hs.2.1.1 hg hr).trans hs.2.1.2⟩,⟨cell_kept hs.2.2.1.1 hg hr,(frozen_kept hs.2.2.1.1 hg hr).trans hs.2.2.1.2⟩,by
    obtain ⟨pT,cT,⟨e1,e2⟩,e3,e4⟩:=hs.2.2.2
    exact ⟨pT,cT,⟨cell_kept e1 hg hr,(frozen_kept e1 hg hr).trans e2⟩,e3.Ee hg hr,e4⟩⟩) _) (ownFrom_below (Nat.le_refl _) (by omega)))
  (fun c => OwnFrom.and (Own.from (fun s A B row hs hg hr => ⟨hs.1,hs.2.1,cell_kept hs.2.2.1 hg hr,cell_kept hs.2.2.2 hg hr⟩) _) (ownFrom_below (Nat.le_refl _) (by omega)))
  ⟨⟨rfl,⟨b0.cell,b0.frozen⟩,⟨b1.cell,b1.frozen⟩,none,0,⟨b2.cell,b2.frozen⟩,Lies.nil _ _,Nat.le_refl _,fun _ => rfl,nofun⟩,hB0⟩
  (fun x => { tmps:=#[.slice p N cap,undef,.pointer (some ⟨w.heap.size,0,none⟩),.pointer (some ⟨w.heap.size + 1,0,none⟩),.pointer (some ⟨w.heap.size + 1 + 1,0,none⟩),undef,(.slice x.1.2.ad x.1.2.es.length x.1.2.cap),undef,undef,.slice p N cap,.int .i64 (N : Int),.bool false,.slice p N cap,.func (.func 156) #[] #[.pointer (some ⟨w.heap.size + 1 + 1 + 1,0,none⟩)],.int .i64 (x.1.1 : Int),(.slice x.1.2.ad x.1.2.es.length x.1.2.cap),undef,undef,undef,undef,undef,undef,undef,undef,undef,undef,undef],defers:=[] }) ?assign ?body ?done ?stop
 case assign =>
  intro l x W K hK
  gi_wp2
  exact hK
 case body =>
  rintro l pre x W ⟨⟨hz,⟨r0,f0⟩,⟨r1,f1⟩,pT,cT,⟨t0,g0⟩,hLT,hcT,hnT,hbT⟩,hB⟩ _
  have hov:=Co m x pre pT cT hB hz hLT hcT hm
  have hsW:=hB.size
  generalize hmp : ay (esOf (pre ++ [x])) = mp at hov
  generalize (ay (esOf pre)).2.length = lT at t0 hov hcT
  have hTl:=block_lt_of_cell t0
  simp only at hTl
  have hne02 : w.heap.size ≠ w.heap.size + 1 + 1:=by omega
  have hne12 : w.heap.size + 1 ≠ w.heap.size + 1 + 1:=by omega
  by_cases hmz : mp.1 = 0
  ·rw [hmz] at hov
   gi_wp2_with (refine ⟨trivial,?_⟩;gi_at_call 112;refine (CallsIn.inRound l (callsIn_wide.2 hov)).mono ?_;clear hov;rintro e W2 ⟨p2,c2,rfl,hL2,hc2,hn2,hN2,hnew⟩;obtain ⟨r0',f0'⟩:=mq hN2 r0 f0;obtain ⟨r1',f1'⟩:=mq hN2 r1 f1;obtain ⟨t0',g0'⟩:=mq hN2 t0 g0)
   refine ⟨((pW hN2).trans (KeepsOthers.setCell _ _ _)).from _,⟨(hN2.mono hsW).setCell (p:=⟨w.heap.size + 1 + 1,0,none⟩) (by simp only;omega) _,fun v hv => ?_⟩,⟨?_,⟨?_,?_⟩,⟨?_,?_⟩,p2,c2,⟨?_,?_⟩,?_,?_,hn2,?_⟩,?_⟩
   ·rw [World.cell?_setCell_far _ _ _ _ (by simp only;omega)]
    exact (hN2.cell (block_lt_of_cell hv)).trans hv
   ·rw [hmp];exact hmz
   ·rw [World.cell?_setCell_far _ _ _ _ (by simp only;omega)];exact r0'
   ·rw [World.frozen?_setCell];exact f0'
   ·rw [World.cell?_setCell_far _ _ _ _ (by simp only;omega)];exact r1'
   ·rw [World.frozen?_setCell];exact f1'
   ·rw [hmp];exact World.cell?_setCell_same' _ _ _ (by rw [t0'];rfl)
   ·rw [World.frozen?_setCell];exact g0'
   ·rw [hmp];exact hL2.gV _ _ (fun b off s h => by have:=hnew b off s h;simp only;omega)
   ·rw [hmp];exact hc2
   ·intro b off s h
    have:=hnew b off s h
    omega
   ·exact (Below.onto hB hN2).setCell (p:=⟨w.heap.size + 1 + 1,0,none⟩) (by simp only;omega) _
  ·gi_wp2_with (refine ⟨trivial,?_⟩;gi_at_call 112;refine (CallsIn.inRound l (callsIn_wide.2 hov)).mono ?_;clear hov;rintro e W2 ⟨p2,c2,rfl,hL2,hc2,hn2,hN2,hnew⟩;obtain ⟨r0',f0'⟩:=mq hN2 r0 f0;obtain ⟨r1',f1'⟩:=mq hN2 r1 f1;obtain ⟨t0',g0'⟩:=mq hN2 t0 g0)
   refine ⟨(((pW hN2).trans (KeepsOthers.setCell _ _ _)).trans (KeepsOthers.setCell _ _ _)).from _,⟨rfl,by rw [hmp];exact hmz,?_,?_⟩,?_⟩
   ·rw [World.cell?_setCell_far _ _ _ _ (by simp only;omega)];exact World.cell?_setCell_same' _ _ _ (by rw [r0'];rfl)
   ·rw [hmp];exact World.cell?_setCell_same' _ _ _ (by rw [World.cell?_setCell_far _ _ _ _ (by simp only;omega),r1'];rfl)
   ·exact ((Below.onto hB hN2).setCell (p:=⟨w.heap.size,0,none⟩) (Nat.le_refl _) _).setCell (p:=⟨w.heap.size + 1,0,none⟩) (by simp) _
 case done =>
  rintro D ys W hD rfl ⟨⟨hz,⟨r0,f0⟩,⟨r1,f1⟩,pT,cT,⟨t0,g0⟩,hLT,hcT,hnT,hbT⟩,hB⟩ hK
  gi_wp2
  have hK2:=((KeepsOthers.setCell W ⟨w.heap.size,0,none⟩ (.slice pT (ay (esOf ys)).2.length cT)).trans (KeepsOthers.setCell _ ⟨w.heap.size + 1,0,none⟩ (.int .i64 0))).same D _ hK rfl
  refine ⟨by simp,.inl ⟨_,_,rfl,run_takeDeferred hK2,?_⟩⟩
  have hg:=grownBy_putObj' ((W.setCell ⟨w.heap.size,0,none⟩ (.slice pT (ay (esOf ys)).2.length cT)).setCell ⟨w.heap.size + 1,0,none⟩ (.int .i64 0)) D (.deferred none)
  have hr : ∀ r,some D = some r → ∃ o : Obj,((W.setCell ⟨w.heap.size,0,none⟩ (.slice pT (ay (esOf ys)).2.length cT)).setCell ⟨w.heap.size + 1,0,none⟩ (.int .i64 0)).heap[r]? = some o ∧ o.isCells = false:=fun r e => by cases e;exact ⟨_,hK2,rfl⟩
  have c0:=cell_kept (a:=⟨w.heap.size,0,none⟩) (v:=.slice pT (ay (esOf ys)).2.length cT) (by rw [World.cell?_setCell_far _ _ _ _ (by simp only;omega)];exact World.cell?_setCell_same' _ _ _ (by rw [r0];rfl)) hg hr
  have c1:=cell_kept (a:=⟨w.heap.size + 1,0,none⟩) (v:=.int .i64 0) (World.cell?_setCell_same' _ _ _ (by rw [World.cell?_setCell_far _ _ _ _ (by simp only;omega),r1];rfl)) hg hr
  refine ⟨.tuple #[.slice pT (ay (esOf ys)).2.length cT,.int .i64 0],?_,?_⟩
  ·simp [results,Tryz.results77,go_sem,c0,c1]
  ·rw [hz]
   refine ⟨pT,cT,rfl,((hLT.gV _ _ (fun b off s h => by have:=hbT b off s h;simp only;omega)).gV _ _ (fun b off s h => by have:=hbT b off s h;simp only;omega)).Ee hg hr,hcT,hnT,?_,fun b off s h => by have:=hbT b off s h;omega⟩
   exact ((hB.setCell (p:=⟨w.heap.size,0,none⟩) (Nat.le_refl _) _).setCell (p:=⟨w.heap.size + 1,0,none⟩) (by simp) _).trans (belowK_b (w:=w) (Nat.le_refl _) _ D _ _ (by omega) hK2 rfl rfl)
 case stop =>
  rintro D c pre W hD ⟨k,hk,rfl⟩ ⟨⟨rfl,hz,r0,r1⟩,hB⟩ hK
  gi_wp2
  refine ⟨by simp,.inl ⟨_,_,rfl,run_takeDeferred hK,?_⟩⟩
  have hg:=grownBy_putObj' W D (.deferred none)
  have hr : ∀ r,some D = some r → ∃ o : Obj,W.heap[r]? = some o ∧ o.isCells = false:=fun r e => by cases e;exact ⟨_,hK,rfl⟩
  have c0:=cell_kept r0 hg hr
  have c1:=cell_kept r1 hg hr
  have hall : ay (esOf us) = ((ay (esOf (us.take k))).1,[]):=by
   have : esOf us = esOf (us.drop k) ++ esOf (us.take k):=by
    unfold esOf
    rw [← List.reverse_append,← List.map_append,List.take_append_drop]
   rw [this]
   exact vR hz
  refine ⟨.tuple #[.slice none 0 0,.int .i64 (ay (esOf (us.take k))).1],?_,?_⟩
  ·simp [results,Tryz.results77,go_sem,c0,c1]
  ·rw [hall]
   exact fB.none (hB.trans (belowK_b (w:=w) (Nat.le_refl _) W D _ _ (by omega) hK rfl rfl))
theorem yg (ls : List Lay) (m : Int) (p : Option Addr) (cap : Nat) (w : World) (hT : bO w p ls) (hOK : ∀ x ∈ ls,dZ w x) (hm : w.cell? ⟨0,0,none⟩ = some (.int .i64 m)) :
  Calls Tryz.prog 77 #[.slice p ls.length cap] w (fB (lI (ls.map (·.es))).1 (lI (ls.map (·.es))).2 w):=by
 unfold lI
 rw [List.length_map]
 by_cases h5 : 5 < ls.length
 ·rw [if_pos h5]
  exact Di ls.length h5 p cap w
 ·rw [if_neg h5]
  exact FI ls m p cap w hT hOK (by omega) hm
theorem FM (ls : List Lay) (m : Int) (p : Option Addr) (cap : Nat) (w : World) (hT : bO w p ls) (hOK : ∀ x ∈ ls,dZ w x) (hm : w.cell? ⟨0,0,none⟩ = some (.int .i64 m)) :
  Calls Tryz.prog 77 #[.slice p ls.length cap] w (dA (lI (ls.map (·.es))).1 (lI (ls.map (·.es))).2 w) :=
 (yg ls m p cap w hT hOK hm).mono fun _ _ h => h.tree
end Go.Proofs.YthfeoiffoeagkaaGreatDoor
namespace Go.Proofs.YthfeoiffoeagkaaGreatDoor
open Go.RowKit PM Go.Sort
set_option linter.unusedVariables false
def Lay.v (x : Lay) : Value:=.slice x.ad x.es.length x.cap
theorem Iw : ∃ i0,Tryz.prog.info? 23 = some i0 ∧ i0.zero = some (.slice none 0 0) ∧ i0.size = 1 ∧ i0.bytes = 24:=by
 have h : (Tryz.prog.info? 23).map (fun i => (i.zero,i.size,i.bytes)) = some (some (.slice none 0 0),1,24):=by kernel_rfl
 cases hi : Tryz.prog.info? 23 with
 | none => rw [hi] at h;cases h
 | some i0 =>
  rw [hi] at h
  simp only [Option.map_some,Option.some.injEq,Prod.mk.injEq] at h
  exact ⟨i0,rfl,h.1,h.2.1,h.2.2⟩
def bn (w : World) (base : Nat) (v : Value) (ls : List Lay) : Prop:=w.ownsRow base 23 1 v ls.length (ls.map Lay.v)
theorem bn.alloc {w : World} {base : Nat} {v : Value} {ls : List Lay} (h : bn w base v ls) (o : Obj) : bn (w.alloc o) base v ls:=World.ownsRow.alloc h o
theorem bn.form {w : World} {base : Nat} {v : Value} {ls : List Lay} (h : bn w base v ls) : ∃ p c,v = .slice p ls.length c ∧ bO w p ls:=by
 obtain ⟨h1,⟨h2,h3⟩ | ⟨g,cap,cur,hv',hg,hh,hnc,hm,hs,ht⟩⟩:=h
 ·have : ls = []:=List.eq_nil_of_length_eq_zero h3
  subst this
  exact ⟨none,0,h2,.inl rfl⟩
 ·refine ⟨some ⟨g,0,none⟩,cap,hv',.inr ⟨g,0,rfl,?_,fun j x hx => ?_⟩⟩
  ·rcases Nat.lt_or_ge g w.heap.size with h' | h'
   ·exact h'
   ·rw [Array.getElem?_eq_none h'] at hh;cases hh
  ·have hj:=(List.getElem?_eq_some_iff.1 hx).1
   have h0 : (ls.map Lay.v)[j]? = some x.v:=by rw [List.getElem?_map,hx];rfl
   rw [← ht,List.getElem?_take] at h0
   split at h0
   ·simp only [World.cell?,hh]
    simpa [Lay.v] using h0
   ·cases h0
theorem AY {ops : Array Oper} {rest : List Oper} {o : Oper} {a : Act} {Q : Exit → Act → World → Prop} (X : World) (hgd : o.guard = none) (s x : Operand)
  (ho : o.op = .call { callee:=.builtin .append,args:=#[s,x],argTypes:=#[24,24] }) (base : Nat) (v : Value) (l : List Lay) (hs : a.eval s = v) (hrow : bn X base v l) (hlen : l.length ≤ 80) (hbase : base ≤ X.heap.size)
  (p : Option Addr) (n cap : Nat) (t : List Lay) (hx : a.eval x = .slice p n cap) (hn : n = t.length) (hL : t = [] ∨ ∃ ad,p = some ad ∧ ∀ j y,t[j]? = some y → X.cell? (ad.add j) = some y.v) (hnil : p = none → cap = 0) (h80 : n ≤ 80)
  (h : ∀ v' w',bn w' base v' (l ++ t) → Below base X w' → wpList Tryz.prog ops Q rest (a.put o.dst v') w') :
  wpList Tryz.prog ops Q (o :: rest) a X:=by
 obtain ⟨i0,hi,hz0,hz1,hz2⟩:=Iw
 cases p with
 | none =>
  obtain rfl : cap = 0:=hnil rfl
  have ht : t = []:=by
   rcases hL with h | ⟨ad,he,_⟩
   ·exact h
   ·cases he
  subst ht
  obtain rfl : n = 0:=hn
  refine wpList_append_own_none hgd s x 24 ho base 23 i0 1 Tryz.underlying24 hi v l.length (l.map Lay.v) hs hrow hx ?_
  exact h v X (by rw [List.append_nil];exact hrow) (Below.refl _ _)
 | some ad =>
  refine wpList_append_own X hgd s x 24 ho base 23 i0 _ 1 24 Tryz.underlying24 hi hz0 hz1 hz2 rfl (by decide) v l.length (l.map Lay.v) hs hrow ad n cap (t.map Lay.v) hx (by rw [List.length_map,hn];omega) (fun j u hu => ?_) (fun u hu => ?_) (by unfold maxLen;omega) (by omega) hbase ?_
  ·rw [List.getElem?_map] at hu
   obtain ⟨y,hy,rfl⟩:=Option.map_eq_some_iff.1 hu
   rcases hL with h | ⟨ad',he,hc⟩
   ·rw [h] at hy;simp at hy
   ·cases he
    exact hc j y hy
  ·obtain ⟨y,_,rfl⟩:=List.mem_map.1 hu
   rfl
  ·intro v' w' hown hg _
   refine h v' w' ?_ ((Below.refl base X).grown hg hbase (fun j hj => (World.ownsRow.lt hrow j hj).1))
   unfold bn
   rw [List.length_append,List.map_append,← hn]
   exact hown
theorem bO.kept {w W : World} {p : Option Addr} {ls : List Lay} (h : bO w p ls) (hB : Below w.heap.size w W) : bO W p ls:=by
 rcases h with h | ⟨b,off,hp,hb,hc⟩
 ·exact .inl h
 ·exact .inr ⟨b,off,hp,Nat.lt_of_lt_of_le hb hB.size,fun j x hx => (hB.cell (p:=⟨b,off + j,none⟩) hb).trans (hc j x hx)⟩
end Go.Proofs.YthfeoiffoeagkaaGreatDoor
