/-
  cmp.Or and cmp.Compare over numbers; slices.SortFunc over a row of locks of the call's own.
-/
import Derived.Test.YthfeoiffoeagkaaGreatDoorXA19
import Derived.Test.YthfeoiffoeagkaaGreatDoorSortLayK
namespace Go.Proofs.YthfeoiffoeagkaaGreatDoor.LK
open Go.RowKit Go.Sort KM
set_option linter.unusedVariables false
def orL : List Int → Int
 | [] => 0
 | x :: r => if x = 0 then orL r else x
theorem vY (xs : List Int) (B cap : Nat) (w : World) (hn : xs.length ≤ 100) (hc : ∀ j x,xs[j]? = some x → w.cell? ⟨B,j,none⟩ = some (.int .i64 x)) :
  Calls Tryz.prog 157 #[.slice (some ⟨B,0,none⟩) xs.length cap] w fun e w' => e = .returned (.int .i64 (orL xs)) ∧ w' = w:=by
 have HC : Aside (∀ j x,xs[j]? = some x → w.cell? ⟨B,j,none⟩ = some (.int .i64 x)):=hc
 obtain ⟨n,hnl⟩ : ∃ n,n = xs.length:=⟨_,rfl⟩
 have HN : Aside (n = xs.length):=hnl
 rw [← hnl] at hn ⊢
 clear hnl hc
 go_enter Tryz.func157,Tryz.ntmps157
 go_wp2
 go_loop [8] (fun i => ∃ k : Nat,k ≤ n ∧ i = .int .i64 k ∧ Aside (orL (xs.drop k) = orL xs)) (fun i => n - (intOf i).toNat)
 case atStart => exact ⟨0,Nat.zero_le _,rfl,by show _ = _;rfl⟩
 case round =>
  obtain ⟨k,hk,rfl,HA⟩:=hrel
  by_cases hlt : k < n
  ·have hltz : (k : Int) < (n : Int):=by omega
   obtain ⟨y,hy⟩ : ∃ y,xs[k]? = some y:=⟨_,List.getElem?_eq_getElem (by have:=HN.out;omega)⟩
   have hcell:=HC.out k y hy
   have HD : Aside (orL (xs.drop k) = if y = 0 then orL (xs.drop (k + 1)) else y):=by
    obtain ⟨h1,h2⟩:=List.getElem?_eq_some_iff.1 hy
    show _ = _
    rw [List.drop_eq_getElem_cons h1,orL,h2]
   clear hy
   by_cases h0 : y = 0
   ·have HE : Aside (orL (xs.drop (k + 1)) = orL xs):=by show _ = _;rw [← HA.out,HD.out,if_pos h0]
    clear HD HA
    go_wp2
    exact ⟨⟨k + 1,by omega,by go_num,HE⟩,by simp [intOf];omega⟩
   ·have HE : Aside (orL xs = y):=by show _ = _;rw [← HA.out,HD.out,if_neg h0]
    clear HD HA
    go_wp2
    go_ret
    exact ⟨bE HE.out.symm,rfl⟩
  ·have hltz : ¬ (k : Int) < (n : Int):=by omega
   have HE : Aside (orL xs = 0):=by show _ = _;rw [← HA.out,List.drop_of_length_le (by have:=HN.out;omega)];rfl
   clear HA
   go_wp2
   go_ret
   exact ⟨bE HE.out.symm,rfl⟩
theorem FP (xs : List Int) (B cap : Nat) (w : World) (hn : xs.length ≤ 100) (hc : ∀ j x,xs[j]? = some x → w.cell? ⟨B,j,none⟩ = some (.int .i64 x)) :
  Calls Tryz.prog 229 #[.slice (some ⟨B,0,none⟩) xs.length cap] w fun e w' => e = .returned (.int .i64 (orL xs)) ∧ w' = w:=by
 have HC : Aside (∀ j x,xs[j]? = some x → w.cell? ⟨B,j,none⟩ = some (.int .i64 x)):=hc
 obtain ⟨n,hnl⟩ : ∃ n,n = xs.length:=⟨_,rfl⟩
 have HN : Aside (n = xs.length):=hnl
 rw [← hnl] at hn ⊢
 clear hnl hc
 go_enter Tryz.func229,Tryz.ntmps229
 go_wp2
 go_loop [8] (fun i => ∃ k : Nat,k ≤ n ∧ i = .int .i64 k ∧ Aside (orL (xs.drop k) = orL xs)) (fun i => n - (intOf i).toNat)
 case atStart => exact ⟨0,Nat.zero_le _,rfl,by show _ = _;rfl⟩
 case round =>
  obtain ⟨k,hk,rfl,HA⟩:=hrel
  by_cases hlt : k < n
  ·have hltz : (k : Int) < (n : Int):=by omega
   obtain ⟨y,hy⟩ : ∃ y,xs[k]? = some y:=⟨_,List.getElem?_eq_getElem (by have:=HN.out;omega)⟩
   have hcell:=HC.out k y hy
   have HD : Aside (orL (xs.drop k) = if y = 0 then orL (xs.drop (k + 1)) else y):=by
    obtain ⟨h1,h2⟩:=List.getElem?_eq_some_iff.1 hy
    show _ = _
    rw [List.drop_eq_getElem_cons h1,orL,h2]
   clear hy
   by_cases h0 : y = 0
   ·have HE : Aside (orL (xs.drop (k + 1)) = orL xs):=by show _ = _;rw [← HA.out,HD.out,if_pos h0]
    clear HD HA
    go_wp2
    exact ⟨⟨k + 1,by omega,by go_num,HE⟩,by simp [intOf];omega⟩
   ·have HE : Aside (orL xs = y):=by show _ = _;rw [← HA.out,HD.out,if_neg h0]
    clear HD HA
    go_wp2
    go_ret
    exact ⟨bE HE.out.symm,rfl⟩
  ·have hltz : ¬ (k : Int) < (n : Int):=by omega
   have HE : Aside (orL xs = 0):=by show _ = _;rw [← HA.out,List.drop_of_length_le (by have:=HN.out;omega)];rfl
   clear HA
   go_wp2
   go_ret
   exact ⟨bE HE.out.symm,rfl⟩
theorem rZ (a : Int) (w : World) : Calls Tryz.prog 258 #[.int .i64 a] w fun r w' => r = .returned (.bool false) ∧ w' = w:=by
 go_enter Tryz.func258,Tryz.ntmps258
 go_wp2
 go_ret
 exact ⟨by simp,rfl⟩
theorem He (a b : Int) (w : World) : Calls Tryz.prog 230 #[.int .i64 a,.int .i64 b] w fun r w' => r = .returned (.int .i64 (cmpI a b)) ∧ w' = w:=by
 by_cases h1 : a < b
 ·have H : Aside (cmpI a b = -1):=by show _ = _;rw [cmpI,if_pos h1]
  go_enter Tryz.func230,Tryz.ntmps230
  go_wp2_with (go_at_call 258;refine (rZ _ _).mono ?_;rintro r w' ⟨rfl,hw⟩;subst hw)
  go_ret
  exact ⟨bE H.out.symm,rfl⟩
 ·by_cases h2 : b < a
  ·have H : Aside (cmpI a b = 1):=by show _ = _;rw [cmpI,if_neg h1,if_pos h2]
   go_enter Tryz.func230,Tryz.ntmps230
   go_wp2_with (go_at_call 258;refine (rZ _ _).mono ?_;rintro r w' ⟨rfl,hw⟩;subst hw)
   go_ret
   exact ⟨bE H.out.symm,rfl⟩
  ·have H : Aside (cmpI a b = 0):=by show _ = _;rw [cmpI,if_neg h1,if_neg h2]
   go_enter Tryz.func230,Tryz.ntmps230
   go_wp2_with (go_at_call 258;refine (rZ _ _).mono ?_;rintro r w' ⟨rfl,hw⟩;subst hw)
   go_ret
   exact ⟨bE H.out.symm,rfl⟩
theorem Iy {X : World} {B : Nat} {a b : Value} {t : TypeId} (hB : B = X.heap.size) : ((X.alloc (.cells #[a,b] t)).drew).cell? ⟨B,0,none⟩ = some a ∧ ((X.alloc (.cells #[a,b] t)).drew).cell? ⟨B,1,none⟩ = some b:=by
 subst hB
 exact ⟨show (X.alloc (.cells #[a,b] t)).cell? _ = _ by simp,show (X.alloc (.cells #[a,b] t)).cell? _ = _ by simp⟩
theorem I7 (a b : Lk) : orL [cmpI a.o b.o,cmpI a.f b.f] = cmpK a b:=by
 simp only [orL,cmpK]
 split
 ·split
  ·rename_i h;exact h.symm
  ·rfl
 ·rfl
theorem Hr (a b : Int) (B : Nat) (W : World) (h0 : W.cell? ⟨B,0,none⟩ = some (.int .i64 a)) (h1 : W.cell? ⟨B,1,none⟩ = some (.int .i64 b)) : Calls Tryz.prog 229 #[.slice (some ⟨B,0,none⟩) 2 2] W fun e w' => e = .returned (.int .i64 (orL [a,b])) ∧ w' = W :=
 FP [a,b] B 2 W (by show 2 ≤ 100;decide) (fun j x hj => by
  match j,hj with
  | 0,hj => simp at hj;subst hj;exact h0
  | 1,hj => simp at hj;subst hj;exact h1)
theorem Gi (a b : Int) (B : Nat) (W : World) (h0 : W.cell? ⟨B,0,none⟩ = some (.int .i64 a)) (h1 : W.cell? ⟨B,1,none⟩ = some (.int .i64 b)) : Calls Tryz.prog 157 #[.slice (some ⟨B,0,none⟩) 2 2] W fun e w' => e = .returned (.int .i64 (orL [a,b])) ∧ w' = W :=
 vY [a,b] B 2 W (by show 2 ≤ 100;decide) (fun j x hj => by
  match j,hj with
  | 0,hj => simp at hj;subst hj;exact h0
  | 1,hj => simp at hj;subst hj;exact h1)
theorem ou (a b : Lk) (w : World) :
  Calls Tryz.prog 228 #[.agg #[.int .i64 a.o, .int .i64 a.f, .int .i64 a.t, .bool a.a],.agg #[.int .i64 b.o, .int .i64 b.f, .int .i64 b.t, .bool b.a]] w fun r w' => r = .returned (.int .i64 (cmpK a b)) ∧ Grown w w':=by
 have HK : Aside (orL [cmpI a.o b.o,cmpI a.f b.f] = cmpK a b):=I7 a b
 go_enter Tryz.func228,Tryz.ntmps228
 go_wp2
 go_region_held3 (fun w' => w'.cell? ⟨w.heap.size,0,none⟩ = some (.int .i64 a.o) ∧ w'.cell? ⟨w.heap.size,1,none⟩ = some (.int .i64 a.f) ∧ w'.cell? ⟨w.heap.size + 1,0,none⟩ = some (.int .i64 b.o) ∧ w'.cell? ⟨w.heap.size + 1,1,none⟩ = some (.int .i64 b.f)) (go_keep) (first
  | (go_at_call 230;refine (He _ _ _).mono ?_;rintro r w' ⟨rfl,hw⟩;subst hw)
  | (go_at_call 229;refine (Hr _ _ _ _ (Iy (by simp)).1 (Iy (by simp)).2).mono ?_;rintro r w' ⟨rfl,hw⟩;subst hw))
 go_wp2
 go_ret
 exact ⟨bE HK.out,((((Grown.refl w).alloc _).alloc _).alloc _).drewN 1⟩
def cfS (x y : Lk) : Int:=cmpK x y
theorem ltS (x y : Lk) : ltOf cfS x y = decide (cmpK x y < 0):=rfl
theorem swoS : SWO (ltOf cfS) where
 irrefl x:=by rw [ltS];refine decide_eq_false ?_;rw [sV];omega
 trans x y z h1 h2:=by
  rw [ltS] at *
  have g1:=of_decide_eq_true h1
  have g2:=of_decide_eq_true h2
  refine decide_eq_true ?_
  rw [sV] at *;omega
 ntrans x y z h1 h2:=by
  rw [ltS] at *
  have g1:=of_decide_eq_false h1
  have g2:=of_decide_eq_false h2
  refine decide_eq_false ?_
  rw [sV] at *;omega
theorem uP (blk off size : Nat) (w : World) : CmpLays Tryz.prog 228 #[] encK 4 cfS blk off size w :=
 fun _ _ _ _ x y => ou x y _
theorem nX {α : Type} [Inhabited α] (enc : α → List Value) (k : Nat) (w : World) (blk off n : Nat) (d : Array α) (os : Array Obj) : w.grownBy (sortWorldK enc k w blk off n d os) (some blk):=by
 refine ⟨rfl,rfl,rfl,?_,fun j hj hn => ?_⟩
 ·show w.heap.size ≤ ((w.heap.modify blk _) ++ os).size
  simp
 ·show ((w.heap.modify blk _) ++ os)[j]? = _
  rw [Array.getElem?_append_left (by simpa using hj),Array.getElem?_modify,if_neg (by intro e;exact hn (by rw [e]))]
theorem qU {x y : Lk} : ltOf cfS y x = false ↔ ¬ cmpK y x < 0:=by rw [ltS];exact decide_eq_false_iff_not
theorem qV (l : List Lk) (g cap : Nat) (w : World) (hO : Own w g cap l) (hn : l.length ≤ 2000) :
  Calls Tryz.prog 227 #[.slice (some ⟨g,0,none⟩) l.length cap,.func (.func 228) #[] #[]] w fun e w' =>
   e = .returned (.tuple #[]) ∧ ∃ l' : List Lk,l'.Perm l ∧ l'.Pairwise (fun a b => ¬ cmpK b a < 0) ∧ Lies w' (some ⟨g,0,none⟩) l' ∧ w.grownBy w' (some g):=by
 have eg : ∀ args w,(callFunc 228 args).run Tryz.prog w = .ok (.enter 228 args) w:=enters_of Tryz.func228 (by kernel_rfl) rfl
 have hd : l.toArray.size = l.length:=by simp
 have hget : ∀ j : Nat,j < l.length → l[j]? = some (l.toArray[j]!):=fun j hj => by
  rw [getElem!_pos _ j (by rw [hd];exact hj)]
  simp [hj]
 have hH : HoldsK encK 4 w g 0 l.toArray:=by
  intro j hj
  rw [size_flatK,hd] at hj
  rw [get_flatK _ _ _ _ (by rw [hd];exact hj),Nat.zero_add]
  refine ⟨?_,hO.frozen _⟩
  have hm : j % 4 < 4:=Nat.mod_lt _ (by decide)
  have he:=hget (j / 4) (by omega)
  have hv : (encK (l.toArray[j / 4]!))[j % 4]? = some ((encK l.toArray[j / 4]!)[j % 4]!):=by
   rw [List.getElem!_eq_getElem?_getD,List.getElem?_eq_getElem (by rw [gG];exact hm)]
   rfl
  have:=hO.cell he hv
  rwa [show j / 4 * 4 + j % 4 = j by omega] at this
 have hlim : Lib.bitLen l.length < 4611686018427387904:=Nat.lt_of_le_of_lt (Lib.bitLen_le l.length 62 (by omega) (by omega)) (by omega)
 have hp0:=AnyQ.pdqsortCmpFunc_all Tryz.sortK 4 Tryz.isAgg58 Tryz.sizeOf58 encK cfS 228 #[] swoS g 0 cap l.toArray w eg (uP g 0 _ w) ⟨fun _ => rfl,fun x v hv => gF (t:=[x]) (by simpa [encK] using hv),hH,hO.lt⟩ (l.toArray.size + 1) 0 l.toArray.size (Lib.bitLen l.length) l.toArray w (by omega) rfl (SWK.start hH) (Nat.zero_le _) (Nat.le_refl _) (by rw [hd];omega) hlim (Or.inl rfl)
 have hsorts:=pdq_sorts (ltOf cfS) swoS l.toArray 0 l.toArray.size (Lib.bitLen l.length) true true (Nat.zero_le _) (Nat.le_refl _) (Or.inl rfl)
 generalize pdq (ltOf cfS) l.toArray 0 l.toArray.size (Lib.bitLen l.length) true true = d' at hp0 hsorts
 change Calls Tryz.prog 257 _ _ _ at hp0
 have hl : Calls Tryz.prog 205 #[.int .u64 (l.length : Int)] w fun e w' => e = .returned (.int .i64 (Lib.bitLen l.length : Nat)) ∧ w' = w:=by
  have h:=Any.bits_Len (SlLaysF0.n15.bits Tryz.bitsK) (l.length : Int) w (by omega) (by omega)
  rwa [Int.toNat_natCast] at h
 have wr : IntKind.u64.wrap (l.length : Int) = l.length:=by simp [IntKind.wrap,IntKind.bits,IntKind.signed];omega
 obtain ⟨hp,hs⟩:=hsorts
 rw [hd] at hp0 hp hs
 have HO : Aside (Own w g cap l):=hO
 have HP : Aside (PermIn 0 l.length l.toArray d' ∧ SortedIn (ltOf cfS) 0 l.length d'):=⟨hp,hs⟩
 have HH : Aside (HoldsK encK 4 w g 0 l.toArray):=hH
 have HD : Aside (l.toArray.size = l.length):=hd
 have HG : Aside (∀ j : Nat,j < l.length → l[j]? = some (l.toArray[j]!)):=hget
 clear hO hp hs hH hget hd eg
 generalize hbl : Lib.bitLen l.length = bl at *
 clear hbl
 generalize hnl : l.length = n0 at hp0 hl wr hn hlim ⊢
 have HN : Aside (l.length = n0):=hnl
 clear hnl
 go_enter Tryz.func227,Tryz.ntmps227
 go_wp2_with (first | (go_at_call 205;refine hl.mono ?_;rintro e wx ⟨rfl,hwx⟩;subst wx) | (go_at_call 257;refine hp0.mono ?_;rintro e w' ⟨rfl,n,os,rfl⟩))
 go_end0
 obtain ⟨hp,hs⟩:=HP.out
 have hd:=HD.out
 have hO:=HO.out
 have hH:=HH.out
 refine ⟨rfl,d'.toList,?_,?_,?_,nX _ _ _ _ _ _ _ _⟩
 ·obtain ⟨h1,_,h3⟩:=hp
  rw [hd] at h1
  have e1 : d'.extract 0 l.length = d':=by rw [← h1,Array.extract_size]
  have e2 : l.toArray.extract 0 l.length = l.toArray:=by rw [← hd,Array.extract_size]
  rw [e1,e2] at h3
  exact h3
 ·rw [List.pairwise_iff_getElem]
  intro i j hi hj hij
  have h1:=hp.1
  rw [hd] at h1
  simp at hi hj
  have:=hs i j (Nat.zero_le _) hij (by omega)
  rw [getElem!_pos d' j hj,getElem!_pos d' i hi] at this
  simpa using qU.1 this
 ·have h1:=hp.1
  have hH':=holdsK_sortWorldK encK 4 w g 0 n l.toArray d' os hO.lt hH h1
  have hsz:=(nX encK 4 w g 0 n d' os).size
  refine .inr ⟨g,0,rfl,Nat.lt_of_lt_of_le hO.lt hsz,fun j e he i v hv => ?_⟩
  rw [Array.getElem?_toList] at he
  obtain ⟨hj,rfl⟩:=Array.getElem?_eq_some_iff.1 he
  have hi:=lu hv
  have:=(HoldsK.cell hH' hj hi).1
  rw [getElem!_pos d' j hj] at this
  rw [this]
  rw [List.getElem!_eq_getElem?_getD,hv]
  rfl
end Go.Proofs.YthfeoiffoeagkaaGreatDoor.LK
namespace Go.Proofs.YthfeoiffoeagkaaGreatDoor.LK
open Go.RowKit Go.Sort KM
set_option linter.unusedVariables false
theorem E8 (x y : Lk) (w : World) : Calls Tryz.prog 55 #[.agg #[.int .i64 x.o, .int .i64 x.f, .int .i64 x.t, .bool x.a],.agg #[.int .i64 y.o, .int .i64 y.f, .int .i64 y.t, .bool y.a]] w fun r w' => r = .returned (.bool (clash x y)) ∧ Grown w w':=by
 obtain ⟨xo,xf,xt,xa⟩:=x
 obtain ⟨yo,yf,yt,ya⟩:=y
 simp only
 by_cases h1 : xo = yo
 ·go_enter Tryz.func55,Tryz.ntmps55
  go_wp2
  go_ret
  exact ⟨aS (by simp [KM.clash, *] <;> omega),((Grown.refl w).alloc _).alloc _⟩
 ·have h1' : (xo != yo) = true:=bne_iff_ne.2 h1
  cases xa <;> cases ya <;> by_cases h3 : xf < yt <;>
  (go_enter Tryz.func55,Tryz.ntmps55
   go_wp2
   go_ret
   exact ⟨aS (by simp [KM.clash, *] <;> omega),((Grown.refl w).alloc _).alloc _⟩)
theorem zC (y x : Lk) (w : World) : Calls Tryz.prog 84 #[.agg #[.int .i64 y.o, .int .i64 y.f, .int .i64 y.t, .bool y.a],.agg #[.int .i64 x.o, .int .i64 x.f, .int .i64 x.t, .bool x.a]] w fun r w' => r = .returned (.bool (rise y x)) ∧ Grown w w':=by
 obtain ⟨xo,xf,xt,xa⟩:=x
 obtain ⟨yo,yf,yt,ya⟩:=y
 simp only
 by_cases h1 : yo = xo
 ·by_cases h2 : yt < xf
  ·go_enter Tryz.func84,Tryz.ntmps84
   go_wp2
   go_ret
   exact ⟨aS (by simp [KM.rise, *]),((Grown.refl w).alloc _).alloc _⟩
  ·by_cases h3 : yt = xf
   ·cases xa <;> cases ya <;>
    (go_enter Tryz.func84,Tryz.ntmps84
     go_wp2
     go_ret
     exact ⟨aS (by simp [KM.rise]),((Grown.refl w).alloc _).alloc _⟩)
   ·have h3' : (yt == xf) = false:=beq_eq_false_iff_ne.2 h3
    go_enter Tryz.func84,Tryz.ntmps84
    go_wp2
    go_ret
    exact ⟨aS (by simp [KM.rise, *]),((Grown.refl w).alloc _).alloc _⟩
 ·go_enter Tryz.func84,Tryz.ntmps84
  go_wp2
  go_ret
  exact ⟨aS (by simp [KM.rise, *]),((Grown.refl w).alloc _).alloc _⟩
theorem Dj (y x : Lk) (B : Nat) (w : World) (hB : B < w.heap.size) (hc : ∀ i v,(encK x)[i]? = some v → w.cell? ⟨B,i,none⟩ = some v) :
  Calls Tryz.prog 54 #[.agg #[.int .i64 y.o, .int .i64 y.f, .int .i64 y.t, .bool y.a],.pointer (some ⟨B,0,none⟩)] w fun r w' => r = .returned (.bool (clash x y)) ∧ Grown w w':=by
 have c0:=hc 0 _ rfl
 have c1:=hc 1 _ rfl
 have c2:=hc 2 _ rfl
 have c3:=hc 3 _ rfl
 clear hc
 have hne : B ≠ w.heap.size:=by omega
 go_enter Tryz.func54,Tryz.ntmps54
 go_wp2_with (go_at_call 55;refine (E8 x y _).mono ?_;rintro r w' ⟨rfl,hG⟩)
 go_ret
 exact ⟨rfl,((Grown.refl w).alloc _).trans hG⟩
def yG : Lk:=⟨0,0,0,false⟩
def zO (l : List Lk) (x y : Lk) (b : Bool) : Prop:=(b = false ∧ y = yG ∧ l.any (clash x) = false) ∨ (b = true ∧ l.find? (clash x) = some y)
theorem zO.any {l : List Lk} {x y : Lk} {b : Bool} (h : zO l x y b) : l.any (clash x) = b:=by
 rcases h with ⟨rfl,_,h⟩ | ⟨rfl,h⟩
 ·exact h
 ·exact List.any_eq_true.2 ⟨y,List.mem_of_find?_eq_some h,List.find?_some h⟩
theorem wN {l : List Lk} {pr : Lk → Bool} {k : Nat} {y : Lk} (hy : l[k]? = some y) (hp : pr y = true) (ha : ∀ x ∈ l.take k,pr x = false) : l.find? pr = some y:=by
 obtain ⟨h1,h2⟩:=List.getElem?_eq_some_iff.1 hy
 have e : l = l.take k ++ y :: l.drop (k + 1):=by
  rw [← h2,← List.drop_eq_getElem_cons h1,List.take_append_drop]
 rw [e,List.find?_append,List.find?_eq_none.2 (fun x hx => by simp [ha x hx])]
 simp [hp]
theorem Ir {X W : World} {H : Nat} {a b c d : Value} {t : TypeId} (hH : H = X.heap.size) (h : Below (H + 1) (X.alloc (.cells #[a,b,c,d] t)) W) :
  (W.cell? ⟨H,0,none⟩ = some a ∧ W.cell? ⟨H,1,none⟩ = some b ∧ W.cell? ⟨H,2,none⟩ = some c ∧ W.cell? ⟨H,3,none⟩ = some d) ∧
  (W.frozen? ⟨H,0,none⟩ = false ∧ W.frozen? ⟨H,1,none⟩ = false ∧ W.frozen? ⟨H,2,none⟩ = false ∧ W.frozen? ⟨H,3,none⟩ = false):=by
 subst hH
 exact new4 (Nat.lt_succ_self _) h
theorem Ag {w W : World} {n H : Nat} (h : Below n w W) (hH : n ≤ H) (a b c d : Value) : Below n w ((((W.setCell ⟨H,0,none⟩ a).setCell ⟨H,1,none⟩ b).setCell ⟨H,2,none⟩ c).setCell ⟨H,3,none⟩ d) :=
 (((h.setCell hH _).setCell hH _).setCell hH _).setCell hH _
theorem lY {w W : World} {n H : Nat} (h : Below n w W) (hH : n ≤ H) (a b : Value) : Below n w ((W.setCell ⟨H,0,none⟩ a).setCell ⟨H,1,none⟩ b) :=
 (h.setCell hH _).setCell hH _
def EC (l : List Lk) (x : Lk) (w : World) (e : Ending) (w' : World) : Prop :=
 ∃ y b,e = .returned (.tuple #[.agg #[.int .i64 y.o, .int .i64 y.f, .int .i64 y.t, .bool y.a],.bool b]) ∧ zO l x y b ∧ Below w.heap.size w w'
theorem En {pr : Lk → Bool} {l : List Lk} {p : Option Addr} {n : Nat} {w w0 w1 : World} {r : Ending} (hn : n = l.length) (hL : Lies w p l) (hG0 : Grown w w0) (h : iW pr l w0 r w1) :
  Aside (Grown w w1) ∧ ((r = .returned (.int .i64 (-1)) ∧ Aside (∀ x ∈ l,pr x = false)) ∨ ∃ (k : Nat) (y : Lk) (b off : Nat),k < n ∧ r = .returned (.int .i64 k) ∧ Aside (l.find? pr = some y) ∧ p = some ⟨b,off,none⟩ ∧ b < w.heap.size ∧
   w1.cell? ⟨b,off + k * 4,none⟩ = some (.int .i64 y.o) ∧ w1.cell? ⟨b,off + k * 4 + 1,none⟩ = some (.int .i64 y.f) ∧ w1.cell? ⟨b,off + k * 4 + 2,none⟩ = some (.int .i64 y.t) ∧ w1.cell? ⟨b,off + k * 4 + 3,none⟩ = some (.bool y.a)):=by
 obtain ⟨hG,⟨h1,h2⟩ | ⟨k,y,hk,hy,hr,hpy,ha⟩⟩:=iW.parts hn h
 ·exact ⟨hG0.trans hG,.inl ⟨h1,h2⟩⟩
 ·refine ⟨hG0.trans hG,.inr ⟨k,y,?_⟩⟩
  rcases hL with h0 | ⟨b,off,rfl,hb,hc⟩
  ·rw [h0] at hy;simp at hy
  ·exact ⟨b,off,hk,hr,wN hy hpy ha,rfl,hb,Lies.cells hc hb (hG0.trans hG).below hy⟩
theorem xU (l : List Lk) (x : Lk) (p : Option Addr) (cap : Nat) (w : World) (hL : Lies w p l) (hn : l.length < 4611686018427387904) :
  Calls Tryz.prog 31 #[.slice p l.length cap,.agg #[.int .i64 x.o, .int .i64 x.f, .int .i64 x.t, .bool x.a]] w (EC l x w):=by
 have eg : ∀ args w,(callFunc 54 args).run Tryz.prog w = .ok (.enter 54 args) w:=enters_of Tryz.func54 (by kernel_rfl) rfl
 have hs:=mY (clash x) 54 #[.pointer (some ⟨w.heap.size,0,none⟩)] eg l p cap ((w.alloc (.cells #[.int .i64 x.o, .int .i64 x.f, .int .i64 x.t, .bool x.a] 58)).alloc (.cells #[.int .i64 0,.int .i64 0,.int .i64 0,.bool false] 58)) (hL.grown (((Grown.refl w).alloc _).alloc _)) hn
  (fun W y hG hy => Dj y x w.heap.size W (by have:=hG.size;simp at this;omega) (fun i v hv => by
    have hi:=lu hv
    refine (hG.cell (p:=⟨w.heap.size,i,none⟩) (by simp;omega)).trans ?_
    obtain rfl | rfl | rfl | rfl : i = 0 ∨ i = 1 ∨ i = 2 ∨ i = 3:=by omega
    all_goals (simp [encK] at hv;subst hv;simp)))
 clear eg
 have HL : Aside (Lies w p l):=hL
 clear hL
 obtain ⟨n,hnl⟩ : ∃ n,n = l.length:=⟨_,rfl⟩
 have HN : Aside (n = l.length):=hnl
 rw [← hnl] at hn hs ⊢
 clear hnl
 go_enter Tryz.func31,Tryz.ntmps31
 go_wp2_with (go_at_call 53;refine hs.mono ?_;clear hs;intro e w1 hIP;obtain ⟨⟨r0,r1,r2,r3⟩,⟨f0,f1,f2,f3⟩⟩:=Ir (H:=w.heap.size + 1) (by simp) (hIP.1.below.mono (by simp));rcases En HN.out HL.out (((Grown.refl w).alloc _).alloc _) hIP with ⟨HG,⟨rfl,HA⟩ | ⟨k0,y0,b,off,hk0,rfl,HA,rfl,hb,c0,c1,c2,c3⟩⟩ <;> clear hIP)
 ·refine bodyPost_ret (v:=.tuple #[.agg #[.int .i64 yG.o, .int .i64 yG.f, .int .i64 yG.t, .bool yG.a],.bool false]) (by simp [results,Tryz.results31,go_sem,yG,r0,r1,r2,r3]) rfl ?_
  exact ⟨yG,false,rfl,.inl ⟨rfl,rfl,List.any_eq_false.2 fun y hy => by simp [HA.out y hy]⟩,Ag HG.out.below (by omega) _ _ _ _⟩
 ·refine bodyPost_ret (v:=.tuple #[.agg #[.int .i64 y0.o, .int .i64 y0.f, .int .i64 y0.t, .bool y0.a],.bool true]) (by simp [results,Tryz.results31,go_sem,r0,r1,r2,r3]) rfl ?_
  exact ⟨y0,true,rfl,.inr ⟨rfl,HA.out⟩,Ag HG.out.below (by omega) _ _ _ _⟩
end Go.Proofs.YthfeoiffoeagkaaGreatDoor.LK
namespace Go.Proofs.YthfeoiffoeagkaaGreatDoor.LK
open Go.RowKit Go.Sort KM
set_option linter.unusedVariables false
def Ways (x : Lk) : Prop:=(¬ okK x ∧ (x.o < 0 ∨ (¬ x.o < 0 ∧ (4 ≤ x.o ∨ (¬ 4 ≤ x.o ∧ (x.f < 0 ∨ (¬ x.f < 0 ∧ (x.t ≤ x.f ∨ (¬ x.t ≤ x.f ∧ 1000 < x.t))))))))) ∨ (okK x ∧ ¬ x.o < 0 ∧ ¬ 4 ≤ x.o ∧ ¬ x.f < 0 ∧ ¬ x.t ≤ x.f ∧ ¬ 1000 < x.t)
theorem ways (x : Lk) : Ways x:=by unfold Ways okK;omega
theorem last_at {l : List Lk} {y : Lk} {k : Nat} (hk : l.length = k + 1) (hy : l[k]? = some y) : l.getLast? = some y:=by
 rw [List.getLast?_eq_getElem?,hk];exact hy
set_option maxHeartbeats 400000 in
theorem vO (l : List Lk) (x : Lk) (p : Option Addr) (cap : Nat) (w : World) (hL : Lies w p l) (hn : l.length < 4611686018427387904) :
  Calls Tryz.prog 52 #[.slice p l.length cap,.agg #[.int .i64 x.o, .int .i64 x.f, .int .i64 x.t, .bool x.a]] w fun r w' => r = .returned (.int .i64 (gJ l x)) ∧ Below w.heap.size w w':=by
 have hm:=fun W (hB : Below w.heap.size w W) => xU l x p cap W (hL.kept hB) hn
 have HW : Aside (gJ l x = if ¬ okK x then 3 else if kr l x = true then 2 else if l.any (clash x) then 8 else 0):=rfl
 rcases ways x with ⟨hk,h⟩ | ⟨hk,h1,h2,h3,h4,h5⟩
 ·have HR : Aside (gJ l x = 3):=by show _ = _;rw [HW.out,if_pos hk]
  clear HW hk
  rcases h with h1 | ⟨h1,h2 | ⟨h2,h3 | ⟨h3,h4 | ⟨h4,h5⟩⟩⟩⟩ <;>
  (go_enter Tryz.func52,Tryz.ntmps52
   go_wp2
   go_ret
   exact ⟨bE HR.out.symm,((Grown.refl w).alloc _).below⟩)
 ·have HW' : Aside (gJ l x = if kr l x = true then 2 else if l.any (clash x) then 8 else 0):=by show _ = _;rw [HW.out,if_neg (by simpa using hk)]
  clear HW hk
  obtain ⟨n,hnl⟩ : ∃ n,n = l.length:=⟨_,rfl⟩
  have HN : Aside (n = l.length):=hnl
  rw [← hnl] at hn hm ⊢
  by_cases hz0 : n = 0
  ·subst hz0
   have HB : Aside (kr l x = false):=by show _ = _;rw [List.eq_nil_of_length_eq_zero hnl.symm];rfl
   clear hL hnl
   go_enter Tryz.func52,Tryz.ntmps52
   go_wp2
   go_quiet (fail)
   go_wp2_with (go_at_call 31;refine (hm _ (below_drewN ((Grown.refl w).alloc _).below _)).mono ?_;clear hm;rintro r w1 ⟨y,b,rfl,hM,hB⟩;have HM : Aside (l.any (clash x) = b):=hM.any;have HB1 : Aside (Below w.heap.size w w1):=(below_drewN ((Grown.refl w).alloc _).below _).trans (hB.mono (by simp));clear hM hB;cases b)
   ·go_ret
    exact ⟨bE (by rw [HW'.out,HB.out,HM.out];rfl),HB1.out.alloc HB1.out.size _⟩
   ·go_ret
    exact ⟨bE (by rw [HW'.out,HB.out,HM.out];rfl),HB1.out.alloc HB1.out.size _⟩
  ·obtain ⟨k,hk⟩ : ∃ k,n = k + 1:=⟨n - 1,by omega⟩
   obtain ⟨z,hz⟩ : ∃ z,l[k]? = some z:=⟨_,List.getElem?_eq_getElem (by omega)⟩
   have HB : Aside (kr l x = !rise z x):=by show _ = _;rw [kr,last_at (hnl.symm.trans hk) hz]
   rcases hL with h0 | ⟨b,off,rfl,hb,hc⟩
   ·rw [h0] at hz;simp at hz
   obtain ⟨c0,c1,c2,c3⟩:=Lies.cells hc hb ((Grown.refl w).alloc (.cells #[.int .i64 x.o, .int .i64 x.f, .int .i64 x.t, .bool x.a] 58)).below hz
   have hne : b ≠ w.heap.size:=by omega
   subst hk
   have hk1 : (((k + 1 : Nat) : Int) - 1) = (k : Int):=by omega
   have hk7 : (k : Int) + 1 - 1 = (k : Int):=by omega
   have hk8 : IntKind.i64.wrap ((k : Int) + 1 - 1) = (k : Int):=by simp [IntKind.wrap,IntKind.bits,IntKind.signed];omega
   have hk2 : IntKind.i64.wrap (k : Int) = k:=by simp [IntKind.wrap,IntKind.bits,IntKind.signed];omega
   have hk3 : (0 : Int) ≤ (k : Int):=by omega
   have hk4 : (k : Int) < ((k + 1 : Nat) : Int):=by omega
   have hk5 : (k : Int) < (k : Int) + 1:=by omega
   clear hc hz hnl hz0
   go_enter Tryz.func52,Tryz.ntmps52
   go_wp2
   have hG1 : Grown w (w.alloc (.cells #[.int .i64 x.o, .int .i64 x.f, .int .i64 x.t, .bool x.a] 58)):=(Grown.refl w).alloc _
   go_region_held3 (fun w' => w'.cell? ⟨w.heap.size,0,none⟩ = some (.int .i64 x.o) ∧ w'.cell? ⟨w.heap.size,1,none⟩ = some (.int .i64 x.f) ∧ w'.cell? ⟨w.heap.size,2,none⟩ = some (.int .i64 x.t) ∧ w'.cell? ⟨w.heap.size,3,none⟩ = some (.bool x.a) ∧ w'.cell? ⟨b,off + k * 4,none⟩ = some (.int .i64 z.o) ∧ w'.cell? ⟨b,off + k * 4 + 1,none⟩ = some (.int .i64 z.f) ∧ w'.cell? ⟨b,off + k * 4 + 2,none⟩ = some (.int .i64 z.t) ∧ w'.cell? ⟨b,off + k * 4 + 3,none⟩ = some (.bool z.a)) (go_keep) (first
    | (go_at_call 84;refine (zC z x _).mono ?_;rintro r w1 ⟨rfl,hG⟩;have hGG : Grown (w.alloc (.cells #[.int .i64 x.o, .int .i64 x.f, .int .i64 x.t, .bool x.a] 58)) w1:=((Grown.refl _).drewN 1).trans hG;obtain ⟨⟨d0,d1,d2,d3⟩,_⟩:=new4 (by simp) hGG.below;have e0:=(hGG.cell (p:=⟨b,off + k * 4,none⟩) (by simp;omega)).trans c0;have e1:=(hGG.cell (p:=⟨b,off + k * 4 + 1,none⟩) (by simp;omega)).trans c1;have e2:=(hGG.cell (p:=⟨b,off + k * 4 + 2,none⟩) (by simp;omega)).trans c2;have e3:=(hGG.cell (p:=⟨b,off + k * 4 + 3,none⟩) (by simp;omega)).trans c3;clear hG))
   have HG : Aside (Grown w w1):=hG1.trans hGG
   clear hGG hG1 e0 e1 e2 e3 c0 c1 c2 c3
   cases hrz : rise z x with
   | false =>
    go_wp2
    go_ret
    exact ⟨bE (by rw [HW'.out,HB.out,hrz];rfl),HG.out.below⟩
   | true =>
    go_wp2_with (go_at_call 31;refine (hm _ HG.out.below).mono ?_;clear hm;rintro r w2 ⟨y,bb,rfl,hM,hB⟩;have HM : Aside (l.any (clash x) = bb):=hM.any;have HB1 : Aside (Below w.heap.size w w2):=Below.onto HG.out.below hB;clear hM hB;cases bb)
    ·go_ret
     exact ⟨bE (by rw [HW'.out,HB.out,hrz,HM.out];rfl),HB1.out.alloc HB1.out.size _⟩
    ·go_ret
     exact ⟨bE (by rw [HW'.out,HB.out,hrz,HM.out];rfl),HB1.out.alloc HB1.out.size _⟩
def rJ (l : List Lk) (w : World) (e : Ending) (w' : World) : Prop :=
 e = .returned (.agg #[.int .i64 (dF l).1,.int .i64 (dF l).2]) ∧ Below w.heap.size w w'
set_option maxHeartbeats 400000 in
theorem jY (l : List Lk) (p : Option Addr) (cap : Nat) (w : World) (hL : Lies w p l) (hn : l.length < 4611686018427387904) (hcap : l.length ≤ cap) :
  Calls Tryz.prog 28 #[.slice p l.length cap] w (rJ l w):=by
 have HL : Aside (Lies w p l):=hL
 clear hL
 obtain ⟨n,hnl⟩ : ∃ n,n = l.length:=⟨_,rfl⟩
 have HN : Aside (n = l.length):=hnl
 rw [← hnl] at hn hcap ⊢
 clear hnl
 by_cases h40 : 40 < n
 ·have hz : (40 : Int) < (n : Int):=by omega
  have HF : Aside (dF l = (5,0)):=by show _ = _;rw [dF,if_pos (by rw [← HN.out];exact h40)]
  go_enter Tryz.func28,Tryz.ntmps28
  go_wp2
  refine bodyPost_ret (v:=.agg #[.int .i64 5,.int .i64 0]) (by simp [results,Tryz.results28,go_sem]) rfl ?_
  exact ⟨by rw [HF.out],((Grown.refl w).alloc _).below⟩
 ·have hz : ¬ (40 : Int) < (n : Int):=by omega
  have HF : Aside (dF l = gQ (l.take 0) (l.drop 0)):=by show _ = _;rw [dF,if_neg (by rw [← HN.out];exact h40)];rfl
  go_enter Tryz.func28,Tryz.ntmps28
  go_wp2
  go_loopg [12] n (fun gg s12 wr => ∃ k : Nat,k ≤ n ∧ n - k ≤ gg ∧ s12 = .int .i64 k ∧ Aside (Below (w.heap.size + 1) (w.alloc (.cells #[.int .i64 0,.int .i64 0] 46)) wr) ∧ Aside (dF l = gQ (l.take k) (l.drop k)))
  case atStart => exact ⟨0,Nat.zero_le _,by omega,rfl,Below.refl _ _,HF.out⟩
  case round =>
   obtain ⟨k,hk,hg,rfl,BW,HE⟩:=hrel
   by_cases hlt : k < n
   ·have hltz : (k : Int) < (n : Int):=by omega
    obtain ⟨y,hy⟩ : ∃ y,l[k]? = some y:=⟨_,List.getElem?_eq_getElem (by have:=HN.out;omega)⟩
    have HS : Aside (dF l = if gJ (l.take k) y = 0 then gQ (l.take (k + 1)) (l.drop (k + 1)) else (gJ (l.take k) y,(k : Int))):=by show _ = _;rw [HE.out,Dh hy]
    have hBw:=bG BW.out
    have hwb0 : ∀ W,Below w.heap.size w W → Calls Tryz.prog 52 #[.slice p k cap,.agg #[.int .i64 y.o, .int .i64 y.f, .int .i64 y.t, .bool y.a]] W fun r w' => r = .returned (.int .i64 (gJ (l.take k) y)) ∧ Below W.heap.size W w':=fun W hB => by
     have h:=vO (l.take k) y p cap W ((HL.out.kept hB).take k) (by rw [List.length_take];omega)
     rwa [List.length_take,Nat.min_eq_left (by have:=HN.out;omega)] at h
    rcases HL.out with h0 | ⟨b,off,rfl,hb,hc⟩
    ·rw [h0] at hy;simp at hy
    obtain ⟨c0,c1,c2,c3⟩:=Lies.cells hc hb hBw hy
    have hb' : b < wr.heap.size:=Nat.lt_of_lt_of_le hb hBw.size
    have hne : b ≠ wr.heap.size:=by omega
    have hkc' : (k : Int) ≤ (cap : Int):=by omega
    have hkc : k ≤ cap:=by omega
    have hX0 : Below wr.heap.size wr (wr.alloc (.cells #[.int .i64 y.o, .int .i64 y.f, .int .i64 y.t, .bool y.a] 58)):=(Below.refl _ _).alloc (Nat.le_refl _) _
    have hwb:=hwb0 _ (Below.onto hBw hX0).drew
    generalize gJ (l.take k) y = r1 at hwb HS
    clear hc hy hwb0
    by_cases hr1 : r1 = 0
    ·subst hr1
     go_wp2
     go_region_held3 (fun w' => w'.cell? ⟨wr.heap.size,0,none⟩ = some (.int .i64 y.o) ∧ w'.cell? ⟨wr.heap.size,1,none⟩ = some (.int .i64 y.f) ∧ w'.cell? ⟨wr.heap.size,2,none⟩ = some (.int .i64 y.t) ∧ w'.cell? ⟨wr.heap.size,3,none⟩ = some (.bool y.a)) (go_keep) (first
      | (go_at_call 52;refine hwb.mono ?_;clear hwb;rintro rr w2 ⟨rfl,hB2⟩;obtain ⟨⟨d0,d1,d2,d3⟩,_⟩:=new4 (by simp) ((Below.refl _ (wr.alloc (.cells #[.int .i64 y.o, .int .i64 y.f, .int .i64 y.t, .bool y.a] 58))).drew.trans hB2)))
     have HO : Aside (Below (w.heap.size + 1) (w.alloc (.cells #[.int .i64 0,.int .i64 0] 46)) w2):=up1 BW.out (Below.onto hX0.drew hB2)
     clear hB2 hX0 hBw
     go_wp2
     go_roundg (n - (k + 1))
     case measure => omega
     case rel => exact ⟨k + 1,by omega,by omega,by go_num,HO.out,by show _ = _;simpa using HS.out⟩
    ·go_wp2
     go_region_held3 (fun w' => w'.cell? ⟨wr.heap.size,0,none⟩ = some (.int .i64 y.o) ∧ w'.cell? ⟨wr.heap.size,1,none⟩ = some (.int .i64 y.f) ∧ w'.cell? ⟨wr.heap.size,2,none⟩ = some (.int .i64 y.t) ∧ w'.cell? ⟨wr.heap.size,3,none⟩ = some (.bool y.a)) (go_keep) (first
      | (go_at_call 52;refine hwb.mono ?_;clear hwb;rintro rr w2 ⟨rfl,hB2⟩;obtain ⟨⟨d0,d1,d2,d3⟩,_⟩:=new4 (by simp) ((Below.refl _ (wr.alloc (.cells #[.int .i64 y.o, .int .i64 y.f, .int .i64 y.t, .bool y.a] 58))).drew.trans hB2)))
     have hO : Below (w.heap.size + 1) (w.alloc (.cells #[.int .i64 0,.int .i64 0] 46)) w2:=up1 BW.out (Below.onto hX0.drew hB2)
     obtain ⟨⟨r0,r1'⟩,⟨f0,f1⟩⟩:=new2 (Nat.lt_succ_self _) hO
     have HO : Aside (Below w.heap.size w w2):=bG hO
     clear hB2 hX0 hBw hO
     go_wp2
     refine bodyPost_ret (v:=.agg #[.int .i64 r1,.int .i64 k]) (by simp [results,Tryz.results28,go_sem,r0,r1']) rfl ?_
     exact ⟨by rw [HS.out,if_neg hr1],lY HO.out (Nat.le_refl _) _ _⟩
   ·have hltz : ¬ (k : Int) < (n : Int):=by omega
    have HZ : Aside (dF l = (0,0)):=by show _ = _;rw [HE.out,EB (by have:=HN.out;omega)]
    obtain ⟨⟨r0,r1⟩,⟨f0,f1⟩⟩:=new2 (Nat.lt_succ_self _) BW.out
    have HO : Aside (Below w.heap.size w wr):=bG BW.out
    go_wp2
    refine bodyPost_ret (v:=.agg #[.int .i64 0,.int .i64 0]) (by simp [results,Tryz.results28,go_sem,r0,r1]) rfl ?_
    exact ⟨by rw [HZ.out],lY HO.out (Nat.le_refl _) _ _⟩
end Go.Proofs.YthfeoiffoeagkaaGreatDoor.LK
namespace Go.Proofs.YthfeoiffoeagkaaGreatDoor.LK
open Go.RowKit Go.Sort KM
set_option linter.unusedVariables false
theorem Dg (e : Lk) (q : Int) (B : Nat) (w : World) (hB : B < w.heap.size) (hc : w.cell? ⟨B,0,none⟩ = some (.int .i64 q)) :
  Calls Tryz.prog 226 #[.agg #[.int .i64 e.o, .int .i64 e.f, .int .i64 e.t, .bool e.a],.pointer (some ⟨B,0,none⟩)] w fun r w' => r = .returned (.bool (decide (e.o = q))) ∧ Grown w w':=by
 have hne : B ≠ w.heap.size:=by omega
 have HE : Aside ((e.o == q) = decide (e.o = q)):=by show _ = _;rw [Bool.eq_iff_iff];simp
 go_enter Tryz.func226,Tryz.ntmps226
 go_wp2
 go_ret
 exact ⟨aS HE.out,(Grown.refl w).alloc _⟩
def Fq (l : List Lk) (q : Int) (w : World) (e : Ending) (w' : World) : Prop :=
 ∃ g c,e = .returned (.slice (some ⟨g,0,none⟩) (gK l q).length c) ∧ w.heap.size ≤ g ∧ Own w' g c (gK l q) ∧ Below w.heap.size w w'
set_option maxHeartbeats 4000000 in
theorem Ey (l : List Lk) (q : Int) (p : Option Addr) (cap : Nat) (w : World) (hL : Lies w p l) (hnil : p = none → cap = 0) (hn : l.length * 32 ≤ 140737488355328) :
  Calls Tryz.prog 188 #[.slice p l.length cap,.int .i64 q] w (Fq l q w):=by
 have eg : ∀ args w,(callFunc 226 args).run Tryz.prog w = .ok (.enter 226 args) w:=enters_of Tryz.func226 (by kernel_rfl) rfl
 have hdel : ∀ (g c : Nat) (W : World),Own W g c l → w.heap.size + 1 ≤ g → Below (w.heap.size + 1) (w.alloc (.cells #[.int .i64 q] 3)) W →
   Calls Tryz.prog 225 #[.slice (some ⟨g,0,none⟩) l.length c,.func (.func 226) #[] #[.pointer (some ⟨w.heap.size,0,none⟩)]] W fun e w' => e = .returned (.slice (some ⟨g,0,none⟩) (gK l q).length c) ∧ Own w' g c (gK l q) ∧ Below (w.heap.size + 1) (w.alloc (.cells #[.int .i64 q] 3)) w':=by
  intro g c W hO hg hB
  have hBs:=hB.size
  simp at hBs
  refine (nH (fun e => decide (e.o = q)) 226 #[.pointer (some ⟨w.heap.size,0,none⟩)] eg l g c W hO (by omega) (fun W2 x hG hx => Dg x q w.heap.size W2 (by have:=hG.size;omega) ?_)).mono ?_
  ·rw [gT hG (by show w.heap.size < W.heap.size;omega) (by show w.heap.size ≠ g;omega),hB.cell (p:=⟨w.heap.size,0,none⟩) (by simp)]
   simp
  ·rintro e w' ⟨rfl,hO',hG⟩
   exact ⟨rfl,hO',hB.grown hG (by simpa using hBs) (fun k hk => by simp at hk;omega)⟩
 have HL : Aside (Lies w p l):=hL
 clear hL eg
 obtain ⟨n,hnl⟩ : ∃ n,n = l.length:=⟨_,rfl⟩
 have HN : Aside (n = l.length):=hnl
 rw [← hnl] at hn hdel ⊢
 clear hnl
 generalize hrl : (gK l q).length = rl at hdel
 have HR : Aside ((gK l q).length = rl):=hrl
 clear hrl
 go_enter Tryz.func188,Tryz.ntmps188
 go_wp2_with (at_builtin;refine iM _ rfl _ _ rfl (w.heap.size + 1) rfl ?_ p n cap l rfl HN.out ?_ hnil hn ?_ ?_)
 ·exact je (w.alloc (.cells #[.int .i64 q] 3)) _ (by simp)
 ·exact (HL.out.grown ((Grown.refl w).alloc _)).grown ((Grown.refl _).alloc _)
 ·simp
 ·intro g c w1 hO hg hB
  have hB' : Below (w.heap.size + 1) (w.alloc (.cells #[.int .i64 q] 3)) w1:=((Below.refl _ _).alloc (by simp) _).trans hB
  have hcall:=hdel g c w1 hO hg hB'
  clear hdel
  have H1 : Aside (w.heap.size + 1 ≤ g):=hg
  clear hO hB hg
  go_wp2_with (go_at_call 225;refine hcall.mono ?_;clear hcall;rintro e w2 ⟨rfl,hO2,hB2⟩)
  go_ret
  exact ⟨g,c,by rw [HR.out];rfl,by have:=H1.out;omega,hO2,bG hB2⟩
end Go.Proofs.YthfeoiffoeagkaaGreatDoor.LK
namespace Go.Proofs.YthfeoiffoeagkaaGreatDoor.LK
open Go.RowKit Go.Sort KM
set_option linter.unusedVariables false
theorem Rows.JG {w : World} {base B o : Nat} {v u : Value} {l : List Lk} (h : Rows w base v l) (hB : B < base) : Rows (w.setCell ⟨B,o,none⟩ u) base v l:=by
 refine ⟨h.1,h.2.imp id ?_⟩
 rintro ⟨g,cap,cur,e,hg,hh,r⟩
 exact ⟨g,cap,cur,e,hg,by rw [Below.heap_setCell _ _ _ _ (by show g ≠ B;omega)];exact hh,r⟩
def jw (y : Lk) (f t : Int) (B base : Nat) (v : Value) (m : List Lk) (w : World) (e : Ending) (w' : World) : Prop :=
 e = .returned (.tuple #[]) ∧ ∃ v',w'.cell? ⟨B,0,none⟩ = some v' ∧ w'.frozen? ⟨B,0,none⟩ = false ∧ Rows w' base v' (m ++ gN y f t) ∧ Below B w w' ∧ base ≤ w'.heap.size ∧ (∀ ad : Addr,ad.block < w.heap.size → ad.block ≠ B → (∀ g,v.ownBlock = some g → ad.block ≠ g) → w'.cell? ad = w.cell? ad) ∧ w.heap.size ≤ w'.heap.size
set_option maxHeartbeats 400000 in
theorem Gs (y : Lk) (f t : Int) (B base : Nat) (v : Value) (m : List Lk) (w : World) (hc : w.cell? ⟨B,0,none⟩ = some v) (hf : w.frozen? ⟨B,0,none⟩ = false) (hR : Rows w base v m) (hb : base ≤ w.heap.size) (hB : B < base) (hm : m.length ≤ 1000) :
  Calls Tryz.prog 231 #[.agg #[.int .i64 y.o, .int .i64 y.f, .int .i64 y.t, .bool y.a],.int .i64 f,.int .i64 t,.pointer (some ⟨B,0,none⟩)] w (jw y f t B base v m w):=by
 have hne : B ≠ w.heap.size:=by omega
 by_cases hft : f < t
 ·have HK : Aside (gN y f t = [⟨y.o,f,t,y.a⟩]):=by show _ = _;rw [gN,if_pos hft]
  obtain ⟨p,c,rfl,_,hlc,hpc⟩:=hR.form
  have HR : Aside (Rows w base (.slice p m.length c) m):=hR
  clear hR
  obtain ⟨n,hnl⟩ : ∃ n,n = m.length:=⟨_,rfl⟩
  have HN : Aside (n = m.length):=hnl
  rw [← hnl] at hc HR hlc hm
  clear hnl
  have hG : Grown w (w.alloc (.cells #[.int .i64 y.o, .int .i64 y.f, .int .i64 y.t, .bool y.a] 58)):=(Grown.refl w).alloc _
  have hc1:=(hG.cell (p:=⟨B,0,none⟩) (by show B < _;omega)).trans hc
  go_enter Tryz.func231,Tryz.ntmps231
  go_wp2_with (at_builtin;refine ko (w.alloc (.cells #[.int .i64 y.o, .int .i64 y.f, .int .i64 y.t, .bool y.a] 58)) ⟨y.o,f,t,y.a⟩ rfl _ _ rfl base (.slice p n c) m rfl (HR.out.below hG.below) (by have:=HN.out;omega) (by have:=hG.size;omega) (w.heap.size + 1) (by simp) rfl ?_)
  intro v' w1 hR1 hB1 hcell hsz
  have k1:=(hB1.cell (p:=⟨B,0,none⟩) hB).trans hc1
  have f1:=(hB1.frozen (p:=⟨B,0,none⟩) hB).trans ((hG.below.frozen (p:=⟨B,0,none⟩) (by show B < _;omega)).trans hf)
  obtain ⟨p',c',rfl,_,_,_⟩:=hR1.form
  have HR1 : Aside (Rows w1 base (.slice p' (m ++ [(⟨y.o,f,t,y.a⟩ : Lk)]).length c') (m ++ [⟨y.o,f,t,y.a⟩])):=hR1
  have HB1 : Aside (Below B w w1):=(hG.below.mono (by omega)).trans (hB1.mono (by omega))
  have HS : Aside (base ≤ w1.heap.size):=by have:=hG.size;have:=hsz;show _ ≤ _;omega
  have HC : Aside (∀ ad : Addr,ad.block < w.heap.size → ad.block ≠ B → (∀ g,(Value.slice p n c).ownBlock = some g → ad.block ≠ g) → ∀ u,(w1.setCell ⟨B,0,none⟩ u).cell? ad = w.cell? ad):=fun ad h1 h2 h3 u => by
   have hne' : (⟨B,0,none⟩ : Addr) ≠ ad:=fun e => h2 (by rw [← e])
   exact (World.cell?_setCell_other (h:=hne') ..).trans ((hcell ad (by have:=hG.size;omega) h3).trans (hG.cell h1))
  have HZ : Aside (w.heap.size ≤ w1.heap.size):=by have:=hG.size;have:=hsz;show _ ≤ _;omega
  clear hR1 hB1 hsz hc1 hG hc hcell
  generalize (m ++ [⟨y.o,f,t,y.a⟩] : List Lk).length = n' at *
  go_wp2
  go_end0
  refine ⟨rfl,.slice p' n' c',?_,?_,?_,HB1.out.setCell (Nat.le_refl _) _,by simp;exact HS.out,fun ad h1 h2 h3 => HC.out ad h1 h2 (fun g hg => h3 g (by rw [← HN.out];exact hg)) _,by simp;exact HZ.out⟩
  ·exact World.cell?_setCell_same (h:=k1) ..
  ·rw [World.frozen?_setCell];exact f1
  ·rw [HK.out];exact HR1.out.JG hB
 ·have HK : Aside (gN y f t = []):=by show _ = _;rw [gN,if_neg hft]
  have HR : Aside (Rows w base v m):=hR
  clear hR
  go_enter Tryz.func231,Tryz.ntmps231
  go_wp2
  go_end0
  refine ⟨rfl,v,?_,?_,?_,?_,?_,?_,?_⟩
  ·rw [((Grown.refl w).alloc _).cell (p:=⟨B,0,none⟩) (by show B < _;omega)];exact hc
  ·exact (((Grown.refl w).alloc _).below.frozen (p:=⟨B,0,none⟩) (by show B < _;omega)).trans hf
  ·rw [HK.out,List.append_nil];exact HR.out.below ((Grown.refl w).alloc _).below
  ·exact ((Grown.refl w).alloc _).below.mono (by omega)
  ·simp;omega
  ·intro ad h1 _ _
   exact ((Grown.refl w).alloc _).cell h1
  ·simp
theorem yK {l : List Lk} {k : Nat} {x y : Lk} (hy : l[k]? = some y) : aO (l.take (k + 1)) x = aO (l.take k) x ++ gU x y:=by
 rw [dz hy];simp [aO]
theorem Ei (x y : Lk) : (gU x y).length ≤ 2:=by
 unfold gU gN
 repeat' split
 all_goals simp
theorem tT (l : List Lk) (x : Lk) : (aO l x).length ≤ l.length * 2:=by
 induction l with
 | nil => simp [aO]
 | cons y r ih =>
  have:=Ei x y
  have e : aO (y :: r) x = gU x y ++ aO r x:=by simp [aO]
  rw [e,List.length_append,List.length_cons];omega
structure WInv (x : Lk) (w W : World) (v : Value) (m : List Lk) : Prop where
 box : W.cell? ⟨w.heap.size + 1,0,none⟩ = some v
 frz : W.frozen? ⟨w.heap.size + 1,0,none⟩ = false
 rows : Rows W (w.heap.size + 2) v m
 below : Below (w.heap.size + 1) (w.alloc (.cells #[.int .i64 x.o, .int .i64 x.f, .int .i64 x.t, .bool x.a] 58)) W
 size : w.heap.size + 2 ≤ W.heap.size
theorem WInv.base {x : Lk} {w W : World} {v : Value} {m : List Lk} (h : WInv x w W v m) : Below w.heap.size w W:=bG h.below
theorem WInv.xs {x : Lk} {w W : World} {v : Value} {m : List Lk} (h : WInv x w W v m) : W.cell? ⟨w.heap.size,0,none⟩ = some (.int .i64 x.o) ∧ W.cell? ⟨w.heap.size,1,none⟩ = some (.int .i64 x.f) ∧ W.cell? ⟨w.heap.size,2,none⟩ = some (.int .i64 x.t) ∧ W.cell? ⟨w.heap.size,3,none⟩ = some (.bool x.a) :=
 (new4 (Nat.lt_succ_self _) h.below).1
theorem WInv.start (x : Lk) (w : World) : WInv x w ((w.alloc (.cells #[.int .i64 x.o, .int .i64 x.f, .int .i64 x.t, .bool x.a] 58)).alloc (.cells #[.slice none 0 0] 60)) (.slice none 0 0) []:=by
 have e : w.heap.size + 1 = (w.alloc (.cells #[.int .i64 x.o, .int .i64 x.f, .int .i64 x.t, .bool x.a] 58)).heap.size:=by simp
 refine ⟨?_,?_,Rows.nil _ _,((Below.refl _ _).alloc (by simp) _),by simp⟩
 ·rw [e];simp
 ·rw [e];simp
theorem WInv.alloc {x : Lk} {w W : World} {v : Value} {m : List Lk} (h : WInv x w W v m) (o : Obj) : WInv x w (W.alloc o) v m:=by
 have hG : Grown W (W.alloc o):=(Grown.refl W).alloc o
 have hs:=h.size
 exact ⟨(hG.cell (p:=⟨w.heap.size + 1,0,none⟩) (by show w.heap.size + 1 < _;omega)).trans h.box,(hG.below.frozen (p:=⟨w.heap.size + 1,0,none⟩) (by show w.heap.size + 1 < _;omega)).trans h.frz,h.rows.below hG.below,upA h.below,by have:=hG.size;omega⟩
theorem WInv.keep {x : Lk} {w W : World} {v : Value} {m : List Lk} (h : WInv x w W v m) (y : Lk) (f t : Int) (hm : m.length ≤ 1000) :
  Calls Tryz.prog 231 #[.agg #[.int .i64 y.o, .int .i64 y.f, .int .i64 y.t, .bool y.a],.int .i64 f,.int .i64 t,.pointer (some ⟨w.heap.size + 1,0,none⟩)] W fun e W' => e = .returned (.tuple #[]) ∧ ∃ v',WInv x w W' v' (m ++ gN y f t) ∧
   ∀ ad : Addr,ad.block < W.heap.size → ad.block ≠ w.heap.size + 1 → (∀ g,v.ownBlock = some g → ad.block ≠ g) → W'.cell? ad = W.cell? ad:=by
 refine (Gs y f t (w.heap.size + 1) (w.heap.size + 2) v m W h.box h.frz h.rows h.size (by omega) hm).mono ?_
 rintro e W' ⟨rfl,v',h1,h2,h3,h4,h5,h6,_⟩
 exact ⟨rfl,v',⟨h1,h2,h3,h.below.trans h4,h5⟩,h6⟩
def mW (l : List Lk) (x : Lk) (w : World) (e : Ending) (w' : World) : Prop :=
 ∃ v,e = .returned v ∧ Rows w' w.heap.size v (aO l x) ∧ Below w.heap.size w w'
set_option maxHeartbeats 400000 in
theorem kG (l : List Lk) (x : Lk) (p : Option Addr) (cap : Nat) (w : World) (hL : Lies w p l) (hn : l.length ≤ 40) :
  Calls Tryz.prog 195 #[.slice p l.length cap,.agg #[.int .i64 x.o, .int .i64 x.f, .int .i64 x.t, .bool x.a]] w (mW l x w):=by
 have HL : Aside (Lies w p l):=hL
 clear hL
 obtain ⟨n,hnl⟩ : ∃ n,n = l.length:=⟨_,rfl⟩
 have HN : Aside (n = l.length):=hnl
 rw [← hnl] at hn ⊢
 clear hnl
 have HL2 : Aside (∀ k,(aO (l.take k) x).length ≤ 80):=fun k => by
  have h1:=tT (l.take k) x
  have h2 : (l.take k).length ≤ l.length:=by rw [List.length_take];omega
  have h3:=HN.out
  omega
 go_enter Tryz.func195,Tryz.ntmps195
 go_wp2
 go_loopg [12] n (fun gg s12 wr => ∃ k : Nat,k ≤ n ∧ n - k ≤ gg ∧ s12 = .int .i64 k ∧ ∃ v,Aside (WInv x w wr v (aO (l.take k) x)))
 case atStart => exact ⟨0,Nat.zero_le _,by omega,rfl,.slice none 0 0,(WInv.start x w : WInv _ _ _ _ [])⟩
 case round =>
  obtain ⟨k,hk,hg,rfl,v,I⟩:=hrel
  obtain ⟨d0,d1,d2,d3⟩:=I.out.xs
  by_cases hlt : k < n
  ·have hltz : (k : Int) < (n : Int):=by omega
   obtain ⟨y,hy⟩ : ∃ y,l[k]? = some y:=⟨_,List.getElem?_eq_getElem (by have:=HN.out;omega)⟩
   have HS : Aside (aO (l.take (k + 1)) x = aO (l.take k) x ++ gU x y):=yK hy
   rcases HL.out with h0 | ⟨b,off,rfl,hb,hc⟩
   ·rw [h0] at hy;simp at hy
   obtain ⟨c0,c1,c2,c3⟩:=Lies.cells hc hb I.out.base hy
   have hb' : b < wr.heap.size:=Nat.lt_of_lt_of_le hb I.out.base.size
   have hne : b ≠ wr.heap.size:=by omega
   have hne2 : w.heap.size ≠ wr.heap.size:=by have:=I.out.size;omega
   have hwl : w.heap.size < wr.heap.size:=by have:=I.out.size;omega
   have I1 : Aside (WInv x w (wr.alloc (.cells #[.int .i64 y.o, .int .i64 y.f, .int .i64 y.t, .bool y.a] 58)) v (aO (l.take k) x)):=I.out.alloc _
   have hcall:=fun f t => I1.out.keep y f t (by have:=HL2.out k;omega)
   clear hc hy
   by_cases ho : y.o = x.o
   ·have HP : Aside (gU x y = gN y y.f (min y.t x.f) ++ gN y (max y.f x.t) y.t):=by show _ = _;rw [gU,if_neg (by simpa using ho)]
    have hown : ∀ g,v.ownBlock = some g → wr.heap.size ≠ g:=fun g hg => by have:=(World.ownsRow.lt I.out.rows g hg).2;omega
    have hwl2 : wr.heap.size ≠ w.heap.size + 1:=by have:=I.out.size;omega
    have HLn:=HL2.out (k + 1)
    rw [HS.out,HP.out,← List.append_assoc,List.length_append] at HLn
    have hlen2 : (aO (l.take k) x ++ gN y y.f (min y.t x.f)).length ≤ 1000:=by omega
    clear HLn
    obtain ⟨yo,yf,yt,ya⟩:=y
    simp only at *
    subst ho
    go_wp2_with (first
     | ((first | go_at_call 231 | go_at_fn 231);refine (hcall _ _).mono ?_;clear hcall;rintro e w2 ⟨rfl,v2,hI2,hcell2⟩;obtain ⟨a0,a1,a2,a3⟩:=hI2.xs;have b0:=(hcell2 ⟨wr.heap.size,0,none⟩ (by simp) hwl2 hown).trans (by simp : _ = some (Value.int .i64 x.o));have b1:=(hcell2 ⟨wr.heap.size,1,none⟩ (by simp) hwl2 hown).trans (by simp : _ = some (Value.int .i64 yf));have b2:=(hcell2 ⟨wr.heap.size,2,none⟩ (by simp) hwl2 hown).trans (by simp : _ = some (Value.int .i64 yt));have b3:=(hcell2 ⟨wr.heap.size,3,none⟩ (by simp) hwl2 hown).trans (by simp : _ = some (Value.bool ya));have hcall2:=fun f t => hI2.keep ⟨x.o,yf,yt,ya⟩ f t hlen2;clear hI2 hcell2;simp only at hcall2)
     | ((first | go_at_call 231 | go_at_fn 231);refine (hcall2 _ _).mono ?_;clear hcall2;rintro e w3 ⟨rfl,v3,hI3,_⟩))
    go_roundg (n - (k + 1))
    case measure => omega
    case rel => exact ⟨k + 1,by omega,by omega,by go_num,v3,by rw [HS.out,HP.out,← List.append_assoc];exact hI3⟩
   ·have HP : Aside (gU x y = gN y y.f y.t):=by show _ = _;rw [gU,if_pos ho]
    have ho' : (y.o != x.o) = true:=bne_iff_ne.2 ho
    go_wp2_with ((first | go_at_call 231 | go_at_fn 231);refine (hcall _ _).mono ?_;clear hcall;rintro e w2 ⟨rfl,v2,hI2,_⟩)
    go_roundg (n - (k + 1))
    case measure => omega
    case rel => exact ⟨k + 1,by omega,by omega,by go_num,v2,by rw [HS.out,HP.out];exact hI2⟩
  ·have hltz : ¬ (k : Int) < (n : Int):=by omega
   obtain ⟨pv,cv,rfl,_,_,_⟩:=I.out.rows.form
   have hcb:=I.out.box
   have HW : Aside (aO (l.take k) x = aO l x):=by show _ = _;rw [List.take_of_length_le (by have:=HN.out;omega)]
   rw [HW.out] at hcb I
   generalize (aO l x).length = nn at hcb I
   go_wp2
   go_ret
   exact ⟨_,rfl,I.out.rows.mono (by omega),I.out.base⟩
end Go.Proofs.YthfeoiffoeagkaaGreatDoor.LK
