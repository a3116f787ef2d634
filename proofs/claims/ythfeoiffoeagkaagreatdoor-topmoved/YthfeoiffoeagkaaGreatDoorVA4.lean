/-
  A row of entries in a block of the call's own: how it is read, written, cut, and kept.
-/
import Derived.Test.YthfeoiffoeagkaaGreatDoorVA3
import Derived.Lib.SliceRun
import Derived.Laws.AppendOwnNone
namespace Go.Proofs.YthfeoiffoeagkaaGreatDoor
open Go.RowKit PM Go.Sort
set_option linter.unusedVariables false
def Own (w : World) (g cap : Nat) (l : List Ent) : Prop :=
 ∃ cur : Array Value,w.heap[g]? = some (.cells cur 53 (0,0)) ∧ cur.size = cap * 4 ∧ l.length ≤ cap ∧ cap ≤ maxLen ∧ ∀ j e,l[j]? = some e → ∀ i v,(encE e)[i]? = some v → cur[j * 4 + i]? = some v
theorem encE_len (e : Ent) : (encE e).length = 4:=rfl
theorem encE_lt {e : Ent} {i : Nat} {v : Value} (h : (encE e)[i]? = some v) : i < 4:=by
 have:=(List.getElem?_eq_some_iff.1 h).1;rwa [encE_len] at this
theorem flat_len (ns : List Ent) : (ns.flatMap encE).length = ns.length * 4:=by
 induction ns with
 | nil => rfl
 | cons x r ih => rw [List.flatMap_cons,List.length_append,ih,encE_len];simp;omega
section
variable {w w' W : World} {g cap : Nat} {l : List Ent}
theorem Own.lt (h : Own w g cap l) : g < w.heap.size:=by
 obtain ⟨cur,hc,_⟩:=h
 exact (Array.getElem?_eq_some_iff.1 hc).1
theorem Own.len (h : Own w g cap l) : l.length ≤ cap:=by obtain ⟨_,_,_,h,_⟩:=h;exact h
theorem Own.max (h : Own w g cap l) : cap ≤ maxLen:=by obtain ⟨_,_,_,_,h,_⟩:=h;exact h
theorem Own.frozen (h : Own w g cap l) (o : Nat) : w.frozen? ⟨g,o,none⟩ = false:=by
 obtain ⟨cur,hc,_⟩:=h
 simp [World.frozen?,hc]
theorem Own.there (h : Own w g cap l) {o : Nat} (ho : o < cap * 4) : (w.cell? ⟨g,o,none⟩).isSome = true:=by
 obtain ⟨cur,hc,hs,_⟩:=h
 simp [World.cell?,hc,hs,ho]
theorem Own.cell (h : Own w g cap l) {j : Nat} {e : Ent} (he : l[j]? = .some e) {i : Nat} {v : Value} (hv : (encE e)[i]? = .some v) : w.cell? ⟨g,j * 4 + i,none⟩ = .some v:=by
 obtain ⟨cur,hc,_,_,_,h⟩:=h
 simp [World.cell?,hc,h j e he i v hv]
theorem Own.cells (h : Own w g cap l) {j : Nat} {e : Ent} (he : l[j]? = .some e) :
  (w.cell? ⟨g,j * 4,none⟩ = .some (.string e.path) ∧ w.cell? ⟨g,j * 4 + 1,none⟩ = .some (.int .i64 e.kind) ∧ w.cell? ⟨g,j * 4 + 2,none⟩ = .some (.string e.text) ∧ w.cell? ⟨g,j * 4 + 3,none⟩ = .some (.bool e.opq)) ∧
  (w.frozen? ⟨g,j * 4,none⟩ = false ∧ w.frozen? ⟨g,j * 4 + 1,none⟩ = false ∧ w.frozen? ⟨g,j * 4 + 2,none⟩ = false ∧ w.frozen? ⟨g,j * 4 + 3,none⟩ = false) :=
 ⟨⟨h.cell he (i:=0) rfl,h.cell he (i:=1) rfl,h.cell he (i:=2) rfl,h.cell he (i:=3) rfl⟩,h.frozen _,h.frozen _,h.frozen _,h.frozen _⟩
theorem Own.lies (h : Own w g cap l) : Lies w (.some ⟨g,0,none⟩) l :=
 .inr ⟨g,0,rfl,h.lt,fun j e he i v hv => by rw [Nat.zero_add];exact h.cell he hv⟩
theorem Own.kept (h : Own w g cap l) (hk : w'.heap[g]? = w.heap[g]?) : Own w' g cap l:=by
 obtain ⟨cur,hc,h⟩:=h
 exact ⟨cur,hk.trans hc,h⟩
theorem Own.below (h : Own w g cap l) {B : Nat} (hB : Below B w w') (hg : g < B) : Own w' g cap l:=h.kept (hB.block g hg)
theorem Own.grown (h : Own w g cap l) (hB : Grown w w') : Own w' g cap l:=h.below hB.below h.lt
theorem Own.take (h : Own w g cap l) (k : Nat) : Own w g cap (l.take k):=by
 obtain ⟨cur,hc,hs,hl,hm,h⟩:=h
 refine ⟨cur,hc,hs,by rw [List.length_take];omega,hm,fun j e he => h j e ?_⟩
 rw [List.getElem?_take] at he
 split at he
 ·exact he
 ·cases he
theorem heap_set {cur : Array Value} {t : TypeId} {f : Nat × Nat} (h : w.heap[g]? = .some (.cells cur t f)) (o : Nat) (v : Value) : (w.setCell ⟨g,o,none⟩ v).heap[g]? = .some (.cells (cur.setIfInBounds o v) t f):=by
 simp [World.setCell,Array.getElem?_modify,h]
theorem Own.setCells {vs : List Value} {o : Nat} (h : Own w g cap l) : ∃ cur cur' : Array Value,w.heap[g]? = .some (.cells cur 53 (0,0)) ∧ (w.setCells g o vs).heap[g]? = .some (.cells cur' 53 (0,0)) ∧ cur'.size = cur.size ∧ (∀ x,x < o ∨ o + vs.length ≤ x → cur'[x]? = cur[x]?) ∧ (∀ j v,vs[j]? = .some v → o + j < cur.size → cur'[o + j]? = .some v):=by
 obtain ⟨cur,hc,_⟩:=h
 refine ⟨cur,?_⟩
 have key : ∀ (vs : List Value) (o : Nat) (w : World) (cur : Array Value),w.heap[g]? = .some (.cells cur 53 (0,0)) → ∃ cur' : Array Value,(w.setCells g o vs).heap[g]? = .some (.cells cur' 53 (0,0)) ∧ cur'.size = cur.size ∧ (∀ x,x < o ∨ o + vs.length ≤ x → cur'[x]? = cur[x]?) ∧ (∀ j v,vs[j]? = .some v → o + j < cur.size → cur'[o + j]? = .some v):=by
  intro vs
  induction vs with
  | nil => intro o w cur hc;exact ⟨cur,hc,rfl,fun _ _ => rfl,fun j v hj => by simp at hj⟩
  | cons v r ih =>
   intro o w cur hc
   obtain ⟨cur',h1,h2,h3,h4⟩:=ih (o + 1) (w.setCell ⟨g,o,none⟩ v) _ (heap_set hc o v)
   refine ⟨cur',h1,by rw [h2];simp,fun x hx => ?_,fun j u hj hlt => ?_⟩
   ·rw [h3 x (by simp at hx;omega),Array.getElem?_setIfInBounds,if_neg (by simp at hx;omega)]
   ·cases j with
    | zero =>
     simp at hj;subst hj
     rw [Nat.add_zero,h3 o (by omega),Array.getElem?_setIfInBounds,if_pos rfl,if_pos (by omega)]
    | succ j => rw [show o + (j + 1) = o + 1 + j by omega];exact h4 j u (by simpa using hj) (by simp;omega)
 obtain ⟨cur',h1,h2,h3,h4⟩:=key vs o w cur hc
 exact ⟨cur',hc,h1,h2,h3,h4⟩
theorem Own.beyond {vs : List Value} {o : Nat} (h : Own w g cap l) (ho : l.length * 4 ≤ o) : Own (w.setCells g o vs) g cap l:=by
 obtain ⟨cur,cur',h0,h1,h2,h3,_⟩:=h.setCells (vs:=vs) (o:=o)
 obtain ⟨c,hc,hs,hl,hm,hh⟩:=h
 obtain rfl : c = cur:=by have:=hc.symm.trans h0;simpa using this
 refine ⟨cur',h1,by rw [h2,hs],hl,hm,fun j e he i v hv => ?_⟩
 have hj:=(List.getElem?_eq_some_iff.1 he).1
 have hi:=encE_lt hv
 rw [h3 _ (by omega)];exact hh j e he i v hv
theorem Own.over {ns : List Ent} {j : Nat} (h : Own w g cap l) (hj : j ≤ l.length) (hc : j + ns.length ≤ cap) : Own (w.setCells g (j * 4) (ns.flatMap encE)) g cap (l.take j ++ ns ++ l.drop (j + ns.length)):=by
 obtain ⟨cur,cur',h0,h1,h2,h3,h4⟩:=h.setCells (vs:=ns.flatMap encE) (o:=j * 4)
 obtain ⟨c,hc0,hs,hl,hm,hh⟩:=h
 obtain rfl : c = cur:=by have:=hc0.symm.trans h0;simpa using this
 have hfl:=flat_len ns
 refine ⟨cur',h1,by rw [h2,hs],by simp;omega,hm,fun k e he i v hv => ?_⟩
 have hi:=encE_lt hv
 by_cases c1 : k < j
 ·rw [List.append_assoc,List.getElem?_append_left (by rw [List.length_take];omega),List.getElem?_take,if_pos c1] at he
  rw [h3 _ (by omega)];exact hh k e he i v hv
 ·by_cases c2 : k < j + ns.length
  ·rw [List.append_assoc,List.getElem?_append_right (by rw [List.length_take];omega),List.length_take,Nat.min_eq_left hj,List.getElem?_append_left (by omega)] at he
   rw [show k * 4 + i = j * 4 + ((k - j) * 4 + i) by omega]
   refine h4 _ v ?_ (by rw [hs];omega)
   have key : ∀ (ns : List Ent) (q : Nat),ns[q]? = .some e → (ns.flatMap encE)[q * 4 + i]? = .some v:=by
    intro ns
    induction ns with
    | nil => intro q hq;simp at hq
    | cons x r ih =>
     intro q hq
     rw [List.flatMap_cons]
     cases q with
     | zero => simp at hq;subst hq;rw [List.getElem?_append_left (by rw [encE_len];omega)];simpa using hv
     | succ q =>
      rw [List.getElem?_append_right (by rw [encE_len];omega),encE_len,show (q + 1) * 4 + i - 4 = q * 4 + i by omega]
      exact ih q (by simpa using hq)
   exact key ns _ he
  ·rw [List.getElem?_append_right (by rw [List.length_append,List.length_take];omega),List.length_append,List.length_take,Nat.min_eq_left hj,List.getElem?_drop,show j + ns.length + (k - (j + ns.length)) = k by omega] at he
   rw [h3 _ (by rw [hfl];omega)];exact hh k e he i v hv
theorem set_eq (l : List Ent) (j : Nat) (e : Ent) (hj : j < l.length) : l.take j ++ [e] ++ l.drop (j + 1) = l.set j e:=by
 apply List.ext_getElem?
 intro k
 rw [List.getElem?_set]
 by_cases c1 : k < j
 ·rw [List.append_assoc,List.getElem?_append_left (by rw [List.length_take];omega),List.getElem?_take,if_pos c1,if_neg (by omega)]
 ·by_cases c2 : k = j
  ·subst c2
   rw [List.append_assoc,List.getElem?_append_right (by rw [List.length_take];omega),List.length_take,Nat.min_eq_left (by omega)]
   simp [hj]
  ·rw [List.getElem?_append_right (by simp;omega),if_neg (by omega)]
   simp only [List.length_append,List.length_take,Nat.min_eq_left (Nat.le_of_lt hj),List.length_singleton,List.getElem?_drop]
   congr 1;omega
theorem Own.set (h : Own w g cap l) {j : Nat} (hj : j < l.length) (e : Ent) : Own ((((w.setCell ⟨g,j * 4,none⟩ (.string e.path)).setCell ⟨g,j * 4 + 1,none⟩ (.int .i64 e.kind)).setCell ⟨g,j * 4 + 2,none⟩ (.string e.text)).setCell ⟨g,j * 4 + 3,none⟩ (.bool e.opq)) g cap (l.set j e):=by
 have:=h.over (ns:=[e]) (j:=j) (by omega) (by have:=h.len;simp;omega)
 rw [List.length_singleton,set_eq l j e hj] at this
 exact this
/-! what else has turned -/
theorem gby_refl (w : World) (r : Option Nat) : w.grownBy w r:=⟨rfl,rfl,rfl,Nat.le_refl _,fun _ _ _ => rfl⟩
theorem gby_below (h : w.grownBy W (.some g)) (hB : Below W.heap.size W w') : w.grownBy w' (.some g) :=
 ⟨hB.os.trans h.os,hB.tape.trans h.tape,hB.output.trans h.output,Nat.le_trans h.size hB.size,fun k hk hn => (hB.block k (Nat.lt_of_lt_of_le hk h.size)).trans (h.block k hk hn)⟩
theorem gby_grown (h : w.grownBy W (.some g)) (hB : Grown W w') : w.grownBy w' (.some g):=gby_below h hB.below
theorem gby_alloc (h : w.grownBy W (.some g)) (o : Obj) : w.grownBy (W.alloc o) (.some g):=gby_grown h ((Grown.refl W).alloc o)
theorem gby_set (h : w.grownBy W (.some g)) (o : Nat) (v : Value) : w.grownBy (W.setCell ⟨g,o,none⟩ v) (.some g) :=
 ⟨h.os,h.tape,h.output,by simp [World.setCell];exact h.size,fun k hk hn => (Below.heap_setCell _ _ _ _ (by intro e;exact hn (by rw [e]))).trans (h.block k hk hn)⟩
theorem gby_setCells : ∀ (vs : List Value) (o : Nat) (W : World),w.grownBy W (.some g) → w.grownBy (W.setCells g o vs) (.some g)
 | [],_,_,h => h
 | v :: r,o,W,h => gby_setCells r (o + 1) _ (gby_set h o v)
theorem gby_cell (h : w.grownBy W (.some g)) {a : Addr} (ha : a.block < w.heap.size) (hn : a.block ≠ g) : W.cell? a = w.cell? a:=World.cell?_of_block (w:=w) (h.block _ ha (by simpa using hn))
theorem gby_trans {W2 : World} (h : w.grownBy W (.some g)) (k : W.grownBy W2 (.some g)) : w.grownBy W2 (.some g) :=
 ⟨k.os.trans h.os,k.tape.trans h.tape,k.output.trans h.output,Nat.le_trans h.size k.size,fun i hi hn => (k.block i (Nat.lt_of_lt_of_le hi h.size) hn).trans (h.block i hi hn)⟩
end
theorem clear_own {w : World} {g cap : Nat} {l : List Ent} (h : Own w g cap l) {i n c : Nat} (hn : 0 < n) (hi : i + n ≤ cap) :
  ∃ zs,∀ ty,(Builtin.clear_ #[23] ty #[.slice (some ⟨g,i * 4,none⟩) n c]).run Tryz.prog w = .ok (.tuple #[]) (w.setCells g (i * 4) zs):=by
 refine ⟨(Builtin.zeroCells #[.string ⟨#[]⟩,.int .i64 0,.string ⟨#[]⟩,.bool false] n).toList,fun ty => ?_⟩
 have hlen : (Builtin.zeroCells #[.string ⟨#[]⟩,.int .i64 0,.string ⟨#[]⟩,.bool false] n).toList.length = n * 4:=by simp [Builtin.zeroCells]
 have hst:=run_storeCells_cells (P:=Tryz.prog) g (i * 4) (Builtin.zeroCells #[.string ⟨#[]⟩,.int .i64 0,.string ⟨#[]⟩,.bool false] n).toList 0 w
  (fun j hj => by rw [hlen] at hj;exact h.there (by omega)) (fun j _ => h.frozen _) (fun v hv => by
    simp only [Builtin.zeroCells,Array.toList_map,List.mem_map] at hv
    obtain ⟨k,_,rfl⟩:=hv
    have : k % 4 < 4:=Nat.mod_lt _ (by decide)
    show (#[Value.string ⟨#[]⟩,.int .i64 0,.string ⟨#[]⟩,.bool false][k % 4]!).oneCell' = true
    generalize k % 4 = r at this
    match r,this with
    | 0,_ => rfl
    | 1,_ => rfl
    | 2,_ => rfl
    | 3,_ => rfl)
 obtain ⟨m,rfl⟩ : ∃ m,n = m + 1:=⟨n - 1,by omega⟩
 have hst' : (storeCells ⟨g,i * 4,none⟩ (Builtin.zeroCells #[.string ⟨#[]⟩,.int .i64 0,.string ⟨#[]⟩,.bool false] (m + 1)).toList).run Tryz.prog w = .ok () (w.setCells g (i * 4) (Builtin.zeroCells #[.string ⟨#[]⟩,.int .i64 0,.string ⟨#[]⟩,.bool false] (m + 1)).toList):=hst
 simp [Builtin.clear_,run_underlying Tryz.underlying23,Value.cells,hst']
structure DelInv (pr : Ent → Bool) (l : List Ent) (w : World) (g cap i j : Nat) (dk : List Ent) (W : World) : Prop where
 own : Own W g cap dk
 len : dk.length = l.length
 head : dk.take i = (l.take j).filter fun x => !pr x
 tail : dk.drop j = l.drop j
 gby : w.grownBy W (some g)
theorem DelInv.at {pr : Ent → Bool} {l : List Ent} {w : World} {g cap i j : Nat} {dk : List Ent} {W : World} (h : DelInv pr l w g cap i j dk W) {y : Ent} (hy : l[j]? = some y) : dk[j]? = some y:=by
 have:=congrArg (·[0]?) h.tail
 simpa [List.getElem?_drop,hy] using this
theorem take_step {l : List Ent} {j : Nat} {y : Ent} (hy : l[j]? = some y) : l.take (j + 1) = l.take j ++ [y]:=by
 obtain ⟨h1,h2⟩:=List.getElem?_eq_some_iff.1 hy
 rw [List.take_succ_eq_append_getElem h1,h2]
theorem DelInv.skip {pr : Ent → Bool} {l : List Ent} {w : World} {g cap i j : Nat} {dk : List Ent} {W W2 : World} (h : DelInv pr l w g cap i j dk W) {y : Ent} (hy : l[j]? = some y) (hp : pr y = true) (hG : Grown W W2) : DelInv pr l w g cap i (j + 1) dk W2 :=
 ⟨h.own.grown hG,h.len,by rw [take_step hy,List.filter_append,h.head];simp [hp],by have:=congrArg (·.drop 1) h.tail;simpa [List.drop_drop] using this,gby_grown h.gby hG⟩
theorem DelInv.keep {pr : Ent → Bool} {l : List Ent} {w : World} {g cap i j : Nat} {dk : List Ent} {W W2 : World} (h : DelInv pr l w g cap i j dk W) {y : Ent} (hy : l[j]? = some y) (hp : pr y = false) (hG : Grown W W2) (hij : i < j) :
  DelInv pr l w g cap (i + 1) (j + 1) (dk.set i y) ((((W2.setCell ⟨g,i * 4,none⟩ (.string y.path)).setCell ⟨g,i * 4 + 1,none⟩ (.int .i64 y.kind)).setCell ⟨g,i * 4 + 2,none⟩ (.string y.text)).setCell ⟨g,i * 4 + 3,none⟩ (.bool y.opq)):=by
 have hj:=(List.getElem?_eq_some_iff.1 hy).1
 have hi : i < dk.length:=by rw [h.len];omega
 refine ⟨(h.own.grown hG).set hi y,by rw [List.length_set,h.len],?_,?_,gby_set (gby_set (gby_set (gby_set (gby_grown h.gby hG) _ _) _ _) _ _) _ _⟩
 ·rw [take_step hy,List.filter_append,← h.head,take_step (y:=y) (by rw [List.getElem?_set,if_pos rfl,if_pos hi])]
  rw [List.take_set_of_le (Nat.le_refl _)]
  simp [hp]
 ·have:=congrArg (·.drop 1) h.tail
  rw [List.drop_set_of_lt (by omega)]
  simpa [List.drop_drop] using this
theorem IdxPost.parts {pr : Ent → Bool} {t : List Ent} {w w' : World} {r : Ending} {n : Nat} (hn : n = t.length) (h : IdxPost pr t w r w') :
  Grown w w' ∧ ((r = .returned (.int .i64 (-1)) ∧ ∀ x ∈ t,pr x = false) ∨ ∃ (k : Nat) (y : Ent),k < n ∧ t[k]? = some y ∧ r = .returned (.int .i64 k) ∧ pr y = true ∧ ∀ x ∈ t.take k,pr x = false):=by
 obtain ⟨h1,h2 | ⟨k,y,h3,h4⟩⟩:=h
 ·exact ⟨h1,.inl h2⟩
 ·exact ⟨h1,.inr ⟨k,y,by rw [hn];exact (List.getElem?_eq_some_iff.1 h3).1,h3,h4⟩⟩
set_option maxHeartbeats 4000000 in
theorem delete_any (pr : Ent → Bool) (gf : Nat) (lb : Array Value) (eg : ∀ args w,(callFunc gf args).run Tryz.prog w = .ok (.enter gf args) w) (l : List Ent) (g cap : Nat) (w : World) (hO : Own w g cap l) (hn : l.length < 4611686018427387904)
  (hp : ∀ W x,w.grownBy W (some g) → x ∈ l → Calls Tryz.prog gf (#[.agg #[.string x.path, .int .i64 x.kind, .string x.text, .bool x.opq]] ++ lb) W fun e w' => e = .returned (.bool (pr x)) ∧ Grown W w') :
  Calls Tryz.prog 220 #[.slice (some ⟨g,0,none⟩) l.length cap,.func (.func gf) #[] lb] w fun e w' =>
   e = .returned (.slice (some ⟨g,0,none⟩) (l.filter fun x => !pr x).length cap) ∧ Own w' g cap (l.filter fun x => !pr x) ∧ w.grownBy w' (some g):=by
 have hI:=index_any pr gf lb eg l (some ⟨g,0,none⟩) cap w hO.lies hn (fun W x hG hx => hp W x (gby_grown (gby_refl w _) hG) hx)
 have HO : Aside (Own w g cap l):=hO
 have HP : Aside _:=hp
 have hcap : l.length ≤ cap:=hO.len
 have hc63:=hO.max
 unfold maxLen at hc63
 clear hp hO
 obtain ⟨n,hnl⟩ : ∃ n,n = l.length:=⟨_,rfl⟩
 have HN : Aside (n = l.length):=hnl
 rw [← hnl] at hn hcap hI ⊢
 clear hnl
 go_enter Tryz.func220,Tryz.ntmps220
 go_wp2_with (go_at_call 256;refine hI.mono ?_;clear hI;intro e w1 hIP;rcases IdxPost.parts HN.out hIP with ⟨hG,⟨rfl,ha⟩ | ⟨k0,y0,hk0,hy0,rfl,hpy0,ha⟩⟩ <;> clear hIP)
 ·go_ret
  have hf : (l.filter fun x => !pr x) = l:=List.filter_eq_self.2 fun x hx => by simp [ha x hx]
  rw [hf]
  exact ⟨by rw [← HN.out];rfl,HO.out.grown hG,gby_grown (gby_refl w _) hG⟩
 ·have HI0 : Aside (DelInv pr l w g cap k0 (k0 + 1) l w1):=⟨HO.out.grown hG,rfl,by rw [take_step hy0,List.filter_append,List.filter_eq_self.2 (fun x hx => by simp [ha x hx])];simp [hpy0],rfl,gby_grown (gby_refl w _) hG⟩
  clear hy0 ha hG
  have hne1 : ((k0 : Int) == -1) = false:=beq_eq_false_iff_ne.2 (by omega)
  go_wp2
  go_loopg [5,6,7] n (fun gg s5 s6 _ wr => ∃ (i j : Nat) (dk : List Ent),s5 = .int .i64 i ∧ s6 = .int .i64 j ∧ i < j ∧ j ≤ n ∧ n - j ≤ gg ∧ Aside (DelInv pr l w g cap i j dk wr))
  case atStart => exact ⟨k0,k0 + 1,l,rfl,by go_num,by omega,by omega,by omega,HI0.out⟩
  case round =>
   obtain ⟨i,j,dk,rfl,rfl,hij,hjn,hgg,INV⟩:=hrel
   have hglt:=INV.out.own.lt
   have hne : g ≠ wr.heap.size:=by omega
   by_cases hlt : j < n
   ·have hltz : (j : Int) < (n : Int):=by omega
    obtain ⟨y,hy⟩ : ∃ y,l[j]? = some y:=⟨_,List.getElem?_eq_getElem (by have:=HN.out;omega)⟩
    have HY : Aside (l[j]? = some y):=hy
    obtain ⟨⟨c0,c1,c2,c3⟩,_⟩:=INV.out.own.cells (INV.out.at hy)
    have hcall:=HP.out _ y (gby_alloc INV.out.gby (.cells #[.string y.path, .int .i64 y.kind, .string y.text, .bool y.opq] 53)) (List.mem_of_getElem? hy)
    obtain ⟨z,hz⟩ : ∃ z,dk[i]? = some z:=⟨_,List.getElem?_eq_getElem (by rw [INV.out.len];have:=HN.out;omega)⟩
    have HZ : Aside (dk[i]? = some z):=hz
    clear hy hz
    cases hq : pr y with
    | true =>
     rw [hq] at hcall
     go_wp2_with (go_at_fn gf;refine hcall.mono ?_;clear hcall;rintro e w2 ⟨rfl,hG2⟩)
     go_roundg (n - (j + 1))
     case measure => omega
     case rel => exact ⟨i,j + 1,dk,rfl,by go_num,by omega,by omega,Nat.le_refl _,INV.out.skip HY.out hq (((Grown.refl wr).alloc _).trans hG2)⟩
    | false =>
     rw [hq] at hcall
     go_wp2_with (go_at_fn gf;refine hcall.mono ?_;clear hcall;rintro e w2 ⟨rfl,hG2⟩;obtain ⟨⟨b0,b1,b2,b3⟩,_⟩:=new4 (by simp) hG2.below;obtain ⟨⟨a0,a1,a2,a3⟩,⟨f0,f1,f2,f3⟩⟩:=(INV.out.own.grown (((Grown.refl wr).alloc _).trans hG2)).cells HZ.out)
     go_roundg (n - (j + 1))
     case measure => omega
     case rel => exact ⟨i + 1,j + 1,dk.set i y,by go_num,by go_num,by omega,by omega,Nat.le_refl _,INV.out.keep HY.out hq (((Grown.refl wr).alloc _).trans hG2) hij⟩
   ·obtain rfl : j = n:=by omega
    have hltz : ¬ (j : Int) < (j : Int):=by omega
    obtain ⟨zs,hzs⟩:=clear_own INV.out.own (i:=i) (n:=j - i) (c:=cap - i) (by omega) (by omega)
    have hic : ¬ cap = i:=by omega
    go_wp2
    go_ret
    have hf : (l.filter fun x => !pr x) = dk.take i:=by rw [INV.out.head,HN.out,List.take_length]
    have hl : (dk.take i).length = i:=by rw [List.length_take,INV.out.len];have:=HN.out;omega
    rw [hf,hl]
    exact ⟨rfl,(INV.out.own.take i).beyond (by rw [hl];exact Nat.le_refl _),gby_setCells _ _ _ INV.out.gby⟩
theorem withoutP_any (e : Ent) (q : ByteArray) (B : Nat) (w : World) (hB : B < w.heap.size) (hc : w.cell? ⟨B,0,none⟩ = some (.string q)) :
  Calls Tryz.prog 255 #[.agg #[.string e.path, .int .i64 e.kind, .string e.text, .bool e.opq],.pointer (some ⟨B,0,none⟩)] w fun r w' => r = .returned (.bool (decide (e.p = q.data.toList))) ∧ Grown w w':=by
 have hne : B ≠ w.heap.size:=by omega
 have HE : Aside ((e.path.toList == q.toList) = decide (e.p = q.data.toList)):=by
  show _ = _
  rw [Lib.toList_data,Lib.toList_data,Bool.eq_iff_iff];simp [Ent.p]
 go_enter Tryz.func255,Tryz.ntmps255
 go_wp2
 go_ret
 exact ⟨ret_bool HE.out,(Grown.refl w).alloc _⟩
theorem info38 : ∃ i0,Tryz.prog.info? 53 = some i0 ∧ i0.zero = some (.agg #[.string ⟨#[]⟩,.int .i64 0,.string ⟨#[]⟩,.bool false]) ∧ i0.size = 4 ∧ i0.bytes = 48:=by
 have h : (Tryz.prog.info? 53).map (fun i => (i.zero,i.size,i.bytes)) = some (some (.agg #[.string ⟨#[]⟩,.int .i64 0,.string ⟨#[]⟩,.bool false]),4,48):=by kernel_rfl
 cases hi : Tryz.prog.info? 53 with
 | none => rw [hi] at h;cases h
 | some i0 =>
  rw [hi] at h
  simp only [Option.map_some,Option.some.injEq,Prod.mk.injEq] at h
  exact ⟨i0,rfl,h.1,h.2.1,h.2.2⟩
theorem flat_get {t : List Ent} {k : Nat} {u : Value} (h : (t.flatMap encE)[k]? = some u) : ∃ j e i,t[j]? = some e ∧ (encE e)[i]? = some u ∧ k = j * 4 + i:=by
 induction t generalizing k with
 | nil => simp at h
 | cons x r ih =>
  rw [List.flatMap_cons] at h
  by_cases hk : k < 4
  ·rw [List.getElem?_append_left (by rw [encE_len];exact hk)] at h
   exact ⟨0,x,k,rfl,h,by omega⟩
  ·rw [List.getElem?_append_right (by rw [encE_len];omega),encE_len] at h
   obtain ⟨j,e,i,h1,h2,h3⟩:=ih h
   exact ⟨j + 1,e,i,by simpa using h1,h2,by omega⟩
theorem flat_at {t : List Ent} {j i : Nat} {e : Ent} {v : Value} (h : t[j]? = some e) (hv : (encE e)[i]? = some v) : (t.flatMap encE)[j * 4 + i]? = some v:=by
 have hi:=encE_lt hv
 induction t generalizing j with
 | nil => simp at h
 | cons x r ih =>
  rw [List.flatMap_cons]
  cases j with
  | zero => simp at h;subst h;rw [List.getElem?_append_left (by rw [encE_len];omega)];simpa using hv
  | succ j =>
   rw [List.getElem?_append_right (by rw [encE_len];omega),encE_len,show (j + 1) * 4 + i - 4 = j * 4 + i by omega]
   exact ih (by simpa using h)
theorem flat_one {t : List Ent} {u : Value} (h : u ∈ t.flatMap encE) : u.oneCell' = true:=by
 obtain ⟨e,_,he⟩:=List.mem_flatMap.1 h
 simp [encE] at he
 rcases he with rfl | rfl | rfl | rfl <;> rfl
theorem Lies.flat {w : World} {ad : Addr} {t : List Ent} (h : Lies w (some ad) t) {W : World} (hW : Below w.heap.size w W) : ∀ j u,(t.flatMap encE)[j]? = some u → W.cell? (ad.add j) = some u:=by
 intro k u hu
 obtain ⟨j,e,i,h1,h2,rfl⟩:=flat_get hu
 rcases h with rfl | ⟨b,off,he,hb,hc⟩
 ·simp at h1
 ·cases he
  rw [Addr.add_lit,hW.cell (p:=⟨b,off + (j * 4 + i),none⟩) hb,← Nat.add_assoc]
  exact hc j e h1 i u h2
theorem Own.of_row {w : World} {base n : Nat} {v : Value} {t : List Ent} (h : w.ownsRow base 53 4 v n (t.flatMap encE)) (hv : v ≠ .slice none 0 0) (hn : n = t.length) : ∃ g c,v = .slice (some ⟨g,0,none⟩) t.length c ∧ base ≤ g ∧ Own w g c t:=by
 obtain ⟨h1,h2 | ⟨g,cap,cur,hv',hg,hh,hnc,hm,hs,ht⟩⟩:=h
 ·exact absurd h2.1 hv
 ·subst hn
  refine ⟨g,cap,hv',hg,cur,hh,hs,hnc,hm,fun j e he i v hvv => ?_⟩
  have:=flat_at he hvv
  rw [← ht,List.getElem?_take] at this
  split at this
  ·rw [← Array.getElem?_toList];exact this
  ·cases this
theorem empty_row (w : World) (H : Nat) (hH : H = w.heap.size) : (w.alloc (.cells #[] 53)).ownsRow H 53 4 (.slice (some ⟨H,0,none⟩) 0 0) 0 []:=by
 subst hH
 exact ⟨rfl,.inr ⟨w.heap.size,0,#[],rfl,Nat.le_refl _,(by show (w.heap.push _)[w.heap.size]? = _;simp),Nat.le_refl _,by decide,rfl,rfl⟩⟩
theorem append_copy {ops : Array Oper} {rest : List Oper} {o : Oper} {a : Act} {Q : Exit → Act → World → Prop} (W : World) (hgd : o.guard = none) (s x : Operand)
  (ho : o.op = .call { callee:=.builtin .append,args:=#[s,x],argTypes:=#[23,23] }) (H : Nat) (hs : a.eval s = .slice (some ⟨H,0,none⟩) 0 0) (hown : W.ownsRow H 53 4 (.slice (some ⟨H,0,none⟩) 0 0) 0 [])
  (p : Option Addr) (n cap : Nat) (t : List Ent) (hx : a.eval x = .slice p n cap) (hn : n = t.length) (hL : Lies W p t) (hnil : p = none → cap = 0) (h80 : n ≤ 80) (hH : H ≤ W.heap.size)
  (h : ∀ g c w',Own w' g c t → H ≤ g → Below H W w' → wpList Tryz.prog ops Q rest (a.put o.dst (.slice (some ⟨g,0,none⟩) n c)) w') : wpList Tryz.prog ops Q (o :: rest) a W:=by
 obtain ⟨i0,hi,hz0,hz1,hz2⟩:=info38
 cases p with
 | none =>
  obtain rfl : cap = 0:=hnil rfl
  have ht : t = []:=by
   rcases hL with h | ⟨b,off,he,_⟩
   ·exact h
   ·cases he
  subst ht
  obtain rfl : n = 0:=hn
  refine wpList_append_own_none hgd s x 23 ho H 53 i0 4 Tryz.underlying23 hi _ 0 [] hs hown hx ?_
  obtain ⟨g,c,hv,hg,ho'⟩:=Own.of_row (t:=[]) hown (by simp) rfl
  simp only [List.length_nil] at hv
  rw [hv]
  exact h g c W ho' hg (Below.refl _ _)
 | some ad =>
  refine wpList_append_own W hgd s x 23 ho H 53 i0 _ 4 48 Tryz.underlying23 hi hz0 hz1 hz2 rfl (by decide) _ 0 [] hs hown ad n cap (t.flatMap encE) hx (by rw [flat_len,hn]) (hL.flat (Below.refl _ _)) (fun u hu => flat_one hu) (by unfold maxLen;omega) (by omega) hH ?_
  intro v' w' hrow hg hiff
  rw [List.nil_append,Nat.zero_add] at hrow
  obtain ⟨g,c,hv,hgg,ho'⟩:=Own.of_row hrow (by intro e;have:=(hiff.1 e).1;cases this) hn
  rw [hv,← hn]
  exact h g c w' ho' hgg ((Below.refl H W).grown hg hH (fun k hk => by simp [Value.ownBlock] at hk;omega))
def WithoutPost (t : List Ent) (q : List UInt8) (w : World) (e : Ending) (w' : World) : Prop :=
 ∃ g c,e = .returned (.slice (some ⟨g,0,none⟩) (remL t q).length c) ∧ w.heap.size ≤ g ∧ Own w' g c (remL t q) ∧ Below w.heap.size w w'
set_option maxHeartbeats 4000000 in
theorem without_any (t : List Ent) (q : ByteArray) (p : Option Addr) (cap : Nat) (w : World) (hL : Lies w p t) (hnil : p = none → cap = 0) (hn : t.length ≤ 80) :
  Calls Tryz.prog 219 #[.slice p t.length cap,.string q] w (WithoutPost t q.data.toList w):=by
 have eg : ∀ args w,(callFunc 255 args).run Tryz.prog w = .ok (.enter 255 args) w:=enters_of Tryz.func255 (by kernel_rfl) rfl
 have hdel : ∀ (g c : Nat) (W : World),Own W g c t → w.heap.size + 1 ≤ g → Below (w.heap.size + 1) (w.alloc (.cells #[.string q] 9)) W →
   Calls Tryz.prog 220 #[.slice (some ⟨g,0,none⟩) t.length c,.func (.func 255) #[] #[.pointer (some ⟨w.heap.size,0,none⟩)]] W fun e w' => e = .returned (.slice (some ⟨g,0,none⟩) (remL t q.data.toList).length c) ∧ Own w' g c (remL t q.data.toList) ∧ Below (w.heap.size + 1) (w.alloc (.cells #[.string q] 9)) w':=by
  intro g c W hO hg hB
  have hBs:=hB.size
  simp at hBs
  refine (delete_any (fun e => decide (e.p = q.data.toList)) 255 #[.pointer (some ⟨w.heap.size,0,none⟩)] eg t g c W hO (by omega) (fun W2 x hG hx => withoutP_any x q w.heap.size W2 (by have:=hG.size;omega) ?_)).mono ?_
  ·rw [gby_cell hG (by show w.heap.size < W.heap.size;omega) (by show w.heap.size ≠ g;omega),hB.cell (p:=⟨w.heap.size,0,none⟩) (by simp)]
   simp
  ·rintro e w' ⟨rfl,hO',hG⟩
   exact ⟨rfl,hO',hB.grown hG (by simpa using hBs) (fun k hk => by simp at hk;omega)⟩
 have HL : Aside (Lies w p t):=hL
 clear hL eg
 obtain ⟨n,hnl⟩ : ∃ n,n = t.length:=⟨_,rfl⟩
 have HN : Aside (n = t.length):=hnl
 rw [← hnl] at hn hdel ⊢
 clear hnl
 generalize hrl : (remL t q.data.toList).length = rl at hdel
 have HR : Aside ((remL t q.data.toList).length = rl):=hrl
 clear hrl
 go_enter Tryz.func219,Tryz.ntmps219
 go_wp2_with (at_builtin;refine append_copy _ rfl _ _ rfl (w.heap.size + 1) rfl ?_ p n cap t rfl HN.out ?_ hnil hn ?_ ?_)
 ·exact empty_row (w.alloc (.cells #[.string q] 9)) _ (by simp)
 ·exact (HL.out.grown ((Grown.refl w).alloc _)).grown ((Grown.refl _).alloc _)
 ·simp
 ·intro g c w1 hO hg hB
  have hB' : Below (w.heap.size + 1) (w.alloc (.cells #[.string q] 9)) w1:=((Below.refl _ _).alloc (by simp) _).trans hB
  have hcall:=hdel g c w1 hO hg hB'
  clear hdel
  have H1 : Aside (w.heap.size + 1 ≤ g):=hg
  clear hO hB hg
  go_wp2_with (go_at_call 220;refine hcall.mono ?_;clear hcall;rintro e w2 ⟨rfl,hO2,hB2⟩)
  go_ret
  exact ⟨g,c,by rw [HR.out];rfl,by have:=H1.out;omega,hO2,base1 hB2⟩
theorem or3_any (a b c : Int) (W : World) : Calls Tryz.prog 157 #[.slice (some ⟨W.heap.size,0,none⟩) 3 3] (W.alloc (.cells #[.int .i64 a,.int .i64 b,.int .i64 c] 31)) fun e w' => e = .returned (.int .i64 (orL [a,b,c])) ∧ w' = W.alloc (.cells #[.int .i64 a,.int .i64 b,.int .i64 c] 31) :=
 or_any [a,b,c] W.heap.size 3 _ (by simp) (fun j x hx => by
  match j,hx with
  | 0,hx => simp at hx;subst hx;simp
  | 1,hx => simp at hx;subst hx;simp
  | 2,hx => simp at hx;subst hx;simp
  | j + 3,hx => simp at hx)
theorem or2_any (a b : Int) (W : World) : Calls Tryz.prog 157 #[.slice (some ⟨W.heap.size,0,none⟩) 2 2] (W.alloc (.cells #[.int .i64 a,.int .i64 b] 31)) fun e w' => e = .returned (.int .i64 (orL [a,b])) ∧ w' = W.alloc (.cells #[.int .i64 a,.int .i64 b] 31) :=
 or_any [a,b] W.heap.size 2 _ (by simp) (fun j x hx => by
  match j,hx with
  | 0,hx => simp at hx;subst hx;simp
  | 1,hx => simp at hx;subst hx;simp
  | j + 2,hx => simp at hx)
def TreePost (err : Int) (l : List Ent) (w : World) (e : Ending) (w' : World) : Prop :=
 ∃ p c,e = .returned (.tuple #[.slice p l.length c,.int .i64 err]) ∧ Lies w' p l ∧ l.length ≤ c ∧ (p = none → c = 0) ∧ Below w.heap.size w w'
theorem TreePost.none {err : Int} {w w' : World} (hB : Below w.heap.size w w') : TreePost err [] w (.returned (.tuple #[.slice .none 0 0,.int .i64 err])) w':=⟨.none,0,rfl,Lies.nil _ _,Nat.le_refl _,fun _ => rfl,hB⟩
def remErr (t : List Ent) (q : List UInt8) : Int:=orL [(faultL false t).1,missL t q,fullL t q]
theorem remErr_of (t : List Ent) (q : List UInt8) (r : Int) (hr : Sorted t → r = missL t q) : orL [(faultL false t).1,r,fullL t q] = remErr t q:=by
 unfold remErr
 by_cases h : (faultL false t).1 = 0
 ·rw [hr (faultL_zero.1 h).sorted]
 ·simp [orL,h]
theorem orL_zero {a : Int} {r : List Int} : orL (a :: r) = 0 ↔ a = 0 ∧ orL r = 0:=by
 rw [orL]
 by_cases h : a = 0 <;> simp [h]
theorem remErr_zero {t : List Ent} {q : List UInt8} (h : remErr t q = 0) : Right false t ∧ (∃ e ∈ t,e.p = q) ∧ ∀ x ∈ t,under x.p q = false:=by
 unfold remErr at h
 obtain ⟨h1,h⟩:=orL_zero.1 h
 obtain ⟨h2,h⟩:=orL_zero.1 h
 obtain ⟨h3,_⟩:=orL_zero.1 h
 refine ⟨faultL_zero.1 h1,?_,?_⟩
 ·unfold missL at h2
  split at h2
  ·assumption
  ·omega
 ·unfold fullL at h3
  split at h3
  ·omega
  ·rename_i g;intro x hx;simpa using fun hu => g (List.any_eq_true.2 ⟨x,hx,hu⟩)
theorem field40 (a b : Value) (w : World) : Sem.run Tryz.prog (Instr.field 46 (.agg #[a,b]) 0) w = .ok a w:=by
 first | kernel_rfl | simp [go_sem] | rfl
set_option maxHeartbeats 2000000 in
set_option maxRecDepth 100000 in
theorem remove_any (t : List Ent) (q : ByteArray) (m : Int) (p : Option Addr) (cap : Nat) (w : World) (hL : Lies w p t) (hF : Fits t) (hn : t.length < 4611686018427387904) (hcap : t.length ≤ cap) (hnil : p = none → cap = 0) (hq : q.size ≤ maxLen) (hm : w.cell? ⟨0,0,none⟩ = some (.int .i64 m)) :
  Calls Tryz.prog 178 #[.slice p t.length cap,.string q] w (TreePost (remErr t q.data.toList) (if remErr t q.data.toList = 0 then remL t q.data.toList else []) w):=by
 have hwr:=fun W (hB : Below w.heap.size w W) => wrong_any t m p cap W (hL.kept hB) hF hn hcap (held hB hm)
 have hms:=fun W (hB : Below w.heap.size w W) => missing_any t q p cap W (hL.kept hB) hF hn hq
 have hfu:=fun W (hB : Below w.heap.size w W) => full_any t q p cap W (hL.kept hB) hF hn hq
 have hwo:=fun (h : remErr t q.data.toList = 0) W (hB : Below w.heap.size w W) => without_any t q p cap W (hL.kept hB) hnil (remErr_zero h).1.len
 have HRE : Aside (∀ r : Int,(Sorted t → r = missL t q.data.toList) → orL [(faultL false t).1,r,fullL t q.data.toList] = remErr t q.data.toList):=remErr_of t q.data.toList
 have hB : Below w.heap.size w w:=Below.refl _ _
 clear hL hF hcap hnil hm
 generalize t.length = n at *
 generalize (faultL false t).1 = f at hwr HRE
 generalize ((faultL false t).2 : Int) = fa at hwr
 generalize fullL t q.data.toList = u at hfu HRE
 obtain ⟨l,hl⟩ : ∃ l,l = if remErr t q.data.toList = 0 then remL t q.data.toList else []:=⟨_,rfl⟩
 rw [← hl]
 have HL : Aside (l = if remErr t q.data.toList = 0 then remL t q.data.toList else []):=hl
 clear hl
 generalize remErr t q.data.toList = er at HRE hwo HL ⊢
 have hfld:=field40
 go_enter Tryz.func178,Tryz.ntmps178
 go_wp2_with (first
  | (go_at_call 24;refine (hwr _ hB).mono ?_;clear hwr;rintro e w1 ⟨rfl,hN⟩;replace hB:=Below.onto hB hN;clear hN)
  | (go_at_call 217;refine (hms _ hB).mono ?_;clear hms;rintro e w2 ⟨r,rfl,hr,hN⟩;have HE : Aside (orL [f,r,u] = er):=HRE.out r hr;clear hr HRE;replace hB:=Below.onto hB hN;clear hN)
  | (go_at_call 218;refine (hfu _ hB).mono ?_;clear hfu;rintro e w3 ⟨rfl,hN⟩;replace hB:=Below.onto hB hN;clear hN)
  | (go_at_call 157;refine (or3_any _ _ _ _).mono ?_;rintro e w4 ⟨rfl,hw⟩;subst hw;replace hB:=hB.alloc hB.size (.cells #[.int .i64 f,.int .i64 r,.int .i64 u] 31);rw [HE.out];by_cases her : er = 0)
  | (go_at_call 219;refine (hwo her _ hB).mono ?_;clear hwo;rintro e w5 ⟨g,c,rfl,hg,hO,hN⟩;replace hB:=Below.onto hB hN;clear hN))
 ·go_ret2
  have hl:=HL.out
  rw [if_pos her] at hl
  subst hl her
  exact ⟨some ⟨g,0,none⟩,c,rfl,hO.lies,hO.len,nofun,hB⟩
 ·go_ret2
  have hl:=HL.out
  rw [if_neg her] at hl
  subst hl
  exact TreePost.none hB
def Rows (w : World) (base : Nat) (v : Value) (l : List Ent) : Prop:=w.ownsRow base 53 4 v l.length (l.flatMap encE)
theorem Rows.nil (w : World) (base : Nat) : Rows w base (.slice none 0 0) []:=World.ownsRow_nil _ _ _ _
theorem Rows.mono {w : World} {base base' : Nat} {v : Value} {l : List Ent} (h : Rows w base v l) (hb : base' ≤ base) : Rows w base' v l:=by
 refine ⟨h.1,h.2.imp id ?_⟩
 rintro ⟨g,cap,cur,e,hg,r⟩
 exact ⟨g,cap,cur,e,Nat.le_trans hb hg,r⟩
theorem Rows.below {w w' : World} {base : Nat} {v : Value} {l : List Ent} (h : Rows w base v l) (hb : Below w.heap.size w w') : Rows w' base v l:=by
 refine ⟨h.1,h.2.imp id ?_⟩
 rintro ⟨g,cap,cur,e,hg,hh,r⟩
 have hlt : g < w.heap.size:=by
  rcases Nat.lt_or_ge g w.heap.size with h' | h'
  ·exact h'
  ·rw [Array.getElem?_eq_none h'] at hh;cases hh
 exact ⟨g,cap,cur,e,hg,by rw [hb.block g hlt];exact hh,r⟩
theorem Rows.form {w : World} {base : Nat} {v : Value} {l : List Ent} (h : Rows w base v l) : ∃ p c,v = .slice p l.length c ∧ Lies w p l ∧ l.length ≤ c ∧ (p = none → c = 0):=by
 by_cases hv : v = .slice none 0 0
 ·have hl : l = []:=by
   obtain ⟨h1,⟨_,h2⟩ | ⟨g,cap,cur,hv',_⟩⟩:=h
   ·exact List.eq_nil_of_length_eq_zero h2
   ·rw [hv'] at hv;cases hv
  subst hl
  exact ⟨none,0,hv,Lies.nil _ _,Nat.le_refl _,fun _ => rfl⟩
 ·obtain ⟨g,c,e,_,ho⟩:=Own.of_row h hv rfl
  exact ⟨_,c,e,ho.lies,ho.len,fun h => by cases h⟩
theorem row_one_new (W : World) (y : Ent) (H : Nat) (hH : H = W.heap.size) : ∀ j u,(encE y)[j]? = some u → (W.alloc (.cells #[.string y.path,.int .i64 y.kind,.string y.text,.bool y.opq] 53)).cell? ((⟨H,0,none⟩ : Addr).add j) = some u:=by
 subst hH
 intro j u h
 have hj:=encE_lt h
 obtain rfl | rfl | rfl | rfl : j = 0 ∨ j = 1 ∨ j = 2 ∨ j = 3:=by omega
 all_goals (simp [encE] at h;subst h;rw [Addr.add_lit];simp)
def RowsPost (l : List Ent) (w : World) (e : Ending) (w' : World) : Prop:=(∃ v,e = .returned v ∧ Rows w' w.heap.size v l) ∧ Below w.heap.size w w'
theorem append_row {ops : Array Oper} {rest : List Oper} {o : Oper} {a : Act} {Q : Exit → Act → World → Prop} (X : World) (y : Ent) (hgd : o.guard = none) (s x : Operand)
  (ho : o.op = .call { callee:=.builtin .append,args:=#[s,x],argTypes:=#[23,23] }) (base : Nat) (v : Value) (l : List Ent) (hs : a.eval s = v) (hrow : Rows X base v l) (hlen : l.length ≤ 20000) (hbase : base ≤ X.heap.size)
  (H : Nat) (hH : H = X.heap.size) (hx : a.eval x = .slice (some ⟨H,0,none⟩) 1 1)
  (h : ∀ v' w',Rows w' base v' (l ++ [y]) → Below base X w' → (∀ ad : Addr,ad.block < X.heap.size → (∀ g,v.ownBlock = some g → ad.block ≠ g) → w'.cell? ad = X.cell? ad) → X.heap.size ≤ w'.heap.size → wpList Tryz.prog ops Q rest (a.put o.dst v') w') :
  wpList Tryz.prog ops Q (o :: rest) a (X.alloc (.cells #[.string y.path, .int .i64 y.kind, .string y.text, .bool y.opq] 53)):=by
 obtain ⟨i0,hi,hz0,hz1,hz2⟩:=info38
 refine wpList_append_own _ hgd s x 23 ho base 53 i0 _ 4 48 Tryz.underlying23 hi hz0 hz1 hz2 rfl (by decide) _ _ _ hs (World.ownsRow.alloc hrow _) _ 1 1 (encE y) hx rfl (row_one_new _ _ _ hH) (fun u hu => flat_one (t:=[y]) (by simpa using hu)) (by unfold maxLen;omega) (by omega) (by simp;omega) ?_
 intro v' w' hown hgrow _
 have hsz : X.heap.size ≤ w'.heap.size:=by have:=hgrow.size;simp at this;omega
 refine h v' w' (by simpa [Rows] using hown) (((Below.refl base X).alloc hbase _).grown hgrow (by simp;omega) (fun j hj => (World.ownsRow.lt hrow j hj).1)) (fun ad had hne => ?_) hsz
 have h1 : w'.cell? ad = (X.alloc (.cells #[.string y.path, .int .i64 y.kind, .string y.text, .bool y.opq] 53)).cell? ad:=World.cell?_of_block (hgrow.block _ (by simp;omega) (fun e => hne _ e.symm rfl))
 rw [h1]
 exact ((Grown.refl X).alloc _).cell had
end Go.Proofs.YthfeoiffoeagkaaGreatDoor
