/-
  slices.Insert of one entry into a row of the call's own.
-/
import Derived.Test.YthfeoiffoeagkaaGreatDoorVA4
import Derived.Shelf.Spec.SlicesInsertGrow
namespace Go.Proofs.YthfeoiffoeagkaaGreatDoor
open Go.RowKit PM Go.Sort
set_option linter.unusedVariables false
theorem own_alloc (w : World) (cs : Array Value) (cap : Nat) (l : List Ent) (hs : cs.size = cap * 4) (hl : l.length ≤ cap) (hm : cap ≤ maxLen) (hc : ∀ (k : Nat) (v : Value),(l.flatMap encE)[k]? = some v → cs[k]? = some v) : Own (w.alloc (.cells cs 53)) w.heap.size cap l :=
 ⟨cs,(by show (w.heap.push _)[w.heap.size]? = _;simp),hs,hl,hm,fun j e he i v hv => hc _ v (flat_at he hv)⟩
theorem zero_size (n : Nat) : (Builtin.zeroCells #[.string ⟨#[]⟩,.int .i64 0,.string ⟨#[]⟩,.bool false] n).size = n * 4:=by simp [Builtin.zeroCells]
theorem append_left {cs : List Value} {r : Array Value} {k : Nat} {v : Value} (h : cs[k]? = some v) : (cs.toArray ++ r)[k]? = some v:=by
 have hk:=(List.getElem?_eq_some_iff.1 h).1
 rw [Array.getElem?_append_left (by simpa using hk)];simpa using h
theorem run_copy4 (W : World) (dT sT ty : TypeId) (hu : Tryz.prog.underlying dT = some (.slice 53)) (g o dLen dCap : Nat) (a : Addr) (sLen sCap : Nat) (ns : List Ent) (hn : ns.length = Nat.min sLen dLen)
  (hsrc : ∀ j v,(ns.flatMap encE)[j]? = some v → W.cell? (a.add j) = some v) (hc : ∀ j,j < ns.length * 4 → (W.cell? ⟨g,o + j,none⟩).isSome = true) (hf : ∀ j,j < ns.length * 4 → W.frozen? ⟨g,o + j,none⟩ = false) :
  (Builtin.copy_ #[dT,sT] ty #[.slice (some ⟨g,o,none⟩) dLen dCap,.slice (some a) sLen sCap]).run Tryz.prog W = .ok (goInt ns.length) (W.setCells g o (ns.flatMap encE)):=by
 obtain ⟨i0,hi,hz0,hz1,hz2⟩:=info38
 have hl:=run_loadCells_list (P:=Tryz.prog) W a (ns.flatMap encE) hsrc
 have hst:=run_storeCells_cells (P:=Tryz.prog) g o (ns.flatMap encE) 0 W (fun j hj => by rw [flat_len] at hj;exact hc j hj) (fun j hj => by rw [flat_len] at hj;exact hf j hj) (fun v hv => flat_one hv)
 rw [flat_len] at hl
 simp [Builtin.copy_,run_underlying hu,Builtin.lenOf,Builtin.firstCells,sizeOf,typeInfo,hi,hz1,← hn,hl,hst]
theorem run_append35 (l : List Ent) (e : Ent) (g cap : Nat) (w : World) (hO : Own w g cap l) (vb : Nat) (hv : ∀ j u,(encE e)[j]? = some u → w.cell? ⟨vb,j,none⟩ = some u) (hn : l.length ≤ 10000) :
  ∃ g' c' w',(∀ ty,(Builtin.append_ #[23,22] ty #[.slice (some ⟨g,0,none⟩) l.length cap,.slice (some ⟨vb,0,none⟩) 1 1]).run Tryz.prog w = .ok (.slice (some ⟨g',0,none⟩) (l.length + 1) c') w') ∧ Own w' g' c' (l ++ [e]) ∧ (g' = g ∨ w.heap.size ≤ g') ∧ w.grownBy w' (some g):=by
 obtain ⟨i0,hi,hz0,hz1,hz2⟩:=info38
 have hsrc : Src Tryz.prog i0.size 22 (.slice (some ⟨vb,0,none⟩) 1 1) 1 (encE e) w:=by
  rw [hz1]
  exact Src.ofSlice w Tryz.underlying22 ⟨vb,0,none⟩ 1 1 (encE e) rfl (fun j u hj => by rw [Addr.add_lit,Nat.zero_add];exact hv j u hj) (fun u hu => flat_one (t:=[e]) (by simpa using hu))
 by_cases hroom : l.length + 1 ≤ cap
 ·refine ⟨g,cap,w.setCells g (l.length * 4) (encE e),fun ty => ?_,?_,.inl rfl,gby_setCells _ _ _ (gby_refl _ _)⟩
  ·have:=run_append_room_src (P:=Tryz.prog) w 23 22 ty 53 i0 Tryz.underlying23 hi g 0 l.length cap _ 1 (encE e) hsrc hroom
    (fun j hj => by rw [hz1,Nat.zero_add];rw [encE_len] at hj;exact hO.there (by omega)) (fun j _ => hO.frozen _)
   rw [hz1,Nat.zero_add] at this
   exact this
  ·have:=hO.over (ns:=[e]) (j:=l.length) (Nat.le_refl _) (by simpa using hroom)
   rw [List.take_length,List.drop_of_length_le (by simp),List.append_nil] at this
   simpa using this
 ·have hold : (Builtin.firstCells i0.size l.length (.slice (some ⟨g,0,none⟩) l.length cap)).run Tryz.prog w.drew = .ok (l.flatMap encE).toArray w.drew:=by
   rw [hz1]
   exact run_firstCells_some w.drew 4 l.length ⟨g,0,none⟩ l.length cap (l.flatMap encE) (flat_len l) (hO.lies.flat (W:=w.drew) ((Below.refl _ _).drew))
  have hr:=fun ty => run_append_grow_src (P:=Tryz.prog) w 23 22 ty 53 i0 _ Tryz.underlying23 hi hz0 (some ⟨g,0,none⟩) l.length cap (l.flatMap encE) hold _ 1 (encE e) hsrc (by omega) (by omega) (by rw [hz2];exact growslice_fits (by omega) (by omega))
  refine ⟨_,_,_,hr,?_,.inr (Nat.le_refl _),gby_below (gby_refl w _) (((Below.refl w.heap.size w).drew).alloc (Nat.le_refl _) _)⟩
  have hge:=grownCap_ge w (l.length + 1) cap 53
  refine own_alloc w.drew _ _ _ ?_ (by simpa using hge) (grownCap_le_maxLen w _ _ _ (by unfold maxLen;omega)) (fun k v hk => append_left (by simpa using hk))
  rw [Array.size_append]
  simp only [Value.cells,zero_size,List.size_toArray,List.length_append,flat_len,encE_len]
  omega
theorem ins_list (l : List Ent) (e : Ent) (i : Nat) (hi : i < l.length) : (l.take (i + 1) ++ l.drop i).take i ++ [e] ++ (l.take (i + 1) ++ l.drop i).drop (i + 1) = l.take i ++ e :: l.drop i:=by
 rw [List.take_append_of_le_length (by rw [List.length_take];omega),List.take_take,Nat.min_eq_left (by omega),List.drop_append,List.length_take,Nat.min_eq_left (by omega),Nat.sub_self,List.drop_of_length_le (by rw [List.length_take];omega)]
 simp
theorem own_shift {w : World} {g cap : Nat} {l : List Ent} (h : Own w g cap l) (e : Ent) {i : Nat} (hi : i < l.length) (hr : l.length + 1 ≤ cap) :
  Own ((w.setCells g ((i + 1) * 4) ((l.drop i).flatMap encE)).setCells g (i * 4) (encE e)) g cap (l.take i ++ e :: l.drop i):=by
 have h1:=h.over (ns:=l.drop i) (j:=i + 1) (by omega) (by rw [List.length_drop];omega)
 have hz : l.drop (i + 1 + (l.drop i).length) = []:=List.drop_of_length_le (by rw [List.length_drop];omega)
 rw [hz,List.append_nil] at h1
 have h2:=h1.over (ns:=[e]) (j:=i) (by simp;omega) (by simp;omega)
 rw [List.length_singleton,ins_list l e i hi] at h2
 simpa using h2
def InsPost (l : List Ent) (g : Nat) (w : World) (r : Ending) (w' : World) : Prop :=
 ∃ g' c',r = .returned (.slice (some ⟨g',0,none⟩) l.length c') ∧ Own w' g' c' l ∧ (g' = g ∨ w.heap.size ≤ g') ∧ w.grownBy w' (some g)
set_option maxHeartbeats 4000000 in
set_option maxRecDepth 100000 in
theorem insert_end (l : List Ent) (e : Ent) (g cap : Nat) (w : World) (hO : Own w g cap l) (vb : Nat) (hv : ∀ j u,(encE e)[j]? = some u → w.cell? ⟨vb,j,none⟩ = some u) (hn : l.length ≤ 10000) :
  Calls Tryz.prog 214 #[.slice (some ⟨g,0,none⟩) l.length cap,.int .i64 l.length,.slice (some ⟨vb,0,none⟩) 1 1] w (InsPost (l ++ [e]) g w):=by
 obtain ⟨g',c',w',hr,hO',hg',hgb⟩:=run_append35 l e g cap w hO vb hv hn
 have hcap:=hO.len
 have hc63:=hO.max
 unfold maxLen at hc63
 have HN : Aside (l.length + 1 = (l ++ [e]).length):=by show _ = _;simp
 clear hO hv
 generalize l.length = n at *
 go_enter Tryz.func214,Tryz.ntmps214
 go_wp2_with (at_builtin;refine Lib.wpList_append_run _ rfl _ _ _ _ rfl _ _ rfl rfl _ _ (hr _) ?_)
 all_goals go_ret
 all_goals exact ⟨g',c',by rw [← HN.out];rfl,hO',hg',hgb⟩
theorem shape_of {w : World} {b : Nat} {cs : Array Value} {t : TypeId} {f : Nat × Nat} (h : w.heap[b]? = some (.cells cs t f)) : w.shape? b = some (t,cs.size):=by simp [World.shape?,h]
theorem own_shape {w : World} {g cap : Nat} {l : List Ent} (h : Own w g cap l) : w.shape? g = some (53,cap * 4):=by
 obtain ⟨cur,hc,hs,_⟩:=h
 rw [shape_of hc,hs]
set_option maxHeartbeats 4000000 in
set_option maxRecDepth 100000 in
theorem insert_shift (l : List Ent) (e : Ent) (i g cap : Nat) (w : World) (hO : Own w g cap l) (vb : Nat) (hb : w.heap[vb]? = some (.cells (encE e).toArray 53 (0,0))) (hvb : vb ≠ g) (hi : i < l.length) (hroom : l.length + 1 ≤ cap) (hn : l.length ≤ 10000) :
  Calls Tryz.prog 214 #[.slice (some ⟨g,0,none⟩) l.length cap,.int .i64 i,.slice (some ⟨vb,0,none⟩) 1 1] w (InsPost (l.take i ++ e :: l.drop i) g w):=by
 have hc63:=hO.max
 unfold maxLen at hc63
 have hov : ∀ lb cb,(callFunc 252 #[.slice (some ⟨vb,0,none⟩) 1 1,.slice (some ⟨g,(i + 1) * 4,none⟩) lb cb]).run Tryz.prog w = .ok (.value (.bool false)) w:=fun lb cb => by
  rw [run_callFunc_extern Tryz.func252 (by kernel_rfl) (by kernel_rfl) (by kernel_rfl) (e:=Extern.SlicesOverlaps.overlaps #[22,22] #[4]) (by kernel_rfl),
   Lib.run_overlaps_apart w 22 4 53 Tryz.underlying22 4 Tryz.sizeOf53 ⟨vb,0,none⟩ ⟨g,(i + 1) * 4,none⟩ 1 1 lb cb hvb 53 53 4 (cap * 4) (shape_of hb) (own_shape hO) (by omega) (by simp [World.frozen?,hb]) (by simp [World.frozen?,hb])]
  rfl
 have hcp1 : ∀ ty dc sc,(Builtin.copy_ #[23,23] ty #[.slice (some ⟨g,(i + 1) * 4,none⟩) (l.length + 1 - (i + 1)) dc,.slice (some ⟨g,i * 4,none⟩) (l.length + 1 - i) sc]).run Tryz.prog w.drew = .ok (goInt (l.drop i).length) (w.drew.setCells g ((i + 1) * 4) ((l.drop i).flatMap encE)):=fun ty dc sc =>
  run_copy4 w.drew _ _ ty Tryz.underlying23 g ((i + 1) * 4) _ dc ⟨g,i * 4,none⟩ _ sc (l.drop i) (by rw [List.length_drop];simp only [Nat.min_def];split <;> omega)
   (fun j v hj => by
     obtain ⟨a,x,b,h1,h2,rfl⟩:=flat_get hj
     rw [List.getElem?_drop] at h1
     rw [Addr.add_lit,show i * 4 + (a * 4 + b) = (i + a) * 4 + b by omega]
     exact hO.cell h1 h2)
   (fun j hj => by rw [List.length_drop] at hj;exact hO.there (by omega)) (fun j _ => hO.frozen _)
 have hO1 : Own (w.drew.setCells g ((i + 1) * 4) ((l.drop i).flatMap encE)) g cap (l.take (i + 1)):=((hO.kept (w':=w.drew) rfl).take (i + 1)).beyond (by rw [List.length_take];omega)
 have hcell1 : ∀ j u,(encE e)[j]? = some u → (w.drew.setCells g ((i + 1) * 4) ((l.drop i).flatMap encE)).cell? ⟨vb,j,none⟩ = some u:=fun j u hu => by
  rw [World.cell?_setCells_out g _ _ _ ⟨vb,j,none⟩ (fun h _ => absurd h hvb)]
  simp only [World.cell?,World.drew,hb]
  simpa using hu
 obtain ⟨W1,hW1⟩ : ∃ W1,W1 = w.drew.setCells g ((i + 1) * 4) ((l.drop i).flatMap encE):=⟨_,rfl⟩
 have HO : Aside (Own (W1.setCells g (i * 4) (encE e)) g cap (l.take i ++ e :: l.drop i)):=by rw [hW1];exact own_shift (hO.kept (w':=w.drew) rfl) e hi hroom
 have HG : Aside (w.grownBy (W1.setCells g (i * 4) (encE e)) (some g)):=by rw [hW1];exact gby_setCells _ _ _ (gby_setCells _ _ _ (gby_below (gby_refl w _) (Below.refl _ _).drew))
 rw [← hW1] at hcp1 hO1 hcell1
 have hcp2 : ∀ (W : World),(∀ x,W.cell? x = W1.cell? x) → (∀ x,W.frozen? x = W1.frozen? x) → ∀ ty dc,(Builtin.copy_ #[23,22] ty #[.slice (some ⟨g,i * 4,none⟩) (l.length + 1 - i) dc,.slice (some ⟨vb,0,none⟩) 1 1]).run Tryz.prog W = .ok (goInt 1) (W.setCells g (i * 4) (encE e)):=fun W hWc hWf ty dc => by
  have:=run_copy4 W 23 22 ty Tryz.underlying23 g (i * 4) (l.length + 1 - i) dc ⟨vb,0,none⟩ 1 1 [e] (by simp only [Nat.min_def,List.length_singleton];split <;> omega)
   (fun j v hj => by rw [Addr.add_lit,Nat.zero_add,hWc];exact hcell1 j v (by simpa using hj))
   (fun j hj => by rw [hWc];simp at hj;exact hO1.there (by omega)) (fun j _ => by rw [hWf];exact hO1.frozen _)
  simpa using this
 have HN : Aside (l.length + 1 = (l.take i ++ e :: l.drop i).length):=by show _ = _;simp;omega
 have hdl : (l.drop i).length = l.length - i:=List.length_drop ..
 rw [hdl] at hcp1
 generalize l.length = n at *
 have mixed : Tryz.prog.follows .mixedOrders = true:=by kernel_rfl
 have hz2 : ¬ ((i : Int) = (n : Int)):=by omega
 have hw1 : IntKind.i64.wrap ((i : Int) + 1) = (i : Int) + 1:=by rw [IntKind.wrap_i64];omega
 have hb1 : (0 : Int) ≤ (i : Int) + 1:=by omega
 have hin : i ≤ n:=by omega
 have htn : ((i : Int) + 1).toNat = i + 1:=by omega
 have hb2 : ¬ (cap = i + 1):=by omega
 have hb3 : (i : Int) ≤ (n : Int) + 1:=by omega
 have hb4 : ¬ (cap = i):=by omega
 clear hO hO1 hcell1 hdl hb hW1 
 go_enter Tryz.func214,Tryz.ntmps214
 go_wp2_with (simp only [hov])
 go_region_law_o (refine step_copy_runI rfl _ _ 23 23 rfl (.slice (some ⟨g,(i + 1) * 4,none⟩) (n + 1 - (i + 1)) (cap - (i + 1))) (.slice (some ⟨g,i * 4,none⟩) (n + 1 - i) (cap - i)) (by simp [Act.eval,Act.put]) (by simp [Act.eval,Act.put]) (hcp1 _ _ _) ?_)
 go_wp2_with (at_builtin;refine wpList_copy_runI _ rfl _ _ 23 22 rfl _ _ rfl rfl (hcp2 _ (fun _ => rfl) (fun _ => rfl) _ _) ?_)
 go_ret
 exact ⟨g,cap,by rw [← HN.out];rfl,HO.out,.inl rfl,HG.out⟩
set_option maxHeartbeats 4000000 in
set_option maxRecDepth 100000 in
theorem insert_grow (l : List Ent) (e : Ent) (i g cap : Nat) (w : World) (hO : Own w g cap l) (vb : Nat) (hv : ∀ j u,(encE e)[j]? = some u → w.cell? ⟨vb,j,none⟩ = some u) (hi : i < l.length) (hroom : ¬ l.length + 1 ≤ cap) (hn : l.length ≤ 10000) :
  Calls Tryz.prog 214 #[.slice (some ⟨g,0,none⟩) l.length cap,.int .i64 i,.slice (some ⟨vb,0,none⟩) 1 1] w (InsPost (l.take i ++ e :: l.drop i) g w):=by
 obtain ⟨i0,hi0,hz0,hz1,hz2⟩:=info38
 have hlen:=hO.len
 have hglt:=hO.lt
 have hvlt : vb < w.heap.size:=by
  have:=hv 0 _ rfl
  rcases Nat.lt_or_ge vb w.heap.size with h' | h'
  ·exact h'
  ·simp [World.cell?,Array.getElem?_eq_none h'] at this
 have hold : (Builtin.firstCells i0.size i (.slice (some ⟨g,0,none⟩) i cap)).run Tryz.prog w.drew = .ok ((l.take i).flatMap encE).toArray w.drew:=by
  rw [hz1]
  exact run_firstCells_some w.drew 4 i ⟨g,0,none⟩ i cap ((l.take i).flatMap encE) (by rw [flat_len,List.length_take];omega) ((hO.take i).lies.flat (W:=w.drew) ((Below.refl _ _).drew))
 have hrz0:=fun ty => Lib.run_append_grow_zeros (P:=Tryz.prog) w 23 3 ty 53 i0 _ .i64 .i64 Tryz.underlying23 Tryz.underlying3 hi0 hz0 (some ⟨g,0,none⟩) i cap ((l.take i).flatMap encE) hold (l.length + 1 - i) (by omega) (by omega) (by omega) (by omega) (by rw [hz2];omega) (by rw [hz2];exact growslice_fits (by omega) (by omega))
 rw [show i + (l.length + 1 - i) = l.length + 1 by omega,show ((l.length + 1 - i : Nat) : Int) = (l.length : Int) + 1 - (i : Int) by omega] at hrz0
 obtain ⟨G,hG⟩ : ∃ G,G = grownCap w (l.length + 1) cap 53:=⟨_,rfl⟩
 obtain ⟨ROW,hROW⟩ : ∃ ROW : Array Value,ROW = ((l.take i).flatMap encE).toArray ++ Builtin.zeroCells (Value.agg #[.string ⟨#[]⟩,.int .i64 0,.string ⟨#[]⟩,.bool false]).cells (l.length + 1 - i) ++ Builtin.zeroCells (Value.agg #[.string ⟨#[]⟩,.int .i64 0,.string ⟨#[]⟩,.bool false]).cells (G - (l.length + 1)):=⟨_,rfl⟩
 rw [← hG] at hrz0
 rw [← hROW] at hrz0
 have hGn : l.length + 1 ≤ G:=by rw [hG];exact grownCap_ge w _ _ _
 have hGm : G ≤ maxLen:=by rw [hG];exact grownCap_le_maxLen w _ _ _ (by unfold maxLen;omega)
 have hO1 : Own (w.drew.alloc (.cells ROW 53)) w.heap.size G (l.take i):=by
  refine own_alloc w.drew _ _ _ ?_ (by rw [List.length_take];omega) hGm (fun k v hk => by rw [hROW,Array.append_assoc];exact append_left hk)
  rw [hROW]
  simp only [Array.size_append,Value.cells,zero_size,List.size_toArray,flat_len,List.length_take]
  omega
 have hcellv : ∀ j u,(encE e)[j]? = some u → (w.drew.alloc (.cells ROW 53)).cell? ⟨vb,j,none⟩ = some u:=fun j u hu => by
  rw [((Below.refl w.heap.size w).drew.alloc (Nat.le_refl _) _).cell (p:=⟨vb,j,none⟩) hvlt];exact hv j u hu
 have hcellg : ∀ j u,((l.drop i).flatMap encE)[j]? = some u → (w.drew.alloc (.cells ROW 53)).cell? ⟨g,i * 4 + j,none⟩ = some u:=fun j u hu => by
  rw [((Below.refl w.heap.size w).drew.alloc (Nat.le_refl _) _).cell (p:=⟨g,i * 4 + j,none⟩) hglt]
  obtain ⟨a,x,b,h1,h2,rfl⟩:=flat_get hu
  rw [List.getElem?_drop] at h1
  rw [show i * 4 + (a * 4 + b) = (i + a) * 4 + b by omega]
  exact hO.cell h1 h2
 obtain ⟨W1,hW1⟩ : ∃ W1,W1 = w.drew.alloc (.cells ROW 53):=⟨_,rfl⟩
 have hW1' : W1 = (w.alloc (.cells ROW 53)).drew:=by rw [hW1];rfl
 have hgb1 : w.grownBy W1 (some g):=by rw [hW1];exact gby_below (gby_refl w _) ((Below.refl w.heap.size w).drew.alloc (Nat.le_refl _) _)
 rw [← hW1] at hrz0 hO1 hcellv hcellg
 have hli : (l.take i).length = i:=by rw [List.length_take];omega
 have hcpA : ∀ ty dc,(Builtin.copy_ #[23,22] ty #[.slice (some ⟨w.heap.size,i * 4,none⟩) (l.length + 1 - i) dc,.slice (some ⟨vb,0,none⟩) 1 1]).run Tryz.prog W1 = .ok (goInt 1) (W1.setCells w.heap.size (i * 4) (encE e)):=fun ty dc => by
  have:=run_copy4 W1 23 22 ty Tryz.underlying23 w.heap.size (i * 4) (l.length + 1 - i) dc ⟨vb,0,none⟩ 1 1 [e] (by simp only [Nat.min_def,List.length_singleton];split <;> omega)
   (fun j v hj => by rw [Addr.add_lit,Nat.zero_add];exact hcellv j v (by simpa using hj))
   (fun j hj => by simp at hj;exact hO1.there (by omega)) (fun j _ => hO1.frozen _)
  simpa using this
 have hO2 : Own (W1.setCells w.heap.size (i * 4) (encE e)) w.heap.size G (l.take i ++ [e]):=by
  have:=hO1.over (ns:=[e]) (j:=i) (by omega) (by simp;omega)
  rw [List.take_of_length_le (by omega),List.drop_of_length_le (by simp [hli]),List.append_nil] at this
  simpa using this
 obtain ⟨W2,hW2⟩ : ∃ W2,W2 = W1.setCells w.heap.size (i * 4) (encE e):=⟨_,rfl⟩
 have hcellg2 : ∀ j u,((l.drop i).flatMap encE)[j]? = some u → W2.cell? ⟨g,i * 4 + j,none⟩ = some u:=fun j u hu => by
  rw [hW2,World.cell?_setCells_out _ _ _ _ ⟨g,i * 4 + j,none⟩ (fun h _ => by simp at h;omega)]
  exact hcellg j u hu
 rw [← hW2] at hO2 hcpA
 have hcpB : ∀ ty dc sc,(Builtin.copy_ #[23,23] ty #[.slice (some ⟨w.heap.size,(i + 1) * 4,none⟩) (l.length + 1 - (i + 1)) dc,.slice (some ⟨g,i * 4,none⟩) (l.length - i) sc]).run Tryz.prog W2.drew = .ok (goInt ((l.length - i : Nat) : Int)) (W2.drew.setCells w.heap.size ((i + 1) * 4) ((l.drop i).flatMap encE)):=fun ty dc sc => by
  have:=run_copy4 W2.drew 23 23 ty Tryz.underlying23 w.heap.size ((i + 1) * 4) (l.length + 1 - (i + 1)) dc ⟨g,i * 4,none⟩ (l.length - i) sc (l.drop i) (by rw [List.length_drop];simp only [Nat.min_def];split <;> omega)
   (fun j v hj => by rw [Addr.add_lit];exact hcellg2 j v hj)
   (fun j hj => by rw [List.length_drop] at hj;exact hO2.there (by omega)) (fun j _ => hO2.frozen _)
  rw [List.length_drop] at this
  exact this
 have HO : Aside (Own (W2.drew.setCells w.heap.size ((i + 1) * 4) ((l.drop i).flatMap encE)) w.heap.size G (l.take i ++ e :: l.drop i)):=by
  have:=(hO2.kept (w':=W2.drew) rfl).over (ns:=l.drop i) (j:=i + 1) (by simp [hli]) (by rw [List.length_drop];omega)
  have hd : (l.take i ++ [e]).drop (i + 1 + (l.drop i).length) = []:=List.drop_of_length_le (by simp [hli])
  rw [List.take_of_length_le (by simp [hli]),hd] at this
  show Own _ _ _ _
  simpa using this
 have HG : Aside (w.grownBy (W2.drew.setCells w.heap.size ((i + 1) * 4) ((l.drop i).flatMap encE)) (some g)):=by
  have key : ∀ (vs : List Value) (o : Nat) (W : World),w.grownBy W (some g) → w.grownBy (W.setCells w.heap.size o vs) (some g):=by
   intro vs
   induction vs with
   | nil => intro o W h;exact h
   | cons v r ih =>
    intro o W h
    exact ih (o + 1) _ ⟨h.os,h.tape,h.output,by simp [World.setCell];exact h.size,fun k hk hnn => (Below.heap_setCell _ _ _ _ (by show k ≠ w.heap.size;omega)).trans (h.block k hk hnn)⟩
  refine key _ _ _ (gby_below (W:=W2) ?_ (Below.refl _ _).drew)
  rw [hW2];exact key _ _ _ hgb1
 have HN : Aside (l.length + 1 = (l.take i ++ e :: l.drop i).length):=by show _ = _;simp;omega
 generalize l.length = n at *
 have mixed : Tryz.prog.follows .mixedOrders = true:=by kernel_rfl
 have hz2' : ((i : Int) == (n : Int)) = false:=beq_eq_false_iff_ne.2 (by omega)
 have hz3 : (cap : Int) < (n : Int) + 1:=by omega
 have hw1 : IntKind.i64.wrap ((i : Int) + 1) = (i : Int) + 1:=by rw [IntKind.wrap_i64];omega
 have hb1 : (0 : Int) ≤ (i : Int) + 1:=by omega
 have hin : i ≤ n:=by omega
 have htn : ((i : Int) + 1).toNat = i + 1:=by omega
 have hb3 : (i : Int) ≤ (n : Int):=by omega
 have hGi : ¬ (G = i):=by omega
 have hGim : ¬ (G = i + 1):=by omega
 have hci : ¬ (cap = i):=by omega
 unfold maxLen at hGm
 have HD : Aside (W1 = w.drew.alloc (.cells ROW 53)):=hW1
 clear hO hO1 hO2 hcellv hcellg hcellg2 hold hROW hG hli hgb1 hW1 hW1' hW2 hv hi0 hz0 hz1 hz2
 go_enter Tryz.func214,Tryz.ntmps214
 go_wp2_with (first
  | (at_builtin;refine Lib.wpList_append_run _ rfl _ _ 23 3 rfl _ _ rfl rfl _ _ (hrz0 _) ?_)
  | (at_builtin;refine wpList_copy_runI _ rfl _ _ 23 22 rfl _ _ rfl rfl (hcpA _ _) ?_))
 go_region_law_o (refine step_copy_runI rfl _ _ 23 23 rfl (.slice (some ⟨w.heap.size,(i + 1) * 4,none⟩) (n + 1 - (i + 1)) (G - (i + 1))) (.slice (some ⟨g,i * 4,none⟩) (n - i) (cap - i)) (by simp [Act.eval,Act.put]) (by simp [Act.eval,Act.put]) (hcpB _ _ _) ?_)
 go_wp2
 go_ret
 exact ⟨w.heap.size,G,by rw [← HN.out];rfl,HO.out,.inr (Nat.le_refl _),HG.out⟩
theorem insert_any (l : List Ent) (e : Ent) (i g cap : Nat) (w : World) (hO : Own w g cap l) (vb : Nat) (hb : w.heap[vb]? = some (.cells (encE e).toArray 53 (0,0))) (hvb : vb ≠ g) (hi : i ≤ l.length) (hn : l.length ≤ 10000) :
  Calls Tryz.prog 214 #[.slice (some ⟨g,0,none⟩) l.length cap,.int .i64 i,.slice (some ⟨vb,0,none⟩) 1 1] w (InsPost (l.take i ++ e :: l.drop i) g w):=by
 have hv : ∀ j u,(encE e)[j]? = some u → w.cell? ⟨vb,j,none⟩ = some u:=fun j u hu => by
  simp only [World.cell?,hb]
  simpa using hu
 by_cases h1 : i < l.length
 ·by_cases h2 : l.length + 1 ≤ cap
  ·exact insert_shift l e i g cap w hO vb hb hvb h1 h2 hn
  ·exact insert_grow l e i g cap w hO vb hv h1 h2 hn
 ·obtain rfl : i = l.length:=by omega
  rw [List.take_length,List.drop_length]
  exact insert_end l e g cap w hO vb hv hn
def putAsk (t : List Ent) (e : Ent) : Int:=orL [(faultL false t).1,wrongE e false,noDirL t (dirOf e.p)]
open Classical in
noncomputable def putErr (t : List Ent) (e : Ent) : Int :=
 if putAsk t e = 0 then (if ∃ x ∈ t,x.p = e.p ∧ ¬ ((x.kind == 2) = (e.kind == 2)) then 7 else if (∀ x ∈ t,x.p ≠ e.p) ∧ t.length = 80 then 5 else 0) else putAsk t e
theorem putAsk_of (t : List Ent) (e : Ent) (r : Int) (hr : Sorted t → r = noDirL t (dirOf e.p)) : orL [(faultL false t).1,wrongE e false,r] = putAsk t e:=by
 unfold putAsk
 by_cases h : (faultL false t).1 = 0
 ·rw [hr (faultL_zero.1 h).sorted]
 ·simp [orL,h]
theorem putAsk_zero {t : List Ent} {e : Ent} (h : putAsk t e = 0) : Right false t ∧ wrongE e false = 0 ∧ noDirL t (dirOf e.p) = 0:=by
 unfold putAsk at h
 obtain ⟨h1,h⟩:=orL_zero.1 h
 obtain ⟨h2,h⟩:=orL_zero.1 h
 obtain ⟨h3,_⟩:=orL_zero.1 h
 exact ⟨faultL_zero.1 h1,h2,h3⟩
theorem putErr_asked {t : List Ent} {e : Ent} (h : ¬ putAsk t e = 0) : putErr t e = putAsk t e:=by rw [putErr,if_neg h]
theorem putErr_there {t : List Ent} {e y : Ent} (h : putAsk t e = 0) (hy : y ∈ t) (hp : y.p = e.p) : putErr t e = if (y.kind == 2) = (e.kind == 2) then 0 else 7:=by
 have hs:=(putAsk_zero h).1.sorted
 rw [putErr,if_pos h]
 by_cases hk : (y.kind == 2) = (e.kind == 2)
 ·rw [if_pos hk,if_neg,if_neg]
  ·rintro ⟨g,_⟩;exact g y hy hp
  ·rintro ⟨x,hx,hxp,hxk⟩
   rw [sorted_inj hs hx hy (hxp.trans hp.symm)] at hxk
   exact hxk hk
 ·rw [if_neg hk,if_pos ⟨y,hy,hp,hk⟩]
theorem putErr_not {t : List Ent} {e : Ent} (h : putAsk t e = 0) (hn : ∀ x ∈ t,x.p ≠ e.p) : putErr t e = if t.length = 80 then 5 else 0:=by
 rw [putErr,if_pos h,if_neg]
 ·by_cases h80 : t.length = 80
  ·rw [if_pos ⟨hn,h80⟩,if_pos h80]
  ·rw [if_neg (fun g => h80 g.2),if_neg h80]
 ·rintro ⟨x,hx,hxp,_⟩;exact hn x hx hxp
theorem put_set_end {t l : List Ent} {e y : Ent} {i n g c : Nat} {er : Int} {w W : World} (hp : PlaceAt t e.p i) (hs : Sorted t) (hy : t[i]? = some y ∧ y.p = e.path.data.toList) (hn : n = t.length) (h0 : er = 0) (hr : er = putErr t e) (hl : l = if putErr t e = 0 then putL t e else [])
  (hO : Own W g c t) (hB : Below w.heap.size w W) (hg : w.heap.size ≤ g) :
  TreePost er l w (.returned (.tuple #[.slice (some ⟨g,0,none⟩) n c,.int .i64 0])) ((((W.setCell ⟨g,i * 4,none⟩ (.string e.path)).setCell ⟨g,i * 4 + 1,none⟩ (.int .i64 e.kind)).setCell ⟨g,i * 4 + 2,none⟩ (.string e.text)).setCell ⟨g,i * 4 + 3,none⟩ (.bool e.opq)):=by
 obtain ⟨h1,h2⟩:=List.getElem?_eq_some_iff.1 hy.1
 have hat : isAt t e.p i = true:=isAt_iff.2 ⟨h1,by rw [h2];exact hy.2⟩
 rw [← hr,h0,if_pos rfl,← hp.set hs hat] at hl
 subst hl h0 hn
 have hO':=hO.set h1 e
 exact ⟨some ⟨g,0,none⟩,c,by simp,hO'.lies,hO'.len,nofun,(((hB.setCell hg _).setCell hg _).setCell hg _).setCell hg _⟩
theorem put_ins_end {t l : List Ent} {e : Ent} {i g g' c' : Nat} {er : Int} {w W W' : World} (hp : PlaceAt t e.p i) (hs : Sorted t) (hat : isAt t e.path.data.toList i = false) (h0 : er = 0) (hr : er = putErr t e) (hl : l = if putErr t e = 0 then putL t e else [])
  (hO : Own W' g' c' (t.take i ++ e :: t.drop i)) (hB : Below w.heap.size w W) (hgb : W.grownBy W' (some g)) (hg : w.heap.size ≤ g) (hg' : w.heap.size ≤ g') :
  TreePost er l w (.returned (.tuple #[.slice (some ⟨g',0,none⟩) (t.take i ++ e :: t.drop i).length c',.int .i64 0])) W':=by
 rw [← hr,h0,if_pos rfl,← hp.insert hs hat] at hl
 subst hl h0
 exact ⟨some ⟨g',0,none⟩,c',rfl,hO.lies,hO.len,nofun,hB.grown hgb hB.size (fun k hk => by simp at hk;omega)⟩
theorem found_any {w W : World} {p : Option Addr} {t : List Ent} {n : Nat} (hn : n = t.length) (hL : Lies w p t) (hW : Below w.heap.size w W) (q : List UInt8) (i : Nat) :
  (isAt t q i = true ∧ ∃ y b off,p = some ⟨b,off,none⟩ ∧ Aside (t[i]? = some y ∧ y.p = q) ∧ i < n ∧ W.cell? ⟨b,off + i * 4,none⟩ = some (.string y.path) ∧ W.cell? ⟨b,off + i * 4 + 1,none⟩ = some (.int .i64 y.kind) ∧ W.cell? ⟨b,off + i * 4 + 2,none⟩ = some (.string y.text) ∧ W.cell? ⟨b,off + i * 4 + 3,none⟩ = some (.bool y.opq)) ∨ isAt t q i = false:=by
 rcases hL with rfl | ⟨b,off,rfl,hb,hc⟩
 ·exact .inr rfl
 ·rcases found_cases hn hc hb hW q i with ⟨h,y,h1,h2⟩ | h
  ·exact .inl ⟨h,y,b,off,rfl,h1,h2⟩
  ·exact .inr h
set_option maxHeartbeats 4000000 in
set_option maxRecDepth 100000 in
theorem put_any (t : List Ent) (e : Ent) (m : Int) (p : Option Addr) (cap : Nat) (w : World) (hL : Lies w p t) (hF : Fits t) (hn : t.length < 4611686018427387904) (hcap : t.length ≤ cap) (hnil : p = none → cap = 0)
  (he : e.path.size ≤ maxLen) (he62 : e.path.size < 4611686018427387904) (het : e.text.size ≤ maxLen) (hm : w.cell? ⟨0,0,none⟩ = some (.int .i64 m)) :
  Calls Tryz.prog 173 #[.slice p t.length cap,.agg #[.string e.path, .int .i64 e.kind, .string e.text, .bool e.opq]] w (TreePost (putErr t e) (if putErr t e = 0 then putL t e else []) w):=by
 have hwr:=fun W (hB : Below w.heap.size w W) => wrong_any t m p cap W (hL.kept hB) hF hn hcap (held hB hm)
 have hwe:=fun W (hB : Below w.heap.size w W) => wrongEntry_any e false m W he het (held hB hm)
 have hnd:=fun W (hB : Below w.heap.size w W) => noDirFor_any t e.path p cap W (hL.kept hB) hF hn he he62
 have hfi:=fun W (hB : Below w.heap.size w W) => find_any t e.path p cap W (hL.kept hB) hF hn he
 have HA : Aside (∀ r : Int,(Sorted t → r = noDirL t (dirOf e.p)) → orL [(faultL false t).1,wrongE e false,r] = putAsk t e):=putAsk_of t e
 have hB1 : Below (w.heap.size + 1) (w.alloc (.cells #[.string e.path, .int .i64 e.kind, .string e.text, .bool e.opq] 53)) (w.alloc (.cells #[.string e.path, .int .i64 e.kind, .string e.text, .bool e.opq] 53)):=Below.refl _ _
 obtain ⟨l,hl⟩ : ∃ l,l = if putErr t e = 0 then putL t e else []:=⟨_,rfl⟩
 rw [← hl]
 have HL : Aside (l = if putErr t e = 0 then putL t e else []):=hl
 have LI : Aside (Lies w p t):=hL
 clear hl hL hF hcap hm
 obtain ⟨n,hnl⟩ : ∃ n,n = t.length:=⟨_,rfl⟩
 have HN : Aside (n = t.length):=hnl
 rw [← hnl] at hn hwr hnd hfi ⊢
 clear hnl
 obtain ⟨er,her⟩ : ∃ er,er = putErr t e:=⟨_,rfl⟩
 have HR : Aside (er = putErr t e):=her
 rw [← her]
 clear her
 obtain ⟨ask,hask⟩ : ∃ ask,ask = putAsk t e:=⟨_,rfl⟩
 rw [← hask] at HA
 have HK : Aside (ask = putAsk t e):=hask
 clear hask
 generalize (faultL false t).1 = f at hwr HA
 generalize ((faultL false t).2 : Int) = fa at hwr
 generalize wrongE e false = we at hwe HA
 have hfld:=field40
 go_enter Tryz.func173,Tryz.ntmps173
 go_wp2
 go_region_held3 (fun w' => w'.cell? ⟨w.heap.size,0,none⟩ = some (.string e.path) ∧ w'.cell? ⟨w.heap.size,1,none⟩ = some (.int .i64 e.kind) ∧ w'.cell? ⟨w.heap.size,2,none⟩ = some (.string e.text) ∧ w'.cell? ⟨w.heap.size,3,none⟩ = some (.bool e.opq)) (go_keep) (first
  | (go_at_call 24;refine (hwr _ (base1 hB1.drew)).mono ?_;clear hwr;rintro rr w1 ⟨rfl,hN⟩;replace hB1:=up1 hB1.drew hN;clear hN;obtain ⟨⟨c0,c1,c2,c3⟩,_⟩:=new4 (Nat.lt_succ_self _) hB1)
  | (go_at_call 78;refine (hwe _ (base1 hB1)).mono ?_;clear hwe;rintro rr w2 ⟨rfl,hN⟩;replace hB1:=up1 hB1 hN;clear hN;obtain ⟨⟨d0,d1,d2,d3⟩,_⟩:=new4 (Nat.lt_succ_self _) hB1)
  | (go_at_call 114;refine (hnd _ (base1 hB1)).mono ?_;clear hnd;rintro rr w3 ⟨r,rfl,hr,hN⟩;have HE : Aside (orL [f,we,r] = ask):=HA.out r hr;clear hr HA;replace hB1:=up1 hB1 hN;clear hN;obtain ⟨⟨e0,e1,e2,e3⟩,_⟩:=new4 (Nat.lt_succ_self _) hB1)
  | (go_at_call 157;refine (or3_any _ _ _ _).mono ?_;rintro rr w4 ⟨rfl,hw⟩;subst hw;rw [HE.out]))
 replace hB1:=Below.alloc hB1 (by have:=hB1.size;simpa using this) (.cells #[.int .i64 f,.int .i64 we,.int .i64 r] 31)
 obtain ⟨⟨k0,k1,k2,k3⟩,_⟩:=new4 (Nat.lt_succ_self _) hB1
 by_cases hask : ask = 0
 ·have H1 : Aside (Right false t ∧ wrongE e false = 0 ∧ noDirL t (dirOf e.p) = 0):=putAsk_zero (HK.out.symm.trans hask)
  have hn80 : n ≤ 80:=by rw [HN.out];exact H1.out.1.len
  have HAK : Aside (putAsk t e = 0):=HK.out.symm.trans hask
  go_wp2_with (first
   | (go_at_call 51;refine (hfi _ (base1 hB1)).mono ?_;clear hfi;rintro rr w4 ⟨i,rfl,hpl,hG⟩;have HP : Aside (PlaceAt t e.p i):=hpl;clear hpl;replace hB1:=up1 hB1 hG.below;clear hG;obtain ⟨⟨g0,g1,g2,g3⟩,_⟩:=new4 (Nat.lt_succ_self _) hB1;rcases found_any HN.out LI.out (base1 hB1) e.path.data.toList i with ⟨hib,y,b,off,hpp,HY,hin,q0,q1,q2,q3⟩ | hib <;> try subst hpp)
   | (at_builtin;refine append_copy _ rfl _ _ rfl w4.heap.size rfl ?_ _ n cap t rfl HN.out ?_ hnil hn80 ?_ ?_))
  ·exact empty_row w4 _ rfl
  ·exact (LI.out.kept (base1 hB1)).grown ((Grown.refl _).alloc _)
  ·simp
  ·intro g c w5 hO hg hB5
   have hX : Below w4.heap.size w4 w5:=((Below.refl _ _).alloc (Nat.le_refl _) _).trans hB5
   replace hB1:=up1 hB1 hX
   obtain ⟨⟨j0,j1,j2,j3⟩,_⟩:=new4 (Nat.lt_succ_self _) hB1
   have hb4 : b < w4.heap.size:=block_lt_of_cell q0
   have hb5 : b < w5.heap.size:=Nat.lt_of_lt_of_le hb4 hX.size
   have hws : w.heap.size < w5.heap.size:=block_lt_of_cell j0
   have G0:=fun n os => cell_grown (w:=w5) (a:=⟨b,off + i * 4,none⟩) hb5 ((hX.cell (p:=⟨b,off + i * 4,none⟩) hb4).trans q0) n os
   have G1:=fun n os => cell_grown (w:=w5) (a:=⟨b,off + i * 4 + 1,none⟩) hb5 ((hX.cell (p:=⟨b,off + i * 4 + 1,none⟩) hb4).trans q1) n os
   have G2:=fun n os => cell_grown (w:=w5) (a:=⟨b,off + i * 4 + 2,none⟩) hb5 ((hX.cell (p:=⟨b,off + i * 4 + 2,none⟩) hb4).trans q2) n os
   have G3:=fun n os => cell_grown (w:=w5) (a:=⟨b,off + i * 4 + 3,none⟩) hb5 ((hX.cell (p:=⟨b,off + i * 4 + 3,none⟩) hb4).trans q3) n os
   have J0:=fun n os => cell_grown (w:=w5) (a:=⟨w.heap.size,0,none⟩) hws j0 n os
   have J1:=fun n os => cell_grown (w:=w5) (a:=⟨w.heap.size,1,none⟩) hws j1 n os
   have J2:=fun n os => cell_grown (w:=w5) (a:=⟨w.heap.size,2,none⟩) hws j2 n os
   have J3:=fun n os => cell_grown (w:=w5) (a:=⟨w.heap.size,3,none⟩) hws j3 n os
   have hgw4 : w.heap.size < w4.heap.size:=block_lt_of_cell g0
   have hgw : w.heap.size < g:=by omega
   have hdy : ∀ W,Calls Tryz.prog 113 #[.agg #[.string y.path, .int .i64 y.kind, .string y.text, .bool y.opq]] W fun r w' => r = .returned (.bool (y.kind == 2)) ∧ ∃ q os',w' = grow (W.drewN q) os':=fun W => isDir_any y W
   have hde : ∀ W,Calls Tryz.prog 113 #[.agg #[.string e.path, .int .i64 e.kind, .string e.text, .bool e.opq]] W fun r w' => r = .returned (.bool (e.kind == 2)) ∧ ∃ q os',w' = grow (W.drewN q) os':=fun W => isDir_any e W
   have HER : Aside (er = if (y.kind == 2) = (e.kind == 2) then 0 else 7):=HR.out.trans (putErr_there HAK.out (List.mem_of_getElem? HY.out.1) HY.out.2)
   generalize (y.kind == 2) = by' at hdy HER
   generalize (e.kind == 2) = be' at hde HER
   have mixed : Tryz.prog.follows .mixedOrders = true:=by kernel_rfl
   clear q0 q1 q2 q3 hX hB5 g0 g1 g2 g3 k0 k1 k2 k3
   by_cases hbb : by' = be'
   ·subst hbb
    have HE0 : Aside (er = 0):=by show _ = _;rw [HER.out,if_pos rfl]
    cases by'
    all_goals
     go_wp2
     go_quiet_grown (first | exact Calls.grown_of (hdy _) | exact Calls.grown_of (hde _))
     obtain ⟨W6,hW6⟩ : ∃ W6,W6 = grow (w5.drewN nq) osq:=⟨_,rfl⟩
     have hG6 : Grown w5 W6:=⟨nq,osq,hW6⟩
     show Exit.then _ _ Exit.normal _ (grow (w5.drewN nq) osq)
     rw [← hW6]
     clear hW6 hdy hde G0 G1 G2 G3 J0 J1 J2 J3
     replace hB1:=up1 hB1 hG6.below
     obtain ⟨⟨m0,m1,m2,m3⟩,_⟩:=new4 (Nat.lt_succ_self _) hB1
     obtain ⟨⟨a0,a1,a2,a3⟩,⟨f0,f1,f2,f3⟩⟩:=(hO.grown hG6).cells HY.out.1
     go_wp2
     go_ret2
     exact put_set_end HP.out H1.out.1.sorted HY.out HN.out HE0.out HR.out HL.out (hO.grown hG6) (base1 hB1) (Nat.le_of_lt hgw)
   ·have HE7 : Aside (er = 7):=by show _ = _;rw [HER.out,if_neg hbb]
    have HLn : Aside (l = []):=by show _ = _;rw [HL.out,if_neg];rw [← HR.out,HE7.out];decide
    cases by' <;> cases be' <;> first | exact absurd rfl hbb | skip
    all_goals
     go_wp2
     go_quiet_grown (first | exact Calls.grown_of (hdy _) | exact Calls.grown_of (hde _))
     obtain ⟨W6,hW6⟩ : ∃ W6,W6 = grow (w5.drewN nq) osq:=⟨_,rfl⟩
     have hG6 : Grown w5 W6:=⟨nq,osq,hW6⟩
     show Exit.then _ _ Exit.normal _ (grow (w5.drewN nq) osq)
     rw [← hW6]
     clear hW6 hdy hde G0 G1 G2 G3 J0 J1 J2 J3
     replace hB1:=up1 hB1 hG6.below
     go_wp2
     go_ret2
     rw [HE7.out,HLn.out]
     exact TreePost.none (base1 hB1)
  ·exact empty_row w4 _ rfl
  ·exact (LI.out.kept (base1 hB1)).grown ((Grown.refl _).alloc _)
  ·simp
  ·intro g c w5 hO hg hB5
   have hX : Below w4.heap.size w4 w5:=((Below.refl _ _).alloc (Nat.le_refl _) _).trans hB5
   replace hB1:=up1 hB1 hX
   obtain ⟨⟨j0,j1,j2,j3⟩,_⟩:=new4 (Nat.lt_succ_self _) hB1
   have hgw4 : w.heap.size < w4.heap.size:=block_lt_of_cell g0
   have hgw : w.heap.size < g:=by omega
   have hno : ∀ x ∈ t,x.p ≠ e.p:=fun x hx hxp => by have:=(HP.out.there H1.out.1.sorted).2 ⟨x,hx,hxp⟩;rw [show e.p = e.path.data.toList from rfl,hib] at this;cases this
   have HER : Aside (er = if n = 80 then 5 else 0):=by show _ = _;rw [HR.out,putErr_not HAK.out hno,HN.out]
   have HO5 : Aside (Own w5 g c t):=hO
   clear hX hB5 g0 g1 g2 g3 k0 k1 k2 k3 hno hO
   by_cases h80 : n = 80
   ·have HE5 : Aside (er = 5):=by show _ = _;rw [HER.out,if_pos h80]
    have HLn : Aside (l = []):=by show _ = _;rw [HL.out,if_neg];rw [← HR.out,HE5.out];decide
    have h80' : ((n : Int) == 80) = true:=by simp;omega
    clear h80
    go_wp2
    go_quiet (fail)
    go_wp2
    go_ret2
    rw [HE5.out,HLn.out]
    exact TreePost.none (below_drewN (base1 hB1) _)
   ·have HE0 : Aside (er = 0):=by show _ = _;rw [HER.out,if_neg h80]
    have h80' : ((n : Int) == 80) = false:=by simp;omega
    have hglt : g < w5.heap.size:=HO5.out.lt
    have hins : ∀ W : World,Below w5.heap.size w5 W → Calls Tryz.prog 214 #[.slice (some ⟨g,0,none⟩) n c,.int .i64 i,.slice (some ⟨W.heap.size,0,none⟩) 1 1] (W.alloc (.cells #[.string e.path, .int .i64 e.kind, .string e.text, .bool e.opq] 53)) (InsPost (t.take i ++ e :: t.drop i) g (W.alloc (.cells #[.string e.path, .int .i64 e.kind, .string e.text, .bool e.opq] 53))):=fun W hW => by
     have:=insert_any t e i g c (W.alloc (.cells #[.string e.path, .int .i64 e.kind, .string e.text, .bool e.opq] 53)) ((HO5.out.below hW hglt).grown ((Grown.refl _).alloc _)) W.heap.size (by show (W.heap.push _)[W.heap.size]? = _;simp;rfl) (by have:=hW.size;omega) HP.out.le (by rw [← HN.out];omega)
     rw [← HN.out] at this
     exact this
    clear h80
    obtain ⟨tl,htl⟩ : ∃ tl,tl = t.take i ++ e :: t.drop i:=⟨_,rfl⟩
    simp only [← htl] at hins
    have HTL : Aside (tl = t.take i ++ e :: t.drop i):=htl
    clear htl
    go_wp2
    go_quiet (fail)
    go_wp2_with (go_at_call 214;refine (hins _ (below_drewN (Below.refl _ _) _)).mono ?_;clear hins;rintro rr w7 ⟨g',c',rfl,hO7,hg7,hgb7⟩)
    go_ret2
    have hwle:=(base1 hB1).size
    have hg7' : w.heap.size ≤ g':=by
     rcases hg7 with h | h
     ·omega
     ·simp at h;omega
    have htl:=HTL.out
    subst htl
    exact put_ins_end HP.out H1.out.1.sorted hib HE0.out HR.out HL.out hO7 (Below.alloc (below_drewN (base1 hB1) _) (by simpa using hwle) _) hgb7 (Nat.le_of_lt hgw) hg7'
 ·have HEA : Aside (er = ask):=by show _ = _;rw [HR.out,HK.out];exact putErr_asked (fun h => hask (HK.out.trans h))
  have HLn : Aside (l = []):=by show _ = _;rw [HL.out,if_neg];rw [← HR.out,HEA.out];exact hask
  go_wp2
  go_ret2
  rw [HEA.out,HLn.out]
  exact TreePost.none (base1 hB1)
end Go.Proofs.YthfeoiffoeagkaaGreatDoor
