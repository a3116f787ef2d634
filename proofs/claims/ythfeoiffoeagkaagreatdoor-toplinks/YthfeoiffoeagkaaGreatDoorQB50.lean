/-
  Rows of calls.
-/
import Derived.Test.YthfeoiffoeagkaaGreatDoorQA46
import Derived.Laws.IdiomStrings
namespace Go.Proofs.YthfeoiffoeagkaaGreatDoor
open Go.RowKit PM Go.Sort
set_option linter.unusedVariables false
theorem encC_lt {e : Cl} {i : Nat} {v : Value} (h : (encC e)[i]? = some v) : i < 9:=by
 have:=(List.getElem?_eq_some_iff.1 h).1;exact this
theorem flatC_one {t : List Cl} {u : Value} (h : u ∈ t.flatMap encC) : u.oneCell' = true:=by
 obtain ⟨e,_,he⟩:=List.mem_flatMap.1 h
 simp [encC] at he
 rcases he with rfl | rfl | rfl | rfl | rfl | rfl | rfl | rfl | rfl <;> rfl
theorem infoC : ∃ i0,Tryz.prog.info? 50 = some i0 ∧ i0.zero = some (.agg #[.int .i64 0,.int .i64 0,.int .i64 0,.int .i64 0,.int .i64 0,.string ⟨#[]⟩,.string ⟨#[]⟩,.string ⟨#[]⟩,.bool false]) ∧ i0.size = 9 ∧ i0.bytes = 96:=by
 have h : (Tryz.prog.info? 50).map (fun i => (i.zero,i.size,i.bytes)) = some (some (.agg #[.int .i64 0,.int .i64 0,.int .i64 0,.int .i64 0,.int .i64 0,.string ⟨#[]⟩,.string ⟨#[]⟩,.string ⟨#[]⟩,.bool false]),9,96):=by kernel_rfl
 cases hi : Tryz.prog.info? 50 with
 | none => rw [hi] at h;cases h
 | some i0 =>
  rw [hi] at h
  simp only [Option.map_some,Option.some.injEq,Prod.mk.injEq] at h
  exact ⟨i0,rfl,h.1,h.2.1,h.2.2⟩
def RowsC (w : World) (base : Nat) (v : Value) (l : List Cl) : Prop:=w.ownsRow base 50 9 v l.length (l.flatMap encC)
theorem RowsC.own {w : World} {base : Nat} {v : Value} {l : List Cl} (h : RowsC w base v l) {g : Nat} (hg : v.ownBlock = some g) : base ≤ g ∧ ∃ cur,w.heap[g]? = some (.cells cur 50 (0,0)):=by
 obtain ⟨_,⟨e,_⟩ | ⟨g',cap,cur,e,hb,hh,_⟩⟩:=h
 ·rw [e] at hg;cases hg
 ·rw [e] at hg
  simp [Value.ownBlock] at hg
  subst hg
  exact ⟨hb,cur,hh⟩
theorem RowsC.at {w w' : World} {base : Nat} {v : Value} {l : List Cl} (h : RowsC w base v l) (hk : ∀ g,v.ownBlock = some g → w'.heap[g]? = w.heap[g]?) : RowsC w' base v l:=by
 refine ⟨h.1,h.2.imp id ?_⟩
 rintro ⟨g,cap,cur,e,hg,hh,r⟩
 exact ⟨g,cap,cur,e,hg,(hk g (by rw [e];rfl)).trans hh,r⟩
theorem flatC_len : ∀ (t : List Cl),(t.flatMap encC).length = t.length * 9
 | [] => rfl
 | y :: r => by rw [List.flatMap_cons,List.length_append,flatC_len r,List.length_cons];show 9 + _ = _;omega
theorem rowCs_new (W : World) (ys : List Cl) (arr : Array Value) (harr : arr = (ys.flatMap encC).toArray) : ∀ j u,(ys.flatMap encC)[j]? = some u → (W.alloc (.cells arr 50)).cell? ((⟨W.heap.size,0,none⟩ : Addr).add j) = some u:=by
 intro j u h
 subst harr
 rw [Addr.add_lit]
 have h2 : (W.alloc (.cells (ys.flatMap encC).toArray 50)).heap[W.heap.size]? = some (.cells (ys.flatMap encC).toArray 50):=heap_alloc_last W _
 simp only [World.cell?,h2,Nat.zero_add]
 simp [h]
theorem append_calls {ops : Array Oper} {rest : List Oper} {o : Oper} {a : Act} {Q : Exit → Act → World → Prop} (X : World) (ys : List Cl) (m : Nat) (hm : m = ys.length) (h0 : 0 < m) (h8 : m ≤ 100) (arr : Array Value) (harr : arr = (ys.flatMap encC).toArray) (hgd : o.guard = none) (s x : Operand)
  (ho : o.op = .call { callee:=.builtin .append,args:=#[s,x],argTypes:=#[27,27] }) (base : Nat) (v : Value) (l : List Cl) (hs : a.eval s = v) (hrow : RowsC X base v l) (hlen : l.length ≤ 20000) (hbase : base ≤ X.heap.size)
  (hx : a.eval x = .slice (some ⟨X.heap.size,0,none⟩) m m)
  (h : ∀ v' w',RowsC w' base v' (l ++ ys) → X.heap.size ≤ w'.heap.size → (∀ b,b < X.heap.size → v.ownBlock ≠ some b → w'.heap[b]? = X.heap[b]?) → (∀ g,v'.ownBlock = some g → v.ownBlock = some g ∨ X.heap.size ≤ g) → Below base X w' → wpList Tryz.prog ops Q rest (a.put o.dst v') w') :
  wpList Tryz.prog ops Q (o :: rest) a (X.alloc (.cells arr 50)):=by
 obtain ⟨i0,hi,hz0,hz1,hz2⟩:=infoC
 have hrow2:=World.ownsRow.alloc hrow (.cells arr 50)
 have hB0 : Below base X (X.alloc (.cells arr 50)):=(Below.refl base X).alloc hbase _
 have hbk : ∀ b,b < X.heap.size → (X.alloc (.cells arr 50)).heap[b]? = X.heap[b]?:=fun b hb => ((Grown.refl X).alloc _).below.block b hb
 have hcl : (ys.flatMap encC).length = m * 9:=by rw [hm];exact flatC_len ys
 have hnew:=rowCs_new X ys arr harr
 have hsz : (X.alloc (.cells arr 50)).heap.size = X.heap.size + 1:=by simp
 generalize X.alloc (.cells arr 50) = Z at *
 obtain ⟨hl1,⟨hv,hn0⟩ | ⟨g,cap,cur,hv,hg,hh,hnc,hmx,hcs,ht⟩⟩:=id hrow2
 ·refine wpList_append_grows Z hgd s x 27 ho 50 i0 _ 9 96 Tryz.underlying27 hi hz0 hz1 hz2 rfl (by decide) none 0 0 [] (by rw [hs,hv]) (fun _ => ⟨rfl,rfl⟩) rfl nofun ⟨X.heap.size,0,none⟩ m m (ys.flatMap encC) hx hcl hnew (fun u hu => flatC_one (t:=ys) hu) (by omega) (by unfold maxLen;omega) (by omega) ?_
  intro v' w' hown hgrow
  have hl : l = []:=List.eq_nil_of_length_eq_zero hn0
  subst hl
  have hR : RowsC w' Z.heap.size v' ys:=by rw [Nat.zero_add,hm] at hown;exact hown
  refine h v' w' ⟨hR.1,hR.2.imp id (fun ⟨g,c,cu,e,h1,r⟩ => ⟨g,c,cu,e,by omega,r⟩)⟩ (by have:=hgrow.size;omega) (fun b hb hne => (hgrow.block b (by omega) (by simp)).trans (hbk b hb)) (fun g hg => .inr (by have:=(hR.own hg).1;omega)) (hB0.grown hgrow (by omega) (fun k hk => by simp at hk))
 ·rcases Nat.lt_or_ge cap (l.length + m) with hfull | hroom
  ·refine wpList_append_grows Z hgd s x 27 ho 50 i0 _ 9 96 Tryz.underlying27 hi hz0 hz1 hz2 rfl (by decide) (some ⟨g,0,none⟩) l.length cap (l.flatMap encC) (by rw [hs,hv]) nofun hl1 (fun b hb => by cases hb;exact World.ownsRow.cells hrow2 (by rw [hv];rfl)) ⟨X.heap.size,0,none⟩ m m (ys.flatMap encC) hx hcl hnew (fun u hu => flatC_one (t:=ys) hu) hfull (by unfold maxLen;omega) (by omega) ?_
   intro v' w' hown hgrow
   have hR : RowsC w' Z.heap.size v' (l ++ ys):=by rw [hm] at hown;simpa [RowsC] using hown
   refine h v' w' ⟨hR.1,hR.2.imp id (fun ⟨g,c,cu,e,h1,r⟩ => ⟨g,c,cu,e,by omega,r⟩)⟩ (by have:=hgrow.size;omega) (fun b hb hne => (hgrow.block b (by omega) (by simp)).trans (hbk b hb)) (fun g hg => .inr (by have:=(hR.own hg).1;omega)) (hB0.grown hgrow (by omega) (fun k hk => by simp at hk))
  ·refine wpList_plain hgd fun K hK => ?_
   obtain ⟨v',w',hr,h2,h3,_⟩:=run_append_own (P:=Tryz.prog) Z base 27 o.type 50 i0 _ 9 96 Tryz.underlying27 hi hz0 hz1 hz2 rfl (by decide) v l.length (l.flatMap encC) hrow2 ⟨X.heap.size,0,none⟩ m m (ys.flatMap encC) hcl hnew (fun u hu => flatC_one (t:=ys) hu) (by unfold maxLen;omega) (by omega) (by omega)
   have hr2:=run_append_room_cells (P:=Tryz.prog) Z 27 o.type 50 i0 Tryz.underlying27 hi g 0 l.length cap ⟨X.heap.size,0,none⟩ m m (ys.flatMap encC) (by rw [hz1];exact hcl) hnew (fun u hu => flatC_one (t:=ys) hu) hroom (fun j hj => by
    have hj : j < m * 9:=by rw [hcl] at hj;exact hj
    rw [hz1]
    have : l.length * 9 + j < cur.size:=by omega
    rw [Nat.zero_add]
    simp [World.cell?,hh,this]) (fun j hj => by simp [World.frozen?,hh])
   rw [← hv] at hr2
   have hev : v' = .slice (some ⟨g,0,none⟩) (l.length + m) cap:=by
    rw [hr] at hr2
    injection hr2
   have hR : RowsC w' base v' (l ++ ys):=by rw [hm] at h2;simpa [RowsC] using h2
   unfold Oper.wp execOp
   simp only [ho,resolve,invoke,builtin,Sem.run_bind,Sem.run_pure,Result.andThen_ok,List.map_toArray,List.map_cons,List.map_nil,hs,hx,hr]
   refine hK _ _ (h v' w' hR (by have:=h3.size;omega) (fun b hb hne => (h3.block b (by omega) (fun e => hne e.symm)).trans (hbk b hb)) (fun g' hg' => .inl ?_) (hB0.grown h3 (by omega) (fun k hk => (World.ownsRow.lt hrow k hk).1)))
   rw [hev] at hg'
   rw [hv,← hg']
   rfl
theorem append_call {ops : Array Oper} {rest : List Oper} {o : Oper} {a : Act} {Q : Exit → Act → World → Prop} (X : World) (y : Cl) (hgd : o.guard = none) (s x : Operand)
  (ho : o.op = .call { callee:=.builtin .append,args:=#[s,x],argTypes:=#[27,27] }) (base : Nat) (v : Value) (l : List Cl) (hs : a.eval s = v) (hrow : RowsC X base v l) (hlen : l.length ≤ 20000) (hbase : base ≤ X.heap.size)
  (hx : a.eval x = .slice (some ⟨X.heap.size,0,none⟩) 1 1)
  (h : ∀ v' w',RowsC w' base v' (l ++ [y]) → X.heap.size ≤ w'.heap.size → (∀ b,b < X.heap.size → v.ownBlock ≠ some b → w'.heap[b]? = X.heap[b]?) → (∀ g,v'.ownBlock = some g → v.ownBlock = some g ∨ X.heap.size ≤ g) → Below base X w' → wpList Tryz.prog ops Q rest (a.put o.dst v') w') :
  wpList Tryz.prog ops Q (o :: rest) a (X.alloc (.cells #[.int .i64 y.kind,.int .i64 y.owner,.int .i64 y.fd,.int .i64 y.n,.int .i64 y.m,.string y.path,.string y.to,.string y.text,.bool y.alone] 50)) :=
 append_calls X [y] 1 rfl (by decide) (by decide) _ (by simp [encC]) hgd s x ho base v l hs hrow hlen hbase hx h
def nmL (k : Nat) : ByteArray:=⟨#[108,(97 + k).toUInt8]⟩
def linkFirst : Cl:=⟨10,0,0,0,0,nmL 0,⟨#[100,105,114,47,46,46,47,100,105,114,47,46,47,97]⟩,⟨#[]⟩,false⟩
def linkNext (k : Nat) : Cl:=⟨10,0,0,0,0,nmL (k + 1),⟨#[47]⟩ ++ nmL k,⟨#[]⟩,false⟩
def linkRow (m : Nat) : List Cl:=linkFirst :: (List.range m).map linkNext
def linkLast (n : Nat) : List Cl:=[⟨12,0,0,0,0,nmL (n - 1),⟨#[]⟩,⟨#[]⟩,false⟩,⟨10,0,0,0,0,⟨#[115,101,108,102]⟩,⟨#[115,101,108,102]⟩,⟨#[]⟩,false⟩,⟨12,0,0,0,0,⟨#[115,101,108,102]⟩,⟨#[]⟩,⟨#[]⟩,false⟩]
def linkL (n : Nat) : List Cl:=linkRow (n - 1) ++ linkLast n
noncomputable def linkT (n : Nat) : List (Int × List UInt8):=((runB (linkL n)).2.drop n).map fun a => (a.err,a.text.data.toList)
def linkW (n : Nat) : List (Int × List UInt8):=[if n ≤ 8 then (0,[111,110,101]) else (12,[]),(0,[]),(12,[])]
set_option maxRecDepth 1000000 in
set_option maxHeartbeats 4000000 in
theorem link_all : ∀ n,n < 13 → 0 < n → linkT n = linkW n:=by decide +kernel
theorem name_conv (w : World) (c : UInt8) (x : Int) (hx : x = (c.toNat : Int)) : (convert 72 9 (.slice (some ⟨w.heap.size,0,none⟩) 1 1)).run Tryz.prog (w.alloc (.cells #[.int .u8 x] 5)) = .ok (.string ⟨#[c]⟩) (w.alloc (.cells #[.int .u8 x] 5)):=by
 subst hx
 exact run_convert_bytes_back (w.alloc (.cells #[.int .u8 (c.toNat : Int)] 5)) 72 9 5 ⟨w.heap.size,0,none⟩ 1 [c] Tryz.underlying72 Tryz.underlying5 Tryz.underlying9 (fun j hj => by
  have h0 : j = 0:=by simpa using hj
  subst h0
  rw [Addr.add_lit]
  simp)
set_option maxRecDepth 100000 in
theorem name_call (k : Int) (j : Nat) (hj : k = j) (hk : j < 13) (w : World) : Calls Tryz.prog 38 #[.int .i64 k] w fun r w' => r = .returned (.string (nmL j)) ∧ Below w.heap.size w w':=by
 have c0:=name_conv w 97 97 rfl
 have c1:=name_conv w 98 98 rfl
 have c2:=name_conv w 99 99 rfl
 have c3:=name_conv w 100 100 rfl
 have c4:=name_conv w 101 101 rfl
 have c5:=name_conv w 102 102 rfl
 have c6:=name_conv w 103 103 rfl
 have c7:=name_conv w 104 104 rfl
 have c8:=name_conv w 105 105 rfl
 have c9:=name_conv w 106 106 rfl
 have c10:=name_conv w 107 107 rfl
 have c11:=name_conv w 108 108 rfl
 have c12:=name_conv w 109 109 rfl
 subst hj
 obtain rfl | rfl | rfl | rfl | rfl | rfl | rfl | rfl | rfl | rfl | rfl | rfl | rfl : j = 0 ∨ j = 1 ∨ j = 2 ∨ j = 3 ∨ j = 4 ∨ j = 5 ∨ j = 6 ∨ j = 7 ∨ j = 8 ∨ j = 9 ∨ j = 10 ∨ j = 11 ∨ j = 12:=by omega
 all_goals
  go_enter Tryz.func38,Tryz.ntmps38
  go_wp2
  go_ret
  exact ⟨rfl,((Grown.refl w).alloc _).below⟩
theorem an_errtext {l : List An} {n i : Nat} {e : Int} {t : List UInt8} (h : ((l.drop n).map fun a => (a.err,a.text.data.toList))[i]? = some (e,t)) : ∃ a,l[n + i]? = some a ∧ a.err = e ∧ a.text.data.toList = t:=by
 rw [List.getElem?_map,List.getElem?_drop] at h
 obtain ⟨a,ha,he⟩:=Option.map_eq_some_iff.1 h
 exact ⟨a,ha,congrArg Prod.fst he,congrArg Prod.snd he⟩
theorem link_small (n : Nat) : ∀ c ∈ linkL n,c.Small:=by
 intro c hc
 have hn : ∀ k,(nmL k).size ≤ 1048576:=fun k => by show 2 ≤ _;decide
 simp only [linkL,linkRow,linkLast,List.cons_append,List.mem_cons,List.mem_append,List.mem_map,List.not_mem_nil,or_false] at hc
 rcases hc with rfl | ⟨k,_,rfl⟩ | rfl | rfl | rfl
 ·exact ⟨hn 0,by show 14 ≤ _;decide,by show 0 ≤ _;decide⟩
 ·exact ⟨hn _,by show ((⟨#[47]⟩ : ByteArray) ++ nmL k).size ≤ _;rw [ByteArray.size_append];show 1 + 2 ≤ _;decide,by show 0 ≤ _;decide⟩
 ·exact ⟨hn _,by show 0 ≤ _;decide,by show 0 ≤ _;decide⟩
 ·exact ⟨by show 4 ≤ _;decide,by show 4 ≤ _;decide,by show 0 ≤ _;decide⟩
 ·exact ⟨by show 4 ≤ _;decide,by show 0 ≤ _;decide,by show 0 ≤ _;decide⟩
theorem link_len (k : Nat) : (linkL (k + 1)).length = k + 4:=by simp [linkL,linkRow,linkLast]
theorem link_play (k : Nat) (hk : k ≤ 11) (N j1 j3 : Nat) (hN : N = k + 4) (h1 : j1 = k + 1) (h3 : j3 = k + 3) (W : World) (b b' H cc : Nat) (hU : UnOK W ⟨none,0,[]⟩ [⟨some ⟨b,0,none⟩,3,base6⟩] (some ⟨b',0,none⟩) 1) (hG : Gl W.heap.size W) (hC : LiesC W (some ⟨H,0,none⟩) (linkL (k + 1))) :
  Calls Tryz.prog 16 #[.agg #[.slice none 0 0,.slice (some ⟨b',0,none⟩) 1 1],.slice (some ⟨H,0,none⟩) N cc] W (fun r w' => ∃ a0 k0 c0 a1 k1 c1 ps sn sc op b ac e1 t1,r = .returned (.tuple #[.agg #[.slice a0 k0 c0,.slice a1 k1 c1,.slice ps sn sc,.int .i64 op],.slice (some ⟨b,0,none⟩) N ac,.int .i64 0]) ∧ w'.cell? ⟨b,j1 * 4,none⟩ = some (.int .i64 e1) ∧ w'.cell? ⟨b,j1 * 4 + 2,none⟩ = some (.string t1) ∧ w'.cell? ⟨b,j3 * 4,none⟩ = some (.int .i64 12) ∧ ((e1 = 0 ∧ t1 = ⟨#[111,110,101]⟩ ∧ ¬ (8 : Int) < (k : Int) + 1) ∨ (e1 = 12 ∧ (8 : Int) < (k : Int) + 1)) ∧ Below W.heap.size W w'):=by
 subst hN h1 h3
 refine (top_play (linkL (k + 1)) (k + 4) (link_len k).symm (by rw [link_len];omega) (by simp [linkL,linkRow]) (link_small _) W b b' H cc hU hG hC).mono fun r w' ⟨y,pl,cl,ps,sc,yn,ln,sn,op,b1,ac,e,hB,hx⟩ => ?_
 obtain ⟨_,_,_,e4⟩:=hx.out
 have hd : (((runB (linkL (k + 1))).2.drop (k + 1)).map fun a => (a.err,a.text.data.toList)) = linkW (k + 1):=link_all (k + 1) (by omega) (by omega)
 have hi0 : ∃ (e : Int) (t : List UInt8),(linkW (k + 1))[0]? = some (e,t) ∧ (k + 1 ≤ 8 → e = 0 ∧ t = [111,110,101]) ∧ (8 < k + 1 → e = 12):=by
  by_cases h : k + 1 ≤ 8
  ·exact ⟨0,[111,110,101],by unfold linkW;rw [if_pos h];rfl,fun _ => ⟨rfl,rfl⟩,fun _ => by omega⟩
  ·exact ⟨12,[],by unfold linkW;rw [if_neg h];rfl,fun _ => by omega,fun _ => rfl⟩
 obtain ⟨ee,tt,hi,hle,hgt⟩:=hi0
 obtain ⟨x0,ha0,he0,ht0⟩:=an_errtext (i:=0) (by rw [hd];exact hi)
 obtain ⟨x2,ha2,he2,ht2⟩:=an_errtext (i:=2) (by rw [hd];rfl)
 obtain ⟨_,_,_,g0,_,g1,_⟩:=e4 _ x0 ha0
 obtain ⟨_,_,_,g2,_⟩:=e4 _ x2 ha2
 rw [he2] at g2
 refine ⟨_,_,_,_,_,_,_,_,_,_,_,_,x0.err,x0.text,e,g0,g1,g2,?_,hB⟩
 by_cases h : k + 1 ≤ 8
 ·exact .inl ⟨he0.trans (hle h).1,ba_ext (ht0.trans (hle h).2),by omega⟩
 ·exact .inr ⟨he0.trans (hgt (by omega)),by omega⟩
theorem linkRow_next (k : Nat) : linkRow (k + 1) = linkRow k ++ [linkNext k]:=by
 simp [linkRow,List.range_succ]
theorem linkRow_len (k : Nat) : (linkRow k).length = k + 1:=by simp [linkRow]
theorem rowC_one (W : World) (y : Cl) (base : Nat) (hb : base ≤ W.heap.size) : RowsC (W.alloc (.cells #[.int .i64 y.kind,.int .i64 y.owner,.int .i64 y.fd,.int .i64 y.n,.int .i64 y.m,.string y.path,.string y.to,.string y.text,.bool y.alone] 50)) base (.slice (some ⟨W.heap.size,0,none⟩) 1 1) [y] :=
 ⟨rfl,.inr ⟨W.heap.size,1,_,rfl,hb,heap_alloc_last W _,Nat.le_refl _,by unfold maxLen;decide,rfl,rfl⟩⟩
theorem rowC_lies {W : World} {base : Nat} {v : Value} {l : List Cl} (h : RowsC W base v l) (hl : l ≠ []) : ∃ b c,v = .slice (some ⟨b,0,none⟩) l.length c ∧ LiesC W (some ⟨b,0,none⟩) l:=by
 obtain ⟨hl1,⟨hv,hn0⟩ | ⟨g,cap,cur,hv,hg,hh,hnc,hmx,hcs,ht⟩⟩:=h
 ·exact absurd (List.eq_nil_of_length_eq_zero hn0) hl
 ·refine ⟨g,cap,hv,.inr ⟨g,0,rfl,(Array.getElem?_eq_some_iff.1 hh).1,fun i c hc j u hu => ?_⟩⟩
  have h1:=encC_at hc hu
  rw [← ht] at h1
  simp only [World.cell?,hh]
  have h2 : cur.toList[i * 9 + j]? = some u:=by
   rw [List.getElem?_take] at h1
   split at h1
   ·exact h1
   ·cases h1
  simp only [Nat.zero_add]
  simpa using h2
theorem nm_size (k : Nat) : (nmL k).size = 2:=rfl
set_option maxRecDepth 100000 in
set_option maxHeartbeats 1000000 in
theorem topLinks_in (m : Nat) (hm : m ≤ 11) (w : World) (hg : Gl w.heap.size w) : TrueC 14 #[.int .i64 ((m : Int) + 1)] w:=by
 have hal:=topAlive_any w hg
 have HG : Aside (Gl w.heap.size w):=hg
 clear hg
 have n1 : ¬ (m : Int) + 1 < 1:=by omega
 have n2 : ¬ (12 : Int) < (m : Int) + 1:=by omega
 have n3 : IntKind.i64.wrap ((m : Int) + 1 - 1) = (m : Int):=by rw [IntKind.wrap_i64];omega
 have n4 : IntKind.i64.wrap (m : Int) = (m : Int):=by rw [IntKind.wrap_i64];omega
 have n5 : (nmL 0) = ⟨#[108,97]⟩:=rfl
 go_enter Tryz.func14,Tryz.ntmps14
 go_wp2_with (first
  | (go_at_call 32;refine hal.mono ?_;clear hal;rintro r w2 ⟨rfl,hB2⟩;have H2 : Aside (Below w.heap.size w w2):=hB2;clear hB2)
  | (go_at_call 38;refine (name_call _ 0 rfl (by decide) _).mono ?_;rintro r w3 ⟨rfl,hB3⟩;have H3 : Aside (Below w.heap.size w w3):=Below.onto H2.out hB3;clear hB3)
  | (go_at_call 35;refine (at_call _ _ _ _).mono ?_;rintro r w4 ⟨rfl,hB4⟩;have H4 : Aside (Below w.heap.size w w4):=Below.onto H3.out hB4;clear hB4))
 have HH : Aside (RowsC (w4.alloc (.cells #[.int .i64 10,.int .i64 0,.int .i64 0,.int .i64 0,.int .i64 0,.string ⟨#[108,97]⟩,.string ⟨#[100,105,114,47,46,46,47,100,105,114,47,46,47,97]⟩,.string ⟨#[]⟩,.bool false] 50)) w4.heap.size (.slice (some ⟨w4.heap.size,0,none⟩) 1 1) (linkRow 0) ∧ Below w.heap.size w (w4.alloc (.cells #[.int .i64 10,.int .i64 0,.int .i64 0,.int .i64 0,.int .i64 0,.string ⟨#[108,97]⟩,.string ⟨#[100,105,114,47,46,46,47,100,105,114,47,46,47,97]⟩,.string ⟨#[]⟩,.bool false] 50)) ∧ w4.heap.size ≤ (w4.alloc (.cells #[.int .i64 10,.int .i64 0,.int .i64 0,.int .i64 0,.int .i64 0,.string ⟨#[108,97]⟩,.string ⟨#[100,105,114,47,46,46,47,100,105,114,47,46,47,97]⟩,.string ⟨#[]⟩,.bool false] 50)).heap.size) :=
  ⟨rowC_one w4 linkFirst w4.heap.size (Nat.le_refl _),H4.out.alloc H4.out.size _,by simp⟩
 generalize w4.alloc (.cells #[.int .i64 10,.int .i64 0,.int .i64 0,.int .i64 0,.int .i64 0,.string ⟨#[108,97]⟩,.string ⟨#[100,105,114,47,46,46,47,100,105,114,47,46,47,97]⟩,.string ⟨#[]⟩,.bool false] 50) = W5 at HH ⊢
 have HBw : Aside (w.heap.size ≤ w4.heap.size):=H4.out.size
 generalize w4.heap.size = B at HH HBw ⊢
 go_loopg [4,24] m (fun gg v i wr => ∃ k : Nat,k ≤ m ∧ m - k ≤ gg ∧ i = .int .i64 k ∧ Aside (RowsC wr B v (linkRow k) ∧ Below w.heap.size w wr ∧ B ≤ wr.heap.size))
 case atStart => exact ⟨0,Nat.zero_le _,by omega,rfl,HH.out⟩
 case round =>
  obtain ⟨k,hk,hgg,rfl,HI⟩:=hrel
  by_cases hlt : k < m
  ·have hltz : (k : Int) < (m : Int):=by omega
   have z1 : IntKind.i64.wrap ((k : Int) + 1) = (k : Int) + 1:=by rw [IntKind.wrap_i64];omega
   have z2 : (9223372036854775807 < 1 + (nmL k).size) = False:=by rw [nm_size];simp
   have hrl : (linkRow k).length ≤ 20000:=by rw [linkRow_len];omega
   go_wp2_with (first
    | (go_at_call 38;refine (name_call _ (k + 1) (by omega) (by omega) _).mono ?_;rintro r w6 ⟨rfl,hB6⟩;have H6 : Aside (Below wr.heap.size wr w6):=hB6;clear hB6)
    | (go_at_call 38;refine (name_call _ k rfl (by omega) _).mono ?_;rintro r w7 ⟨rfl,hB7⟩;have H7 : Aside (Below wr.heap.size wr w7):=Below.onto H6.out hB7;clear hB7)
    | (go_at_call 35;refine (at_call _ _ _ _).mono ?_;rintro r w8 ⟨rfl,hB8⟩;have H8 : Aside (Below wr.heap.size wr w8):=Below.onto H7.out hB8;clear hB8)
    | (at_builtin;refine append_call w8 (linkNext k) rfl _ _ rfl B _ (linkRow k) rfl (HI.out.1.at (fun g hg => H8.out.block g (by obtain ⟨_,cur,hh⟩:=HI.out.1.own hg;exact (Array.getElem?_eq_some_iff.1 hh).1))) hrl (Nat.le_trans HI.out.2.2 H8.out.size) rfl ?_;intro v9 w9 hR9 hs9 hk9 hg9 hB9;have HH9 : Aside (RowsC w9 B v9 (linkRow (k + 1)) ∧ Below w.heap.size w w9 ∧ B ≤ w9.heap.size):=(by refine ⟨by rw [linkRow_next];exact hR9,(Below.onto HI.out.2.1 H8.out).trans (hB9.mono HBw.out),Nat.le_trans (Nat.le_trans HI.out.2.2 H8.out.size) hs9⟩);clear hR9 hs9 hk9 hg9 hB9))
   go_roundg (m - (k + 1))
   case measure => omega
   case rel => exact ⟨k + 1,by omega,by omega,by go_num,HH9.out⟩
  ·have hltz : ¬ (k : Int) < (m : Int):=by omega
   obtain rfl : k = m:=by omega
   have hrl : (linkRow k).length ≤ 20000:=by rw [linkRow_len];omega
   obtain ⟨N,hN⟩ : ∃ N,N = k + 4:=⟨_,rfl⟩
   obtain ⟨j1,hj1⟩ : ∃ j1,j1 = k + 1:=⟨_,rfl⟩
   obtain ⟨j3,hj3⟩ : ∃ j3,j3 = k + 3:=⟨_,rfl⟩
   have HLN : Aside ((linkRow k ++ linkLast (k + 1)).length = N):=by show _ = _;rw [List.length_append,linkRow_len,hN];rfl
   have x1 : IntKind.i64.wrap ((N : Int) - 3) = (j1 : Int):=by rw [IntKind.wrap_i64];omega
   have x2 : IntKind.i64.wrap ((j1 : Int) + 2) = (j3 : Int):=by rw [IntKind.wrap_i64];omega
   have x3 : (j1 : Int) < (N : Int):=by omega
   have x4 : (j3 : Int) < (N : Int):=by omega
   have x5 : j1 < N:=by omega
   have x6 : j3 < N:=by omega
   have hpl:=link_play k (by omega) N j1 j3 hN hj1 hj3
   clear hN hj1 hj3
   have HQ : Aside (_):=hpl
   clear hpl
   go_wp2_with (first
    | (go_at_call 38;refine (name_call _ k rfl (by omega) _).mono ?_;rintro r w7 ⟨rfl,hB7⟩;have H8 : Aside (Below wr.heap.size wr w7):=hB7;clear hB7)
    | (go_at_call 35;refine (at_call _ _ _ _).mono ?_;rintro r w8 ⟨rfl,hB8⟩;replace H8 : Aside (Below wr.heap.size wr w8):=Below.onto H8.out hB8;clear hB8)
    | (at_builtin;refine append_calls w8 (linkLast (k + 1)) 3 rfl (by decide) (by decide) _ rfl rfl _ _ rfl B _ (linkRow k) rfl (HI.out.1.at (fun g hg => H8.out.block g (by obtain ⟨_,cur,hh⟩:=HI.out.1.own hg;exact (Array.getElem?_eq_some_iff.1 hh).1))) hrl (Nat.le_trans HI.out.2.2 H8.out.size) rfl ?_;intro v9 w9 hR9 hs9 hk9 hg9 hB9;obtain ⟨b9,c9,e9,hC9⟩:=rowC_lies hR9 (by simp [linkLast]);rw [HLN.out] at e9;subst e9;have HH9 : Aside (LiesC w9 (some ⟨b9,0,none⟩) (linkL (k + 1)) ∧ Below w.heap.size w w9):=⟨hC9,(Below.onto HI.out.2.1 H8.out).trans (hB9.mono HBw.out)⟩;clear hR9 hs9 hk9 hg9 hB9 hC9;have hbase:=base_any w9)
    | (go_at_call 36;refine hbase.mono ?_;clear hbase;rintro r wa ⟨b,b',rfl,hU,hBa⟩;have HU : Aside (UnOK wa ⟨none,0,[]⟩ [⟨some ⟨b,0,none⟩,3,base6⟩] (some ⟨b',0,none⟩) 1 ∧ Below w9.heap.size w9 wa):=⟨hU,hBa⟩;clear hU hBa)
    | (go_at_call 16;refine (HQ.out wa b b' b9 c9 HU.out.1 (HG.out.up (Below.onto HH9.out.2 HU.out.2)) (HH9.out.1.kept HU.out.2)).mono ?_;clear HQ;rintro r wb ⟨a0,k0,c0,a1,k1,c1,ps,sn,sc,op,bb,ac,e1,t1,rfl,q0,q2,q12,HE,hBb⟩;have H7 : Aside (Below w.heap.size w wb):=Below.onto (Below.onto HH9.out.2 HU.out.2) hBb;replace q0:=Lib.cell?_alloc_some (.cells #[.slice a0 k0 c0,.slice a1 k1 c1,.slice ps sn sc,.int .i64 op] 29) q0;replace q2:=Lib.cell?_alloc_some (.cells #[.slice a0 k0 c0,.slice a1 k1 c1,.slice ps sn sc,.int .i64 op] 29) q2;replace q12:=Lib.cell?_alloc_some (.cells #[.slice a0 k0 c0,.slice a1 k1 c1,.slice ps sn sc,.int .i64 op] 29) q12;clear hBb;rcases HE with ⟨rfl,rfl,g8⟩ | ⟨rfl,g8⟩))
   all_goals go_ret
   all_goals exact ⟨rfl,H7.out.alloc H7.out.size _⟩
theorem topLinks_out (n : Int) (h : n < 1 ∨ 12 < n) (w : World) (hg : Gl w.heap.size w) : TrueC 14 #[.int .i64 n] w:=by
 have hal:=topAlive_any w hg
 clear hg
 have h1 : ¬ (1 ≤ n ∧ n ≤ 12):=by omega
 go_enter Tryz.func14,Tryz.ntmps14
 go_wp2_with (first
  | (go_at_call 32;refine hal.mono ?_;clear hal;rintro r w2 ⟨rfl,hB2⟩;have H2 : Aside (Below w.heap.size w w2):=hB2;clear hB2))
 all_goals go_ret
 all_goals exact ⟨rfl,H2.out⟩
theorem topLinks_law (n : Int) (w : World) (hg : Gl w.heap.size w) : TrueC 14 #[.int .i64 n] w:=by
 by_cases h : n < 1 ∨ 12 < n
 ·exact topLinks_out n h w hg
 ·obtain ⟨a,ha⟩:=Int.eq_ofNat_of_zero_le (show 0 ≤ n - 1 by omega)
  obtain rfl : n = (a : Int) + 1:=by omega
  exact topLinks_in a (by omega) w hg
end Go.Proofs.YthfeoiffoeagkaaGreatDoor
