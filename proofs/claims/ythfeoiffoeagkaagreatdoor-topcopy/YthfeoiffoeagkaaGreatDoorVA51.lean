/-
  TopCopy: the model.
-/
import Derived.Test.YthfeoiffoeagkaaGreatDoorVA50
namespace Go.Proofs.YthfeoiffoeagkaaGreatDoor
open Go.RowKit PM Go.Sort
set_option linter.unusedVariables false
def oneB : ByteArray:=⟨#[111,110,101]⟩
def copyO : Cl:=⟨1,0,0,3,0,pathA,⟨#[]⟩,⟨#[]⟩,false⟩
def copyR (n : Int) : Cl:=⟨3,0,0,n,0,⟨#[]⟩,⟨#[]⟩,⟨#[]⟩,false⟩
def copyL : Cl:=⟨11,0,0,0,0,⟨#[100,105,114]⟩,⟨#[]⟩,⟨#[]⟩,false⟩
def copyT : Cl:=⟨12,0,0,0,0,⟨#[100,105,114,47,98]⟩,⟨#[]⟩,⟨#[]⟩,false⟩
def copyK : Cl:=⟨5,0,0,0,0,⟨#[]⟩,⟨#[]⟩,⟨#[]⟩,false⟩
def copyW (x : ByteArray) : Cl:=⟨4,0,0,0,0,⟨#[]⟩,⟨#[]⟩,x,false⟩
noncomputable def s1C : Sy:=(runB [copyO]).1
def opC (p : Int) : Opn:=⟨0,3,p⟩
theorem stepC2 (n : Int) : s1C.stepR (copyR n) = (readErr (opC 0) n,s1C.setO 0 (opC (0 + (readT oneB 0 n).size)),ans (readT oneB 0 n).size (readT oneB 0 n)):=by kernel_rfl
theorem stepC3 (p : Int) : ((s1C.setO 0 (opC p)).answer copyL).1 = s1C.setO 0 (opC p):=by kernel_rfl
theorem stepC4 (p : Int) : ((s1C.setO 0 (opC p)).answer copyT).1 = s1C.setO 0 (opC p):=by kernel_rfl
theorem stepC5 (p : Int) : ((s1C.setO 0 (opC p)).answer copyK).1 = s1C:=by kernel_rfl
theorem stepC6 (x : ByteArray) : s1C.stepR (copyW x) = (s1C.wrErr (opC 0) flA x,s1C.wrDo 0 (opC 0) flA x,ans x.size ⟨#[]⟩):=by kernel_rfl
theorem textC : s1C.textOf flA = oneB:=by kernel_rfl
theorem atC : s1C.wrAt (opC 0) flA = 0:=by kernel_rfl
theorem wrongC : (wrongU s1C.all).1 = 0:=by kernel_rfl
theorem upC : s1C.up = []:=by kernel_rfl
theorem haveC (x : ByteArray) : haveL s1C.up ⟨pathA,1,x,false⟩ = [entD6,⟨pathA,1,x,false⟩]:=by kernel_rfl
theorem seenC : s1C.seen = [entD6,⟨pathA,1,oneB,false⟩,entB6]:=by kernel_rfl
def copyFive (n : Int) : List Cl:=[copyO,copyR n,copyL,copyT,copyK]
theorem five_state (n : Int) (h0 : 0 ≤ n) (h1 : n ≤ 100) : (runB (copyFive n)).1 = s1C:=by
 have e2 : (s1C.answer (copyR n)).1 = s1C.setO 0 (opC (0 + (readT oneB 0 n).size)):=by
  unfold Sy.answer
  rw [stepC2,if_pos (by unfold readErr;rw [if_neg (by decide),if_neg (by omega)])]
 have hs1 : ((startS [] [base6]).answer copyO).1 = s1C:=by kernel_rfl
 unfold runB copyFive
 simp only [Sy.run]
 rw [hs1,e2,stepC3,stepC4,stepC5]
theorem six_run (n : Int) (x : ByteArray) : runB (copyFive n ++ [copyW x]) = (((runB (copyFive n)).1.answer (copyW x)).1,(runB (copyFive n)).2 ++ [((runB (copyFive n)).1.answer (copyW x)).2]):=run_snoc _ _ _
theorem askC (x : ByteArray) (hx : x.size ≤ 100) : putAsk s1C.seen ⟨pathA,1,x,false⟩ = 0:=by
 unfold putAsk
 rw [wrongX x hx]
 kernel_rfl
theorem putC (x : ByteArray) (hx : x.size ≤ 100) : putErr s1C.seen ⟨pathA,1,x,false⟩ = 0:=by
 unfold putErr
 rw [if_pos (askC x hx),if_neg,if_neg]
 ·rintro ⟨h,_⟩
  exact h ⟨pathA,1,oneB,false⟩ (by rw [seenC];simp) rfl
 ·rintro ⟨y,hy,h1,h2⟩
  rw [seenC] at hy
  simp only [List.mem_cons,List.not_mem_nil,or_false] at hy
  rcases hy with rfl | rfl | rfl
  ·exact absurd (show entD6.p = pathA.data.toList from h1) (by decide)
  ·exact h2 rfl
  ·exact absurd (show entB6.p = pathA.data.toList from h1) (by decide)
theorem chgC (x : ByteArray) (hx : x.size ≤ 100) : chgErr (wrongU s1C.all).1 (putErr s1C.seen ⟨pathA,1,x,false⟩) (haveL s1C.up ⟨pathA,1,x,false⟩).length = 0 :=
 chgErr_zero.2 ⟨wrongC,putC x hx,by rw [haveC];show 2 ≤ 80;decide⟩
def wantC (x : ByteArray) : ByteArray:=wrText oneB x 0
theorem wantC_size (x : ByteArray) (hx : x.size ≤ 90) : (wantC x).size ≤ 100:=by
 unfold wantC wrText
 split
 ·show 3 ≤ 100;decide
 ·have h0 : (sizedL oneB 0).size = 0:=by kernel_rfl
  simp only [ByteArray.size_append,ByteArray.size_extract,h0]
  have : oneB.size = 3:=rfl
  omega
theorem wrErrC (x : ByteArray) (hx : x.size ≤ 90) : s1C.wrErr (opC 0) flA x = 0:=by
 unfold Sy.wrErr
 rw [if_neg (by decide),atC,textC,if_neg (by omega)]
 unfold Sy.keepErr
 rw [textC]
 split
 ·rfl
 ·rw [if_neg (by decide)]
  exact chgC (wantC x) (wantC_size x hx)
theorem six_up (n : Int) (h0 : 0 ≤ n) (h1 : n ≤ 100) (x : ByteArray) (hx : x.size ≤ 90) : (runB (copyFive n ++ [copyW x])).1.up = (if (wantC x).data.toList = oneB.data.toList then [] else [entD6,⟨pathA,1,wantC x,false⟩]) ∧ ((runB (copyFive n ++ [copyW x])).2[5]?).map (·.n) = some (x.size : Int):=by
 have ha : s1C.answer (copyW x) = (s1C.wrDo 0 (opC 0) flA x,ans x.size ⟨#[]⟩):=by
  unfold Sy.answer
  rw [stepC6,if_pos (wrErrC x hx)]
 have hl : (runB (copyFive n)).2.length = 5:=run_len _ _
 rw [six_run,five_state n h0 h1,ha]
 constructor
 ·show (s1C.wrDo 0 (opC 0) flA x).up = _
  unfold Sy.wrDo
  rw [atC,textC]
  unfold Sy.keepDo
  rw [textC]
  split
  ·rename_i h
   rw [if_pos (show (wantC x).data.toList = oneB.data.toList from h)]
   exact upC
  ·rename_i h
   rw [if_neg (show ¬ (wantC x).data.toList = oneB.data.toList from h),if_neg (by decide)]
   exact haveC (wantC x)
 ·rw [List.getElem?_append_right (by rw [hl];exact Nat.le_refl _),hl]
  rfl
theorem copy_small (n : Int) : ∀ c ∈ copyFive n,c.Small:=by
 intro c hc
 simp only [copyFive,List.mem_cons,List.not_mem_nil,or_false] at hc
 rcases hc with rfl | rfl | rfl | rfl | rfl <;> exact ⟨Nat.le_of_ble_eq_true rfl,Nat.le_of_ble_eq_true rfl,Nat.le_of_ble_eq_true rfl⟩
theorem copy_play1 (n : Int) (h0 : 0 ≤ n) (h1 : n ≤ 100) (W : World) (b b' H cc : Nat) (hU : UnOK W ⟨none,0,[]⟩ [⟨some ⟨b,0,none⟩,3,base6⟩] (some ⟨b',0,none⟩) 1) (hG : Gl W.heap.size W) (hC : LiesC W (some ⟨H,0,none⟩) (copyFive n)) :
  Calls Tryz.prog 16 #[.agg #[.slice none 0 0,.slice (some ⟨b',0,none⟩) 1 1],.slice (some ⟨H,0,none⟩) 5 cc] W (fun r w' => ∃ a0 c0 a1 k1 c1 ps sn sc op b ac,r = .returned (.tuple #[.agg #[.slice a0 0 c0,.slice a1 k1 c1,.slice ps sn sc,.int .i64 op],.slice (some ⟨b,0,none⟩) 5 ac,.int .i64 0]) ∧ Below W.heap.size W w'):=by
 refine (top_play (copyFive n) 5 rfl (by show 5 ≤ 80;decide) (by simp [copyFive]) (copy_small n) W b b' H cc hU hG hC).mono fun r w' ⟨y,pl,cl,ps,sc,yn,ln,sn,op,b1,ac,e,hB,hx⟩ => ?_
 obtain ⟨e1,_⟩:=hx.out
 have hz : yn = 0:=by rw [e1,five_state n h0 h1,upC];rfl
 rw [hz] at e
 exact ⟨_,_,_,_,_,_,_,_,_,_,_,e,hB⟩
theorem copy_play2 (n : Int) (h0 : 0 ≤ n) (h1 : n ≤ 100) (x : ByteArray) (hx : x.size ≤ 90) (W : World) (b b' H cc : Nat) (hU : UnOK W ⟨none,0,[]⟩ [⟨some ⟨b,0,none⟩,3,base6⟩] (some ⟨b',0,none⟩) 1) (hG : Gl W.heap.size W) (hC : LiesC W (some ⟨H,0,none⟩) (copyFive n ++ [copyW x])) :
  Calls Tryz.prog 16 #[.agg #[.slice none 0 0,.slice (some ⟨b',0,none⟩) 1 1],.slice (some ⟨H,0,none⟩) 6 cc] W (fun r w' => ∃ a0 yn c0 a1 k1 c1 ps sn sc op b ac,r = .returned (.tuple #[.agg #[.slice a0 yn c0,.slice a1 k1 c1,.slice ps sn sc,.int .i64 op],.slice (some ⟨b,0,none⟩) 6 ac,.int .i64 0]) ∧ Below W.heap.size W w' ∧ w'.cell? ⟨b,21,none⟩ = some (.int .i64 x.size) ∧ (((wantC x).data.toList = oneB.data.toList ∧ yn = 0) ∨ (¬ (wantC x).data.toList = oneB.data.toList ∧ yn = 2 ∧ ∃ g off,a0 = some ⟨g,off,none⟩ ∧ w'.cell? ⟨g,off + 4,none⟩ = some (.string pathA) ∧ w'.cell? ⟨g,off + 6,none⟩ = some (.string (wantC x))))):=by
 refine (top_play (copyFive n ++ [copyW x]) 6 rfl (by show 6 ≤ 80;decide) (by simp [copyFive]) (fun c hc => by
  rcases List.mem_append.1 hc with hc | hc
  ·exact copy_small n c hc
  ·rw [List.mem_singleton] at hc
   subst hc
   exact ⟨Nat.le_of_ble_eq_true rfl,Nat.le_of_ble_eq_true rfl,by show x.size ≤ _;omega⟩) W b b' H cc hU hG hC).mono fun r w' ⟨y,pl,cl,ps,sc,yn,ln,sn,op,b1,ac,e,hB,hh⟩ => ?_
 obtain ⟨e1,_,e3,e4⟩:=hh.out
 obtain ⟨hu,ha⟩:=six_up n h0 h1 x hx
 rw [hu] at e1 e3
 cases h5 : (runB (copyFive n ++ [copyW x])).2[5]? with
 | none => rw [h5] at ha;cases ha
 | some a =>
  rw [h5] at ha
  have han : a.n = x.size:=by simpa using ha
  obtain ⟨_,_,_,_,g1,_⟩:=e4 5 a h5
  rw [han] at g1
  refine ⟨_,_,_,_,_,_,_,_,_,_,_,_,e,hB,g1,?_⟩
  by_cases hw : (wantC x).data.toList = oneB.data.toList
  ·rw [if_pos hw] at e1
   exact .inl ⟨hw,e1⟩
  ·rw [if_neg hw] at e1 e3
   refine .inr ⟨hw,e1,?_⟩
   rcases e3 with e3 | ⟨g,off,hp,_,hc⟩
   ·cases e3
   ·exact ⟨g,off,hp,hc 1 _ rfl 0 _ rfl,hc 1 _ rfl 2 _ rfl⟩
theorem rowCs_new2 (W : World) (l : List Cl) (n : Nat) (hn : n = l.length) (h8 : l.length ≤ 100) (base : Nat) (hb : base ≤ W.heap.size) (arr : Array Value) (harr : arr = (l.flatMap encC).toArray) : RowsC (W.alloc (.cells arr 50)) base (.slice (some ⟨W.heap.size,0,none⟩) n n) l:=by
 subst hn harr
 exact ⟨flatC_len l,.inr ⟨W.heap.size,l.length,_,rfl,hb,heap_alloc_last W _,Nat.le_refl _,by unfold maxLen;omega,by rw [List.size_toArray];exact flatC_len l,by rw [← flatC_len l];exact List.take_length⟩⟩
theorem append_full {ops : Array Oper} {rest : List Oper} {o : Oper} {a : Act} {Q : Exit → Act → World → Prop} (X : World) (y : Cl) (hgd : o.guard = none) (s x : Operand)
  (ho : o.op = .call { callee:=.builtin .append,args:=#[s,x],argTypes:=#[27,27] }) (base g n : Nat) (l : List Cl) (hnl : n = l.length) (hs : a.eval s = .slice (some ⟨g,0,none⟩) n n) (hrow : RowsC X base (.slice (some ⟨g,0,none⟩) n n) l) (hlen : l.length ≤ 20000)
  (hx : a.eval x = .slice (some ⟨X.heap.size,0,none⟩) 1 1)
  (h : ∀ g' c w',LiesC w' (some ⟨g',0,none⟩) (l ++ [y]) → Below X.heap.size X w' → wpList Tryz.prog ops Q rest (a.put o.dst (.slice (some ⟨g',0,none⟩) (n + 1) c)) w') :
  wpList Tryz.prog ops Q (o :: rest) a (X.alloc (.cells #[.int .i64 y.kind,.int .i64 y.owner,.int .i64 y.fd,.int .i64 y.n,.int .i64 y.m,.string y.path,.string y.to,.string y.text,.bool y.alone] 50)):=by
 subst hnl
 obtain ⟨i0,hi,hz0,hz1,hz2⟩:=infoC
 obtain ⟨arr,harr⟩ : ∃ arr : Array Value,arr = #[.int .i64 y.kind,.int .i64 y.owner,.int .i64 y.fd,.int .i64 y.n,.int .i64 y.m,.string y.path,.string y.to,.string y.text,.bool y.alone]:=⟨_,rfl⟩
 rw [← harr]
 have hrow2:=World.ownsRow.alloc hrow (.cells arr 50)
 have hB0 : Below X.heap.size X (X.alloc (.cells arr 50)):=(Below.refl _ X).alloc (Nat.le_refl _) _
 have hnew:=rowCs_new X [y] arr (by rw [harr];simp [encC])
 have hsz : (X.alloc (.cells arr 50)).heap.size = X.heap.size + 1:=by simp
 generalize X.alloc (.cells arr 50) = Z at *
 obtain ⟨hl1,_⟩:=id hrow2
 refine wpList_append_grows Z hgd s x 27 ho 50 i0 _ 9 96 Tryz.underlying27 hi hz0 hz1 hz2 rfl (by decide) (some ⟨g,0,none⟩) l.length l.length (l.flatMap encC) hs nofun hl1 (fun b hb => by cases hb;exact World.ownsRow.cells hrow2 rfl) ⟨X.heap.size,0,none⟩ 1 1 ([y].flatMap encC) hx rfl hnew (fun u hu => flatC_one (t:=[y]) hu) (by omega) (by unfold maxLen;omega) (by omega) ?_
 intro v' w' hown hgrow
 have hR : RowsC w' Z.heap.size v' (l ++ [y]):=by simpa [RowsC] using hown
 obtain ⟨g',c,rfl,hC⟩:=rowC_lies hR (by simp)
 have hll : (l ++ [y]).length = l.length + 1:=by simp
 rw [hll]
 exact h g' c w' hC (hB0.grown hgrow (by omega) (fun k hk => by simp at hk))
theorem want_none : (ByteArray.mk #[]) ++ (ByteArray.mk #[111,110,101]).extract (ByteArray.mk #[]).size 3 = oneB:=by kernel_rfl
theorem want_short (x : ByteArray) (h : x.size < 3) : x ++ (ByteArray.mk #[111,110,101]).extract x.size 3 = wantC x:=by
 unfold wantC wrText
 split
 ·rename_i h0
  have : x = ⟨#[]⟩:=ba_ext h0
  subst this
  exact want_none
 ·have h0 : sizedL oneB 0 = ⟨#[]⟩:=by kernel_rfl
  have h1 : (min (0 + (x.size : Int)) oneB.size).toNat = x.size:=by have : oneB.size = 3:=rfl;omega
  rw [h0,h1]
  apply ba_ext
  simp [oneB]
  have h3 : (ByteArray.mk #[111,110,101]).size = 3:=rfl
  omega
theorem copy_play3 (n : Int) (h0 : 0 ≤ n) (h1 : n ≤ 100) (x : ByteArray) (hx : x.size ≤ 90) (T : ByteArray) (hT : T = wantC x) (W : World) (b b' H cc : Nat) (hU : UnOK W ⟨none,0,[]⟩ [⟨some ⟨b,0,none⟩,3,base6⟩] (some ⟨b',0,none⟩) 1) (hG : Gl W.heap.size W) (hC : LiesC W (some ⟨H,0,none⟩) (copyFive n ++ [copyW x])) :
  Calls Tryz.prog 16 #[.agg #[.slice none 0 0,.slice (some ⟨b',0,none⟩) 1 1],.slice (some ⟨H,0,none⟩) 6 cc] W (fun r w' => ∃ a0 yn c0 a1 k1 c1 ps sn sc op b ac,r = .returned (.tuple #[.agg #[.slice a0 yn c0,.slice a1 k1 c1,.slice ps sn sc,.int .i64 op],.slice (some ⟨b,0,none⟩) 6 ac,.int .i64 0]) ∧ Below W.heap.size W w' ∧ w'.cell? ⟨b,21,none⟩ = some (.int .i64 x.size) ∧ (((T.toList == [111,110,101]) = true ∧ yn = 0) ∨ ((T.toList == [111,110,101]) = false ∧ yn = 2 ∧ ∃ g off,a0 = some ⟨g,off,none⟩ ∧ (∀ o,(w'.alloc o).cell? ⟨g,off + 4,none⟩ = some (.string ⟨#[100,105,114,47,97]⟩)) ∧ (∀ o,(w'.alloc o).cell? ⟨g,off + 6,none⟩ = some (.string T))))):=by
 subst hT
 refine (copy_play2 n h0 h1 x hx W b b' H cc hU hG hC).mono fun r w' ⟨a0,yn,c0,a1,k1,c1,ps,sn,sc,op,b1,ac,e,hB,q,hE⟩ => ⟨a0,yn,c0,a1,k1,c1,ps,sn,sc,op,b1,ac,e,hB,q,?_⟩
 rcases hE with ⟨hw,hy⟩ | ⟨hw,hy,g,off,ha,q4,q6⟩
 ·exact .inl ⟨beq_lit _ _ true (by rw [hw];rfl),hy⟩
 ·exact .inr ⟨beq_lit _ _ false (by simpa [oneB] using hw),hy,g,off,ha,fun o => Lib.cell?_alloc_some o q4,fun o => Lib.cell?_alloc_some o q6⟩
set_option maxRecDepth 100000 in
set_option maxHeartbeats 1000000 in
theorem topCopy_in (x : ByteArray) (n : Nat) (hx : x.size ≤ 90) (hn : n ≤ 100) (h3 : (x.size : Int) < 3) (w : World) (hg : Gl w.heap.size w) : TrueC 10 #[.string x,.int .i64 n] w:=by
 have hal:=topAlive_any w hg
 have hp1:=copy_play1 n (by omega) (by omega)
 have HG : Aside (Gl w.heap.size w):=hg
 have n1 : ¬ (90 : Int) < (x.size : Int):=by omega
 have n2 : ¬ 90 < x.size:=by omega
 have n3 : ¬ (n : Int) < 0:=by omega
 have n4 : ¬ (100 : Int) < n:=by omega
 have n5 : (0 : Int) ≤ (x.size : Int):=by omega
 have n6 : (x.size : Int) ≤ 3:=by omega
 obtain ⟨T,hT⟩ : ∃ T,T = wantC x:=⟨_,rfl⟩
 have HT : Aside (T = wantC x):=hT
 have hp2:=copy_play3 n (by omega) (by omega) x hx T hT
 have hwx : x ++ (ByteArray.mk #[111,110,101]).extract x.size 3 = T:=hT ▸ want_short x (by omega)
 clear hg hx hn hT
 go_enter Tryz.func10,Tryz.ntmps10
 go_wp2_with (first
  | (go_at_call 32;refine hal.mono ?_;clear hal;rintro r w2 ⟨rfl,hB2⟩;have H2 : Aside (Below w.heap.size w w2):=hB2;clear hB2;have H4 : Aside (Below w.heap.size w w2):=H2)
  | (go_at_call 33;refine (open_call _ _ _).mono ?_;rintro r w4 ⟨rfl,hB4⟩;replace H4 : Aside (Below w.heap.size w w4):=Below.onto H4.out hB4;clear hB4)
  | (go_at_call 34;refine (on_call _ _ _ _ _).mono ?_;rintro r w4 ⟨rfl,hB4⟩;replace H4 : Aside (Below w.heap.size w w4):=Below.onto H4.out hB4;clear hB4)
  | (go_at_call 35;refine (at_call _ _ _ _).mono ?_;rintro r w4 ⟨rfl,hB4⟩;replace H4 : Aside (Below w.heap.size w w4):=Below.onto H4.out hB4;clear hB4)
  | (go_at_call 36;refine (base_any _).mono ?_;rintro r w5 ⟨b,b',rfl,hU,hB5⟩;have H5 : Aside (UnOK w5 ⟨none,0,[]⟩ [⟨some ⟨b,0,none⟩,3,base6⟩] (some ⟨b',0,none⟩) 1 ∧ Below w.heap.size w w5 ∧ LiesC w5 (some ⟨w4.heap.size,0,none⟩) (copyFive n) ∧ RowsC w5 w4.heap.size (.slice (some ⟨w4.heap.size,0,none⟩) 5 5) (copyFive n) ∧ w4.heap.size < w5.heap.size):=⟨hU,Below.onto (H4.out.alloc H4.out.size _) hB5,(liesC_new w4 (copyFive n) _ rfl).kept hB5,(rowCs_new2 w4 (copyFive n) 5 rfl (by show 5 ≤ 100;decide) w4.heap.size (Nat.le_refl _) _ rfl).at (fun g hg => hB5.block g (by simp [Value.ownBlock] at hg;subst hg;simp)),Nat.lt_of_lt_of_le (by simp) hB5.size⟩;clear hU hB5 H4)
  | (go_at_call 16;refine (hp1 w5 b b' _ _ H5.out.1 (HG.out.up H5.out.2.1) H5.out.2.2.1).mono ?_;clear hp1;rintro r w6 ⟨a0,c0,a1,k1,c1,ps,sn,sc,op,b1,ac,rfl,hB6⟩;have H6 : Aside (Below w.heap.size w w6 ∧ RowsC w6 w4.heap.size (.slice (some ⟨w4.heap.size,0,none⟩) 5 5) (copyFive n) ∧ w4.heap.size < w6.heap.size):=⟨Below.onto H5.out.2.1 hB6,H5.out.2.2.2.1.at (fun g hg => hB6.block g (by simp [Value.ownBlock] at hg;subst hg;exact H5.out.2.2.2.2)),Nat.lt_of_lt_of_le H5.out.2.2.2.2 hB6.size⟩;clear hB6 H5)
  | (go_at_call 36;refine (base_any _).mono ?_;rintro r w7 ⟨d,d',rfl,hU,hB7⟩;have s7:=(hB7.cell (p:=⟨w6.heap.size,0,none⟩) (by simp)).trans (by simp : (w6.alloc (.cells #[.slice a0 0 c0,.slice a1 k1 c1,.slice ps sn sc,.int .i64 op] 29)).cell? ⟨w6.heap.size,0,none⟩ = some (.slice a0 0 c0));have l7 : w6.heap.size < w7.heap.size:=Nat.lt_of_lt_of_le (by simp) hB7.size;have H7 : Aside (UnOK w7 ⟨none,0,[]⟩ [⟨some ⟨d,0,none⟩,3,base6⟩] (some ⟨d',0,none⟩) 1 ∧ Below w.heap.size w w7 ∧ RowsC w7 w4.heap.size (.slice (some ⟨w4.heap.size,0,none⟩) 5 5) (copyFive n) ∧ w4.heap.size < w7.heap.size):=⟨hU,Below.onto (H6.out.1.alloc H6.out.1.size _) hB7,H6.out.2.1.at (fun g hg => (hB7.block g (by simp [Value.ownBlock] at hg;subst hg;have:=H6.out.2.2;simp;omega)).trans (((Grown.refl w6).alloc _).below.block g (by simp [Value.ownBlock] at hg;subst hg;exact H6.out.2.2))),Nat.lt_trans H6.out.2.2 l7⟩;clear hU hB7 H6)
  | (go_at_call 34;refine (on_call _ _ _ _ _).mono ?_;rintro r w8 ⟨rfl,hB8⟩;have s8:=(hB8.cell (p:=⟨w6.heap.size,0,none⟩) l7).trans s7;have l8:=Nat.lt_of_lt_of_le l7 hB8.size;have H8 : Aside (UnOK w8 ⟨none,0,[]⟩ [⟨some ⟨d,0,none⟩,3,base6⟩] (some ⟨d',0,none⟩) 1 ∧ Below w.heap.size w w8 ∧ RowsC w8 w4.heap.size (.slice (some ⟨w4.heap.size,0,none⟩) 5 5) (copyFive n)):=⟨H7.out.1.kept hB8,Below.onto H7.out.2.1 hB8,H7.out.2.2.1.at (fun g hg => hB8.block g (by simp [Value.ownBlock] at hg;subst hg;exact H7.out.2.2.2))⟩;clear hB8 H7 s7 l7)
  | (at_builtin;refine append_full w8 (copyW x) rfl _ _ rfl w4.heap.size w4.heap.size 5 (copyFive n) rfl rfl H8.out.2.2 (by show 5 ≤ 20000;decide) rfl ?_;intro g9 c9 w9 hC9 hB9;have s9:=(hB9.cell (p:=⟨w6.heap.size,0,none⟩) l8).trans s8;have l9:=Nat.lt_of_lt_of_le l8 hB9.size;have H9 : Aside (UnOK w9 ⟨none,0,[]⟩ [⟨some ⟨d,0,none⟩,3,base6⟩] (some ⟨d',0,none⟩) 1 ∧ Below w.heap.size w w9 ∧ LiesC w9 (some ⟨g9,0,none⟩) (copyFive n ++ [copyW x])):=⟨H8.out.1.kept hB9,Below.onto H8.out.2.1 hB9,hC9⟩;clear hB9 hC9 H8 s8 l8)
  | (go_at_call 16;refine (hp2 w9 d d' g9 c9 H9.out.1 (HG.out.up H9.out.2.1) H9.out.2.2).mono ?_;clear hp2;rintro r wa ⟨e0,yn,f0,e1,m1,f1,qs,qn,qc,oq,b2,bc,rfl,hBa,q21,HE⟩;have sa:=(hBa.cell (p:=⟨w6.heap.size,0,none⟩) l9).trans s9;have Ha : Aside (Below w.heap.size w wa):=Below.onto H9.out.2.1 hBa;replace q21:=Lib.cell?_alloc_some (.cells #[.slice e0 yn f0,.slice e1 m1 f1,.slice qs qn qc,.int .i64 oq] 29) q21;replace sa:=Lib.cell?_alloc_some (.cells #[.slice e0 yn f0,.slice e1 m1 f1,.slice qs qn qc,.int .i64 oq] 29) sa;clear hBa s9 l9 H9;rcases HE with ⟨hE,rfl⟩ | ⟨hE,rfl,g,off,rfl,q4,q6⟩))
 all_goals go_ret
 all_goals exact ⟨by simp,Ha.out.alloc Ha.out.size _⟩
theorem want_long (x : ByteArray) (h : 3 ≤ x.size) : x = wantC x:=by
 unfold wantC wrText
 split
 ·rename_i h0
  have : x.size = 0:=by rw [← szl,h0];rfl
  omega
 ·have h0 : sizedL oneB 0 = ⟨#[]⟩:=by kernel_rfl
  have h1 : (min (0 + (x.size : Int)) oneB.size).toNat = 3:=by have : oneB.size = 3:=rfl;omega
  have h2 : oneB.extract 3 oneB.size = ⟨#[]⟩:=by kernel_rfl
  rw [h0,h1,h2]
  apply ba_ext
  simp
set_option maxRecDepth 100000 in
set_option maxHeartbeats 1000000 in
theorem topCopy_long (x : ByteArray) (n : Nat) (hx : x.size ≤ 90) (hn : n ≤ 100) (h3 : ¬ (x.size : Int) < 3) (w : World) (hg : Gl w.heap.size w) : TrueC 10 #[.string x,.int .i64 n] w:=by
 have hal:=topAlive_any w hg
 have hp1:=copy_play1 n (by omega) (by omega)
 have HG : Aside (Gl w.heap.size w):=hg
 have n1 : ¬ (90 : Int) < (x.size : Int):=by omega
 have n2 : ¬ 90 < x.size:=by omega
 have n3 : ¬ (n : Int) < 0:=by omega
 have n4 : ¬ (100 : Int) < n:=by omega
 have n5 : (0 : Int) ≤ (x.size : Int):=by omega
 have hp2:=copy_play3 n (by omega) (by omega) x hx x (want_long x (by omega))
 clear hg hx hn
 go_enter Tryz.func10,Tryz.ntmps10
 go_wp2_with (first
  | (go_at_call 32;refine hal.mono ?_;clear hal;rintro r w2 ⟨rfl,hB2⟩;have H2 : Aside (Below w.heap.size w w2):=hB2;clear hB2;have H4 : Aside (Below w.heap.size w w2):=H2)
  | (go_at_call 33;refine (open_call _ _ _).mono ?_;rintro r w4 ⟨rfl,hB4⟩;replace H4 : Aside (Below w.heap.size w w4):=Below.onto H4.out hB4;clear hB4)
  | (go_at_call 34;refine (on_call _ _ _ _ _).mono ?_;rintro r w4 ⟨rfl,hB4⟩;replace H4 : Aside (Below w.heap.size w w4):=Below.onto H4.out hB4;clear hB4)
  | (go_at_call 35;refine (at_call _ _ _ _).mono ?_;rintro r w4 ⟨rfl,hB4⟩;replace H4 : Aside (Below w.heap.size w w4):=Below.onto H4.out hB4;clear hB4)
  | (go_at_call 36;refine (base_any _).mono ?_;rintro r w5 ⟨b,b',rfl,hU,hB5⟩;have H5 : Aside (UnOK w5 ⟨none,0,[]⟩ [⟨some ⟨b,0,none⟩,3,base6⟩] (some ⟨b',0,none⟩) 1 ∧ Below w.heap.size w w5 ∧ LiesC w5 (some ⟨w4.heap.size,0,none⟩) (copyFive n) ∧ RowsC w5 w4.heap.size (.slice (some ⟨w4.heap.size,0,none⟩) 5 5) (copyFive n) ∧ w4.heap.size < w5.heap.size):=⟨hU,Below.onto (H4.out.alloc H4.out.size _) hB5,(liesC_new w4 (copyFive n) _ rfl).kept hB5,(rowCs_new2 w4 (copyFive n) 5 rfl (by show 5 ≤ 100;decide) w4.heap.size (Nat.le_refl _) _ rfl).at (fun g hg => hB5.block g (by simp [Value.ownBlock] at hg;subst hg;simp)),Nat.lt_of_lt_of_le (by simp) hB5.size⟩;clear hU hB5 H4)
  | (go_at_call 16;refine (hp1 w5 b b' _ _ H5.out.1 (HG.out.up H5.out.2.1) H5.out.2.2.1).mono ?_;clear hp1;rintro r w6 ⟨a0,c0,a1,k1,c1,ps,sn,sc,op,b1,ac,rfl,hB6⟩;have H6 : Aside (Below w.heap.size w w6 ∧ RowsC w6 w4.heap.size (.slice (some ⟨w4.heap.size,0,none⟩) 5 5) (copyFive n) ∧ w4.heap.size < w6.heap.size):=⟨Below.onto H5.out.2.1 hB6,H5.out.2.2.2.1.at (fun g hg => hB6.block g (by simp [Value.ownBlock] at hg;subst hg;exact H5.out.2.2.2.2)),Nat.lt_of_lt_of_le H5.out.2.2.2.2 hB6.size⟩;clear hB6 H5)
  | (go_at_call 36;refine (base_any _).mono ?_;rintro r w7 ⟨d,d',rfl,hU,hB7⟩;have s7:=(hB7.cell (p:=⟨w6.heap.size,0,none⟩) (by simp)).trans (by simp : (w6.alloc (.cells #[.slice a0 0 c0,.slice a1 k1 c1,.slice ps sn sc,.int .i64 op] 29)).cell? ⟨w6.heap.size,0,none⟩ = some (.slice a0 0 c0));have l7 : w6.heap.size < w7.heap.size:=Nat.lt_of_lt_of_le (by simp) hB7.size;have H7 : Aside (UnOK w7 ⟨none,0,[]⟩ [⟨some ⟨d,0,none⟩,3,base6⟩] (some ⟨d',0,none⟩) 1 ∧ Below w.heap.size w w7 ∧ RowsC w7 w4.heap.size (.slice (some ⟨w4.heap.size,0,none⟩) 5 5) (copyFive n) ∧ w4.heap.size < w7.heap.size):=⟨hU,Below.onto (H6.out.1.alloc H6.out.1.size _) hB7,H6.out.2.1.at (fun g hg => (hB7.block g (by simp [Value.ownBlock] at hg;subst hg;have:=H6.out.2.2;simp;omega)).trans (((Grown.refl w6).alloc _).below.block g (by simp [Value.ownBlock] at hg;subst hg;exact H6.out.2.2))),Nat.lt_trans H6.out.2.2 l7⟩;clear hU hB7 H6)
  | (go_at_call 34;refine (on_call _ _ _ _ _).mono ?_;rintro r w8 ⟨rfl,hB8⟩;have s8:=(hB8.cell (p:=⟨w6.heap.size,0,none⟩) l7).trans s7;have l8:=Nat.lt_of_lt_of_le l7 hB8.size;have H8 : Aside (UnOK w8 ⟨none,0,[]⟩ [⟨some ⟨d,0,none⟩,3,base6⟩] (some ⟨d',0,none⟩) 1 ∧ Below w.heap.size w w8 ∧ RowsC w8 w4.heap.size (.slice (some ⟨w4.heap.size,0,none⟩) 5 5) (copyFive n)):=⟨H7.out.1.kept hB8,Below.onto H7.out.2.1 hB8,H7.out.2.2.1.at (fun g hg => hB8.block g (by simp [Value.ownBlock] at hg;subst hg;exact H7.out.2.2.2))⟩;clear hB8 H7 s7 l7)
  | (at_builtin;refine append_full w8 (copyW x) rfl _ _ rfl w4.heap.size w4.heap.size 5 (copyFive n) rfl rfl H8.out.2.2 (by show 5 ≤ 20000;decide) rfl ?_;intro g9 c9 w9 hC9 hB9;have s9:=(hB9.cell (p:=⟨w6.heap.size,0,none⟩) l8).trans s8;have l9:=Nat.lt_of_lt_of_le l8 hB9.size;have H9 : Aside (UnOK w9 ⟨none,0,[]⟩ [⟨some ⟨d,0,none⟩,3,base6⟩] (some ⟨d',0,none⟩) 1 ∧ Below w.heap.size w w9 ∧ LiesC w9 (some ⟨g9,0,none⟩) (copyFive n ++ [copyW x])):=⟨H8.out.1.kept hB9,Below.onto H8.out.2.1 hB9,hC9⟩;clear hB9 hC9 H8 s8 l8)
  | (go_at_call 16;refine (hp2 w9 d d' g9 c9 H9.out.1 (HG.out.up H9.out.2.1) H9.out.2.2).mono ?_;clear hp2;rintro r wa ⟨e0,yn,f0,e1,m1,f1,qs,qn,qc,oq,b2,bc,rfl,hBa,q21,HE⟩;have sa:=(hBa.cell (p:=⟨w6.heap.size,0,none⟩) l9).trans s9;have Ha : Aside (Below w.heap.size w wa):=Below.onto H9.out.2.1 hBa;replace q21:=Lib.cell?_alloc_some (.cells #[.slice e0 yn f0,.slice e1 m1 f1,.slice qs qn qc,.int .i64 oq] 29) q21;replace sa:=Lib.cell?_alloc_some (.cells #[.slice e0 yn f0,.slice e1 m1 f1,.slice qs qn qc,.int .i64 oq] 29) sa;clear hBa s9 l9 H9;rcases HE with ⟨hE,rfl⟩ | ⟨hE,rfl,g,off,rfl,q4,q6⟩))
 all_goals go_ret
 all_goals exact ⟨by simp,Ha.out.alloc Ha.out.size _⟩
theorem topCopy_out (x : ByteArray) (n : Int) (h : 90 < (x.size : Int) ∨ n < 0 ∨ 100 < n) (w : World) (hg : Gl w.heap.size w) : TrueC 10 #[.string x,.int .i64 n] w:=by
 have hal:=topAlive_any w hg
 clear hg
 have h1 : ¬ (((x.size : Int) ≤ 90 ∧ 0 ≤ n) ∧ n ≤ 100):=by omega
 have h2 : (decide (90 < (x.size : Int)) || decide (n < 0) || decide (100 < n)) = true:=by
  simp only [Bool.or_eq_true,decide_eq_true_eq]
  omega
 go_enter Tryz.func10,Tryz.ntmps10
 go_wp2_with (first
  | (go_at_call 32;refine hal.mono ?_;clear hal;rintro r w2 ⟨rfl,hB2⟩;have H2 : Aside (Below w.heap.size w w2):=hB2;clear hB2))
 all_goals go_ret
 all_goals exact ⟨rfl,H2.out⟩
theorem topCopy_law (x : ByteArray) (n : Int) (w : World) (hg : Gl w.heap.size w) : TrueC 10 #[.string x,.int .i64 n] w:=by
 by_cases h : 90 < (x.size : Int) ∨ n < 0 ∨ 100 < n
 ·exact topCopy_out x n h w hg
 ·obtain ⟨a,rfl⟩:=Int.eq_ofNat_of_zero_le (show 0 ≤ n by omega)
  by_cases h3 : (x.size : Int) < 3
  ·exact topCopy_in x a (by omega) (by omega) h3 w hg
  ·exact topCopy_long x a (by omega) (by omega) h3 w hg
end Go.Proofs.YthfeoiffoeagkaaGreatDoor
