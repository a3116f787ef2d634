/-
  The whole: what the statements are made of.
-/
import Derived.Test.YthfeoiffoeagkaaGreatDoorVA41
import Derived.KernelRfl
namespace Go.Proofs.YthfeoiffoeagkaaGreatDoor
open Go.RowKit PM Go.Sort
set_option linter.unusedVariables false
theorem open_call (p : ByteArray) (n : Int) (w : World) : Calls Tryz.prog 33 #[.string p,.int .i64 n] w fun r w' => r = .returned (.agg #[.int .i64 1,.int .i64 0,.int .i64 0,.int .i64 n,.int .i64 0,.string p,.string ⟨#[]⟩,.string ⟨#[]⟩,.bool false]) ∧ Below w.heap.size w w':=by
 go_enter Tryz.func33,Tryz.ntmps33
 go_wp2
 exact bodyPost_ret (v:=.agg #[.int .i64 1,.int .i64 0,.int .i64 0,.int .i64 n,.int .i64 0,.string p,.string ⟨#[]⟩,.string ⟨#[]⟩,.bool false]) (by simp [results,Tryz.results33,go_sem]) rfl ⟨rfl,((Grown.refl w).alloc _).below⟩
theorem on_call (k f n : Int) (p : ByteArray) (w : World) : Calls Tryz.prog 34 #[.int .i64 k,.int .i64 f,.int .i64 n,.string p] w fun r w' => r = .returned (.agg #[.int .i64 k,.int .i64 0,.int .i64 f,.int .i64 n,.int .i64 0,.string ⟨#[]⟩,.string ⟨#[]⟩,.string p,.bool false]) ∧ Below w.heap.size w w':=by
 go_enter Tryz.func34,Tryz.ntmps34
 go_wp2
 exact bodyPost_ret (v:=.agg #[.int .i64 k,.int .i64 0,.int .i64 f,.int .i64 n,.int .i64 0,.string ⟨#[]⟩,.string ⟨#[]⟩,.string p,.bool false]) (by simp [results,Tryz.results34,go_sem]) rfl ⟨rfl,((Grown.refl w).alloc _).below⟩
theorem at_call (k : Int) (p q : ByteArray) (w : World) : Calls Tryz.prog 35 #[.int .i64 k,.string p,.string q] w fun r w' => r = .returned (.agg #[.int .i64 k,.int .i64 0,.int .i64 0,.int .i64 0,.int .i64 0,.string p,.string q,.string ⟨#[]⟩,.bool false]) ∧ Below w.heap.size w w':=by
 go_enter Tryz.func35,Tryz.ntmps35
 go_wp2
 exact bodyPost_ret (v:=.agg #[.int .i64 k,.int .i64 0,.int .i64 0,.int .i64 0,.int .i64 0,.string p,.string q,.string ⟨#[]⟩,.bool false]) (by simp [results,Tryz.results35,go_sem]) rfl ⟨rfl,((Grown.refl w).alloc _).below⟩
def base6 : List Ent:=[⟨⟨#[100,105,114]⟩,2,⟨#[]⟩,false⟩,⟨⟨#[100,105,114,47,97]⟩,1,⟨#[111,110,101]⟩,false⟩,⟨⟨#[100,105,114,47,98]⟩,1,⟨#[116,119,111]⟩,false⟩]
def base6Cells : Array Value:=#[.string ⟨#[100,105,114]⟩,.int .i64 2,.string ⟨#[]⟩,.bool false,.string ⟨#[100,105,114,47,97]⟩,.int .i64 1,.string ⟨#[111,110,101]⟩,.bool false,.string ⟨#[100,105,114,47,98]⟩,.int .i64 1,.string ⟨#[116,119,111]⟩,.bool false]
theorem base6_right : (wrongU [[],base6]).1 = 0:=by decide
theorem base6_fits : Fits base6:=by
 intro e he
 simp [base6] at he
 rcases he with rfl | rfl | rfl <;> exact ⟨by show (ByteArray.mk _).size ≤ _;unfold maxLen;decide,by show (ByteArray.mk _).size ≤ _;unfold maxLen;decide⟩
theorem base_any (w : World) : Calls Tryz.prog 36 #[] w fun r w' => ∃ b b',r = .returned (.agg #[.slice none 0 0,.slice (some ⟨b',0,none⟩) 1 1]) ∧ UnOK w' ⟨none,0,[]⟩ [⟨some ⟨b,0,none⟩,3,base6⟩] (some ⟨b',0,none⟩) 1 ∧ Below w.heap.size w w':=by
 go_enter Tryz.func36,Tryz.ntmps36
 go_wp2
 refine bodyPost_ret (v:=.agg #[.slice none 0 0,.slice (some ⟨w.heap.size + 1 + 1,0,none⟩) 1 1]) (by simp [results,Tryz.results36,go_sem]) rfl ?_
 have hO:=(own_alloc (w.alloc (.cells #[.slice none 0 0,.slice (some ⟨w.heap.size + 1 + 1,0,none⟩) 1 1] 26)) base6Cells 3 base6 rfl (by decide) (by unfold maxLen;decide) (fun k v hk => by
   have : (base6.flatMap encE) = base6Cells.toList:=rfl
   rw [this,Array.getElem?_toList] at hk;exact hk)).grown ((Grown.refl _).alloc (.cells #[.slice (some ⟨w.heap.size + 1,0,none⟩) 3 3] 23))
 have hs : (w.alloc (.cells #[.slice none 0 0,.slice (some ⟨w.heap.size + 1 + 1,0,none⟩) 1 1] 26)).heap.size = w.heap.size + 1:=World.size_alloc _ _
 rw [hs] at hO
 refine ⟨w.heap.size + 1,w.heap.size + 1 + 1,rfl,⟨⟨Lies.nil _ _,fun e he => by simp at he,Nat.le_refl _,by decide⟩,fun _ => rfl,.inr ⟨w.heap.size + 1 + 1,0,rfl,by simp,fun j x hx => ?_⟩,fun x hx => ?_,nofun,Nat.le_refl _⟩,(((Below.refl _ _).alloc (Nat.le_refl _) _).alloc (by simp) _).alloc (by simp;omega) _⟩
 ·cases j with
  | zero =>
   simp at hx
   subst hx
   exact cell_top2 _ _ (by simp) _ _
  | succ j => simp at hx
 ·rw [List.mem_singleton] at hx
  subst hx
  exact ⟨⟨hO.lies,base6_fits,Nat.le_refl _,by show base6.length < _;decide⟩,nofun⟩
noncomputable def runB (l : List Cl) : Sy × List An:=(startS [] [base6]).run l
def TopPost (l : List Cl) (n : Nat) (W : World) (r : Ending) (w' : World) : Prop:=∃ (y : Lay) (pl : Option Addr) (cl : Nat) (ps : Option Addr) (sc yn ln sn op b ac : Nat),r = .returned (.tuple #[.agg #[.slice y.ad yn y.cap,.slice pl ln cl,.slice ps sn sc,.int .i64 op],.slice (some ⟨b,0,none⟩) n ac,.int .i64 0]) ∧ Below W.heap.size W w' ∧ Aside (yn = (runB l).1.up.length ∧ sn = (runB l).1.seen.length ∧ Lies w' y.ad (runB l).1.up ∧ ∀ i a,(runB l).2[i]? = some a → ∃ (q : Option Addr) (c : Nat) (bs : List ByteArray),w'.cell? ⟨b,i * 4,none⟩ = some (.int .i64 a.err) ∧ w'.cell? ⟨b,i * 4 + 1,none⟩ = some (.int .i64 a.n) ∧ w'.cell? ⟨b,i * 4 + 2,none⟩ = some (.string a.text) ∧ w'.cell? ⟨b,i * 4 + 3,none⟩ = some (.slice q bs.length c) ∧ bs.map (·.data.toList) = a.names ∧ LiesS w' q bs)
theorem top_play (l : List Cl) (n : Nat) (hn : n = l.length) (h80 : l.length ≤ 80) (h1 : l ≠ []) (hs : ∀ c ∈ l,c.Small) (W : World) (b b' H cc : Nat) (hU : UnOK W ⟨none,0,[]⟩ [⟨some ⟨b,0,none⟩,3,base6⟩] (some ⟨b',0,none⟩) 1) (hG : Gl W.heap.size W) (hC : LiesC W (some ⟨H,0,none⟩) l) :
  Calls Tryz.prog 16 #[.agg #[.slice none 0 0,.slice (some ⟨b',0,none⟩) 1 1],.slice (some ⟨H,0,none⟩) n cc] W (TopPost l n W):=by
 subst hn
 have h:=play_any ⟨none,0,[]⟩ [⟨some ⟨b,0,none⟩,3,base6⟩] (some ⟨b',0,none⟩) 1 (some ⟨H,0,none⟩) cc l W hU hG base6_right h80 hC hs
 refine h.mono fun r w' ⟨y,lo,pl,cl,ps,sc,yn,ln,sn,op,pa,na,ac,e,hB,hx⟩ => ?_
 obtain ⟨e1,e2,e3,e4,e5,e6,e7,e8,e9,e10,e11,e12,e13,e14⟩:=hx.out
 have h3 : na = l.length:=by rw [e11,run_len]
 subst h3
 rcases e14 with e14 | ⟨b1,hp,_,hc⟩
 ·rw [e14] at e11
  exact absurd (List.length_eq_zero_iff.1 e11) h1
 ·subst hp
  refine ⟨y,pl,cl,ps,sc,yn,ln,sn,op,b1,ac,e,hB,⟨by rw [e1,e5];rfl,e3,?_,fun i a ha => ?_⟩⟩
  ·have:=e7.up.lies
   rw [e5] at this
   exact this
  ·obtain ⟨q,c,bs,c0,c1,c2,c3,c4,c5,c6,c7⟩:=hc i a ha
   exact ⟨q,c,bs,c0,c1,c2,c3,c4,c7⟩
def callsA : List Cl:=[⟨1,0,0,6,0,⟨#[100,105,114,47,97]⟩,⟨#[]⟩,⟨#[]⟩,false⟩,⟨4,0,0,0,0,⟨#[]⟩,⟨#[]⟩,⟨#[33]⟩,false⟩,⟨12,0,0,0,0,⟨#[100,105,114,47,97]⟩,⟨#[]⟩,⟨#[]⟩,false⟩]
set_option maxRecDepth 1000000 in
theorem runA_text : ((runB callsA).2[2]?).map (·.text.data.toList) = some [111,110,101,33]:=by decide +kernel
set_option maxRecDepth 1000000 in
theorem runA_up : (runB callsA).1.up.length = 2:=by decide +kernel
theorem an_text {l : List An} {i : Nat} {t : ByteArray} (h : (l[i]?).map (·.text.data.toList) = some t.data.toList) : ∃ a,l[i]? = some a ∧ a.text = t:=by
 cases ha : l[i]? with
 | none => rw [ha] at h;cases h
 | some a => rw [ha] at h;exact ⟨a,rfl,ba_ext (by simpa using h)⟩
set_option maxRecDepth 100000 in
set_option maxHeartbeats 1000000 in
theorem topAlive_any (w : World) (hg : Gl w.heap.size w) : Calls Tryz.prog 32 #[] w fun r w' => r = .returned (.bool true) ∧ Below w.heap.size w w':=by
 have hbase:=base_any w
 have hpl : ∀ (W : World) (b b' : Nat) (H cc : Nat),UnOK W ⟨none,0,[]⟩ [⟨some ⟨b,0,none⟩,3,base6⟩] (some ⟨b',0,none⟩) 1 → Gl W.heap.size W → LiesC W (some ⟨H,0,none⟩) callsA →
   Calls Tryz.prog 16 #[.agg #[.slice none 0 0,.slice (some ⟨b',0,none⟩) 1 1],.slice (some ⟨H,0,none⟩) 3 cc] W (fun r w' => ∃ a0 c0 a1 k1 c1 ps sn sc op b ac,r = .returned (.tuple #[.agg #[.slice a0 2 c0,.slice a1 k1 c1,.slice ps sn sc,.int .i64 op],.slice (some ⟨b,0,none⟩) 3 ac,.int .i64 0]) ∧ w'.cell? ⟨b,10,none⟩ = some (.string ⟨#[111,110,101,33]⟩) ∧ Below W.heap.size W w'):=fun W b b' H cc hU hG hC => by
  refine (top_play callsA 3 rfl (by decide) (by simp [callsA]) (fun c hc => by simp [callsA] at hc;rcases hc with rfl | rfl | rfl <;> exact ⟨by decide,by decide,by decide⟩) W b b' H cc hU hG hC).mono fun r w' ⟨y,pl,cl,ps,sc,yn,ln,sn,op,b1,ac,e,hB,hx⟩ => ?_
  obtain ⟨e1,e2,e3,e4⟩:=hx.out
  obtain ⟨a,ha,ht⟩:=an_text (t:=⟨#[111,110,101,33]⟩) runA_text
  obtain ⟨_,_,_,_,_,hc2,_⟩:=e4 2 a ha
  rw [ht] at hc2
  rw [show yn = 2 from e1.trans runA_up] at e
  exact ⟨_,_,_,_,_,_,_,_,_,_,_,e,hc2,hB⟩
 have HG : Aside (Gl w.heap.size w):=hg
 clear hg
 go_enter Tryz.func32,Tryz.ntmps32
 go_wp2_with (first
  | (go_at_call 36;refine hbase.mono ?_;clear hbase;rintro r w3 ⟨b,b',rfl,hU,hB3⟩;have H3 : Aside (UnOK w3 ⟨none,0,[]⟩ [⟨some ⟨b,0,none⟩,3,base6⟩] (some ⟨b',0,none⟩) 1 ∧ Below w.heap.size w w3):=⟨hU,hB3⟩;clear hU hB3)
  | (go_at_call 33;refine (open_call _ _ _).mono ?_;rintro r w4 ⟨rfl,hB4⟩;have H4 : Aside (Below w3.heap.size w3 w4):=hB4;clear hB4)
  | (go_at_call 34;refine (on_call _ _ _ _ _).mono ?_;rintro r w5 ⟨rfl,hB5⟩;have H5 : Aside (Below w3.heap.size w3 w5):=Below.onto H4.out hB5;clear hB5)
  | (go_at_call 35;refine (at_call _ _ _ _).mono ?_;rintro r w6 ⟨rfl,hB6⟩;have H6 : Aside (Below w3.heap.size w3 w6):=Below.onto H5.out hB6;clear hB6)
  | (go_at_call 16;have HB : Aside (Below w3.heap.size w3 (w6.alloc (.cells (callsA.flatMap encC).toArray 50))):=Below.onto H6.out ((Grown.refl w6).alloc _).below;refine (hpl _ b b' _ _ (H3.out.1.kept HB.out) (HG.out.up (Below.onto H3.out.2 HB.out)) (liesC_new w6 callsA _ rfl)).mono ?_;clear hpl;rintro r w7 ⟨a0,c0,a1,k1,c1,ps,sn,sc,op,b1,ac,rfl,hc,hB7⟩;have H7 : Aside (Below w.heap.size w w7):=Below.onto (Below.onto H3.out.2 HB.out) hB7;have hc':=Lib.cell?_alloc_some (.cells #[.slice a0 2 c0,.slice a1 k1 c1,.slice ps sn sc,.int .i64 op] 29) hc;clear hB7))
 go_ret
 exact ⟨rfl,H7.out.alloc H7.out.size _⟩
def pathA : ByteArray:=⟨#[100,105,114,47,97]⟩
def flA : Fl:=⟨pathA,⟨#[]⟩,[]⟩
def entD6 : Ent:=⟨⟨#[100,105,114]⟩,2,⟨#[]⟩,false⟩
def entB6 : Ent:=⟨⟨#[100,105,114,47,98]⟩,1,⟨#[116,119,111]⟩,false⟩
theorem wrongX (x : ByteArray) (hx : x.size ≤ 100) : wrongE ⟨pathA,1,x,false⟩ false = 0:=by
 unfold wrongE
 have hc : clean (Ent.p ⟨pathA,1,x,false⟩) = true:=by kernel_rfl
 rw [hc]
 simp
 omega
theorem ba_whole (x : ByteArray) : x.extract 0 x.size = x:=by simp
theorem readT_all (x : ByteArray) (hx : x.size ≤ 100) : readT x 0 100 = x:=by
 unfold readT
 have h1 : (min (0 : Int) x.size).toNat = 0:=by omega
 have h3 : (min (100 : Int) x.size).toNat = x.size:=by omega
 rw [h1,ba_whole,h3,ba_whole]
end Go.Proofs.YthfeoiffoeagkaaGreatDoor
