/-
  SysLower.
-/
import Derived.Test.YthfeoiffoeagkaaGreatDoorZA52
namespace Go.Proofs.YthfeoiffoeagkaaGreatDoor
open Go.RowKit PM Go.Sort
set_option linter.unusedVariables false
namespace PM
theorem Lb (s:Sy) (q:ByteArray):(s.fileAt q).1.lows=s.lows:=by
 unfold Sy.fileAt
 split <;> rfl
theorem KP (s:Sy) (i:Nat) (f:Fl) (t:ByteArray):(s.eB i f t).lows=s.lows:=by
 unfold Sy.eB
 split
 ·rfl
 ·split <;> rfl
theorem LX (s:Sy) (ow k:Nat) (ck cn cm:Int) (cx:ByteArray) (ca:Bool) (j:Nat) (op:Opn) (f:Fl):(s.onR ow k ck cn cm cx ca j op f).2.1.lows=s.lows:=by
 unfold Sy.onR
 split;rfl
 split;rfl
 split;rfl
 split;rfl
 split;rfl
 split;rfl
 split
 ·show (s.eB _ _ _).lows=s.lows
  exact KP _ _ _ _
 ·exact KP _ _ _ _
theorem LP (s:Sy) (ow:Nat) (ck cf cn cm:Int) (cx:ByteArray) (ca:Bool):(s.numR ow ck cf cn cm cx ca).2.1.lows=s.lows:=by
 unfold Sy.numR
 split
 ·rfl
 ·split
  ·rfl
  ·split
   ·rfl
   ·split
    ·rfl
    ·exact LX _ _ _ _ _ _ _ _ _ _ _
theorem LG (s:Sy) (c:Cl):(s.eY c).2.1.lows=s.lows:=by
 unfold Sy.eY
 split;rfl
 split;rfl
 split
 ·show (s.jw _ _ _).lows=s.lows
  unfold Sy.jw Sy.opened
  show ((s.aJ _ s.lows).fileAt _).1.lows=s.lows
  rw [Lb]
  rfl
 split;rfl
 split;rfl
 split;rfl
 split;rfl
 split;rfl
 split;rfl
 exact LP _ _ _ _ _ _ _ _
theorem La (s:Sy) (c:Cl):(s.answer c).1.lows=s.lows:=by
 unfold Sy.answer
 split
 ·exact LG s c
 ·rfl
theorem K5:∀ (l:List Cl) (s:Sy),(s.run l).1.lows=s.lows
 | [],s=>rfl
 | c::r,s=>by rw [Sy.run];show ((s.answer c).1.run r).1.lows=_;rw [K5 r,La]
end PM
theorem fQ.KY (w:World):∀ x∈([]:List Lay),fQ w x:=fun x hx=>by simp at hx
theorem KJ (w:World):sH 18 #[.agg #[.slice none 0 0,.slice none 0 0,.slice none 0 0,.int .i64 0],.agg #[.slice none 0 0,.slice none 0 0,.slice none 0 0,.int .i64 0]] w :=
 Kh [] [] [] 0 none none 0 0 [] [] none none 0 0 none none 0 0 0 0 0 0 rfl rfl rfl rfl w (Lies.nil _ _) (Lies.nil _ _) (by decide) (.inl rfl) (.inl rfl) (fQ.KY w) (fQ.KY w) rfl rfl (by decide) (Lies.nil _ _) (Lies.nil _ _) (by decide)
theorem Lu {w:World} {y:Lay} {lo:List Lay} {pl:Option Addr} {cl yn ln sn:Nat} {sf:Sy} (hU:UnOK w y lo pl cl) (hg:Gl w.heap.size w) (e1:yn=y.es.length) (e2:ln=lo.length) (e3:sn=sf.seen.length) (h1:y.es=sf.up) (h2:lo.map (·.es)=sf.lows) (hG:sf.Good) :
  Calls Tryz.prog 21 #[.agg #[.slice y.ad yn y.cap,.slice pl ln cl]] w (fun r w'=>∃ p c,r=.returned (.tuple #[.slice p sn c,.int .i64 0])∧Aside (Lies w' p sf.seen∧sn≤c)∧Below w.heap.size w w'):=by
 obtain ⟨m,hm⟩:=hg.2
 have h:=qD y lo m pl cl w hU hm
 rw [h1,h2,show (ay (sf.up::sf.lows)).1=0 from hG.un] at h
 rw [e1,e2,e3,h1]
 exact h.mono fun r w' ⟨p,c,e,a1,a2,a3,a4,a5⟩=>⟨p,c,e,⟨a1,a2⟩,a4⟩
theorem Ls {w:World} {p p':Option Addr} {sf:Sy} {sn:Nat} (h1:Lies w p sf.seen) (h2:Lies w p' sf.seen) (e:sn=sf.seen.length) (sc c:Nat) :
  sH 23 #[.slice p sn c,.slice p' sn sc] w:=by
 rw [e]
 exact Kc sf.seen p p' c sc w h1 h2 (by have:=(aK sf.all).len;have:sf.seen.length≤80:=this;omega)
theorem Ld {w:World} {p:Option Addr} {sf:Sy} {sn c:Nat} (h1:Lies w p sf.seen) (hg:Gl w.heap.size w) (e:sn=sf.seen.length) (hc:sn≤c) :
  Calls Tryz.prog 24 #[.slice p sn c] w fun r w'=>r=.returned (.agg #[.int .i64 0,.int .i64 0])∧Below w.heap.size w w':=by
 obtain ⟨m,hm⟩:=hg.2
 have hr:Right false sf.seen:=aK sf.all
 have h:=iZ sf.seen m p c w h1 (xE sf) (by have:=hr.len;omega) (by omega) hm
 rw [e]
 have hz:aD false sf.seen=(0,0):=qZ hr
 rw [hz] at h
 exact h
theorem Lc {w:World} {y y':Lay} {lo lo':List Lay} {pl pl':Option Addr} {cl cl' n n':Nat} (hU:UnOK w y lo pl cl) (hU':UnOK w y' lo' pl' cl') (e:n=lo.length) (e':n'=lo'.length) (h:lo.map (·.es)=lo'.map (·.es)) (h4:lo'.length≤4) :
  sH 25 #[.agg #[.slice none 0 0,.slice pl n cl],.agg #[.slice none 0 0,.slice pl' n' cl']] w:=by
 rw [e,e']
 exact Kt [] (lo.map (·.es)) none none 0 0 lo lo' pl pl' cl cl' w (Lies.nil _ _) (Lies.nil _ _) (by decide) hU.lies hU'.lies (fun x hx=>(hU.each x hx).1) (fun x hx=>(hU'.each x hx).1) rfl h.symm (by rw [h];simp;omega)
set_option maxRecDepth 100000 in
set_option maxHeartbeats 1000000 in
theorem KW (e:Int) (u1 u2:Option Addr) (k1 k2 q1 q2:Nat) (pc:Option Addr) (n cc:Nat) (W:World) (hg:Gl W.heap.size W) (he:¬ e=0) (hp:∀ Y,Below W.heap.size W Y→Calls Tryz.prog 16 #[.agg #[.slice u1 k1 q1,.slice u2 k2 q2],.slice pc n cc] Y (Kl e Y)) :
  sH 5 #[.agg #[.slice u1 k1 q1,.slice u2 k2 q2],.slice pc n cc] W:=by
 have hB1:Below W.heap.size W (W.alloc (.cells #[.slice u1 k1 q1,.slice u2 k2 q2] 26)):=((Grown.refl W).alloc _).below
 have hal:=mY _ (hg.up hB1)
 have HB1:Aside (Below W.heap.size W (W.alloc (.cells #[.slice u1 k1 q1,.slice u2 k2 q2] 26))):=hB1
 have hne:(e != 0)=true:=by simpa using he
 clear hB1 hg
 go_enter Tryz.func5,Tryz.ntmps5
 go_wp2_with (first
  | (go_at_call 20;refine hal.mono ?_;clear hal;rintro r w2 ⟨rfl,hB2⟩;have H2:Aside (Below W.heap.size W w2):=Below.onto HB1.out hB2;have c0:=(hB2.cell (p:=⟨W.heap.size,0,none⟩) (by simp)).trans (by simp:(W.alloc (.cells #[.slice u1 k1 q1,.slice u2 k2 q2] 26)).cell? ⟨W.heap.size,0,none⟩=some (.slice u1 k1 q1));have c1:=(hB2.cell (p:=⟨W.heap.size,1,none⟩) (by simp)).trans (by simp:(W.alloc (.cells #[.slice u1 k1 q1,.slice u2 k2 q2] 26)).cell? ⟨W.heap.size,1,none⟩=some (.slice u2 k2 q2));clear hB2)
  | (go_at_call 16;refine (hp _ H2.out).mono ?_;clear hp;rintro r w3 ⟨rfl,hB3⟩;have H3:Aside (Below W.heap.size W w3):=Below.onto H2.out hB3;clear hB3)
  | (go_at_call 18;refine (KJ _).mono ?_;rintro r w4 ⟨rfl,hB4⟩;have H4:Aside (Below W.heap.size W w4):=Below.onto (Below.onto H3.out ((Grown.refl w3).alloc _).below) hB4))
 go_ret
 exact ⟨rfl,H4.out⟩
set_option maxRecDepth 100000 in
set_option maxHeartbeats 2000000 in
theorem LM (y:Lay) (lo:List Lay) (pl:Option Addr) (cl:Nat) (pc:Option Addr) (cc:Nat) (l:List Cl) (W:World) (hU:UnOK W y lo pl cl) (hg:Gl W.heap.size W) (h0:(ay (y.es::lo.map (·.es))).1=0) (hn:l.length≤80) (hC:fC W pc l) (hs:∀ c∈l,c.Small) :
  sH 5 #[.agg #[.slice y.ad y.es.length y.cap,.slice pl lo.length cl],.slice pc l.length cc] W:=by
 have hB1:Below W.heap.size W (W.alloc (.cells #[.slice y.ad y.es.length y.cap,.slice pl lo.length cl] 26)):=((Grown.refl W).alloc _).below
 have hal:=mY _ (hg.up hB1)
 have hp:=fun Y (hY:Below W.heap.size W Y)=>uS y lo pl cl pc cc l Y (hU.kept hY) (hg.up hY) h0 hn (hC.kept hY) hs
 obtain ⟨sf,hsf⟩:∃ sf,sf=((aO y.es (lo.map (·.es))).run l).1:=⟨_,rfl⟩
 rw [← hsf] at hp
 have hgood:sf.Good:=by rw [hsf];exact yT _ (good_start h0)
 have hlow:sf.lows=lo.map (·.es):=by rw [hsf,K5];rfl
 generalize ((aO y.es (lo.map (·.es))).run l).2=al at hp
 have h4:lo.length≤4:=by have:=(eG.1 h0).1;simpa using this
 have HA:Aside (sf.Good∧sf.lows=lo.map (·.es)∧UnOK W y lo pl cl∧Gl W.heap.size W∧Below W.heap.size W (W.alloc (.cells #[.slice y.ad y.es.length y.cap,.slice pl lo.length cl] 26))∧lo.length≤4):=⟨hgood,hlow,hU,hg,hB1,h4⟩
 obtain ⟨yn,hyn⟩:∃ yn,yn=y.es.length:=⟨_,rfl⟩
 obtain ⟨ln,hln⟩:∃ ln,ln=lo.length:=⟨_,rfl⟩
 have HN:Aside (yn=y.es.length∧ln=lo.length):=⟨hyn,hln⟩
 rw [← hyn,← hln] at hp hal HA ⊢
 have hfld:=lQ
 generalize l.length=n at hp ⊢
 clear hU hg h0 hn hC hs hsf hgood hlow hB1 h4 hyn hln
 go_enter Tryz.func5,Tryz.ntmps5
 go_wp2_with (first
  | (go_at_call 20;refine hal.mono ?_;clear hal;rintro r w2 ⟨rfl,hB2⟩;have H2:Aside (Below W.heap.size W w2):=Below.onto HA.out.2.2.2.2.1 hB2;have c0:=(hB2.cell (p:=⟨W.heap.size,0,none⟩) (by simp)).trans (by simp:(W.alloc (.cells #[.slice y.ad yn y.cap,.slice pl ln cl] 26)).cell? ⟨W.heap.size,0,none⟩=some (.slice y.ad yn y.cap));have c1:=(hB2.cell (p:=⟨W.heap.size,1,none⟩) (by simp)).trans (by simp:(W.alloc (.cells #[.slice y.ad yn y.cap,.slice pl ln cl] 26)).cell? ⟨W.heap.size,1,none⟩=some (.slice pl ln cl));clear hB2)
  | (go_at_call 16;refine (hp _ H2.out).mono ?_;clear hp;rintro r w3 ⟨y3,lo3,pl3,cl3,ps,sc,yn3,ln3,sn,op,pa,na,ac,rfl,hB3,H3⟩;have HB3:Aside (Below W.heap.size W w3):=Below.onto H2.out hB3;have l2:W.heap.size<w2.heap.size:=block_lt_of_cell c0;have u1:=(hB3.cell (p:=⟨W.heap.size,1,none⟩) l2).trans c1;have u1':=Lib.cell?_alloc_some (.cells #[.slice y3.ad yn3 y3.cap,.slice pl3 ln3 cl3,.slice ps sn sc,.int .i64 op] 29) u1;have HW:Aside (UnOK (w3.alloc (.cells #[.slice y3.ad yn3 y3.cap,.slice pl3 ln3 cl3,.slice ps sn sc,.int .i64 op] 29)) y3 lo3 pl3 cl3∧Below W.heap.size W (w3.alloc (.cells #[.slice y3.ad yn3 y3.cap,.slice pl3 ln3 cl3,.slice ps sn sc,.int .i64 op] 29))):=⟨H3.out.2.2.2.2.2.2.1.kept ((Grown.refl w3).alloc _).below,Below.onto HB3.out ((Grown.refl w3).alloc _).below⟩;have hsn:=Lu HW.out.1 (HA.out.2.2.2.1.up HW.out.2) H3.out.1 H3.out.2.1 H3.out.2.2.1 (H3.out.2.2.2.2.1) (H3.out.2.2.2.2.2.1) HA.out.1;clear hB3 c0 c1)
  | (go_at_call 21;refine hsn.mono ?_;clear hsn;rintro r w5 ⟨p5,c5,rfl,H5,hB5⟩;have HB5:Aside (Below (w3.alloc (.cells #[.slice y3.ad yn3 y3.cap,.slice pl3 ln3 cl3,.slice ps sn sc,.int .i64 op] 29)).heap.size (w3.alloc (.cells #[.slice y3.ad yn3 y3.cap,.slice pl3 ln3 cl3,.slice ps sn sc,.int .i64 op] 29)) w5):=hB5;have lw:w3.heap.size<(w3.alloc (.cells #[.slice y3.ad yn3 y3.cap,.slice pl3 ln3 cl3,.slice ps sn sc,.int .i64 op] 29)).heap.size:=(by simp);have lW:W.heap.size<(w3.alloc (.cells #[.slice y3.ad yn3 y3.cap,.slice pl3 ln3 cl3,.slice ps sn sc,.int .i64 op] 29)).heap.size:=block_lt_of_cell u1';have e1:=(hB5.cell (p:=⟨w3.heap.size,1,none⟩) lw).trans (by simp:(w3.alloc (.cells #[.slice y3.ad yn3 y3.cap,.slice pl3 ln3 cl3,.slice ps sn sc,.int .i64 op] 29)).cell? ⟨w3.heap.size,1,none⟩=some (.slice pl3 ln3 cl3));have e2:=(hB5.cell (p:=⟨w3.heap.size,2,none⟩) lw).trans (by simp:(w3.alloc (.cells #[.slice y3.ad yn3 y3.cap,.slice pl3 ln3 cl3,.slice ps sn sc,.int .i64 op] 29)).cell? ⟨w3.heap.size,2,none⟩=some (.slice ps sn sc));have e3:=(hB5.cell (p:=⟨W.heap.size,1,none⟩) lW).trans u1';have hsm:=Ls H5.out.1 ((H3.out.2.2.2.2.2.2.2.1.kept ((Grown.refl w3).alloc _).below).kept hB5) H3.out.2.2.1 sc c5;have l3:=Nat.lt_of_lt_of_le lw hB5.size;have l4:=Nat.lt_of_lt_of_le lW hB5.size;clear hB5)
  | (go_at_call 23;refine hsm.mono ?_;clear hsm;rintro r w6 ⟨rfl,hB6⟩;have HB6:Aside (Below w5.heap.size w5 w6):=hB6;have f1:=(hB6.cell (p:=⟨w3.heap.size,1,none⟩) l3).trans e1;have f3:=(hB6.cell (p:=⟨W.heap.size,1,none⟩) l4).trans e3;have hwr:=Ld (H5.out.1.kept hB6) (HA.out.2.2.2.1.up (Below.onto HW.out.2 (Below.onto HB5.out hB6))) H3.out.2.2.1 H5.out.2;have l5:=Nat.lt_of_lt_of_le l3 hB6.size;have l6:=Nat.lt_of_lt_of_le l4 hB6.size;clear hB6)
  | (go_at_call 24;refine hwr.mono ?_;clear hwr;rintro r w7 ⟨rfl,hB7⟩;have g1:=(hB7.cell (p:=⟨w3.heap.size,1,none⟩) l5).trans f1;have g3:=(hB7.cell (p:=⟨W.heap.size,1,none⟩) l6).trans f3;have HB7:Aside (Below W.heap.size W w7):=Below.onto HW.out.2 (Below.onto HB5.out (Below.onto HB6.out hB7));have hsu:=Lc ((HW.out.1.kept HB5.out).kept (Below.onto HB6.out hB7)) (HA.out.2.2.1.kept HB7.out) H3.out.2.1 HN.out.2 (H3.out.2.2.2.2.2.1.trans HA.out.2.1) (by rw [← HN.out.2];exact HA.out.2.2.2.2.2);clear hB7)
  | (go_at_call 25;refine hsu.mono ?_;clear hsu;rintro r w8 ⟨rfl,hB8⟩;have HB8:Aside (Below W.heap.size W w8):=Below.onto HB7.out hB8))
 go_ret
 exact ⟨by simp,HB8.out⟩
theorem K9 (y:Lay) (lo:List Lay) (pl:Option Addr) (cl:Nat) (pc:Option Addr) (cc:Nat) (l:List Cl) (W:World) (hU:UnOK W y lo pl cl) (hg:Gl W.heap.size W) (hC:fC W pc l) (hs:∀ c∈l,c.Small) :
  sH 5 #[.agg #[.slice y.ad y.es.length y.cap,.slice pl lo.length cl],.slice pc l.length cc] W:=by
 by_cases h0:(ay (y.es::lo.map (·.es))).1=0
 ·by_cases hn:l.length≤80
  ·exact LM y lo pl cl pc cc l W hU hg h0 hn hC hs
  ·exact KW 5 y.ad pl y.es.length lo.length y.cap cl pc l.length cc W hg (by decide) (fun Y hY=>Kg y lo pl cl pc l.length cc Y (hU.kept hY) (hg.up hY) h0 (by omega))
 ·exact KW _ y.ad pl y.es.length lo.length y.cap cl pc l.length cc W hg h0 (fun Y hY=>Kr y lo pl cl pc l.length cc Y (hU.kept hY) (hg.up hY) h0)
end Go.Proofs.YthfeoiffoeagkaaGreatDoor
