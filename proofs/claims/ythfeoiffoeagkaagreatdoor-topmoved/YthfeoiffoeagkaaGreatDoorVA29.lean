/-
  (*sys.system).add.
-/
import Derived.Test.YthfeoiffoeagkaaGreatDoorVA28
namespace Go.Proofs.YthfeoiffoeagkaaGreatDoor
open Go.RowKit PM Go.Sort
set_option linter.unusedVariables false
namespace PM
def Sy.addEnt (s : Sy) (way : ByteArray) (kind : Int) (text : ByteArray) : Ent:=⟨baL (leadL s.seen false way.data.toList).2,kind,text,false⟩
noncomputable def Sy.addErr (s : Sy) (way : ByteArray) (kind : Int) (text : ByteArray) : Int:=if ¬ (leadL s.seen false way.data.toList).1 = 0 then (leadL s.seen false way.data.toList).1 else if (getL s.seen (leadL s.seen false way.data.toList).2).isSome then 7 else chgErr (wrongU s.all).1 (putErr s.seen (s.addEnt way kind text)) (haveL s.up (s.addEnt way kind text)).length
end PM
theorem StepPost.no {base S : Nat} {s : Sy} {L : Lay6} {err : Int} {s' : Sy} {an : An} {W W' : World} (v : Value) (he : ¬ err = 0) (hB : Below W.heap.size W W') : StepPost base S s L err s' an W (.returned (.tuple #[v,.int .i64 err])) W':=⟨v,rfl,hB,fun h => absurd h he⟩
theorem box2_new {W W2 : World} {a b : Obj} (h : (W.alloc a).alloc b = W2) : W2.heap[W.heap.size + 1]? = some b:=by
 rw [← h]
 have:=heap_alloc_last (W.alloc a) b
 rwa [World.size_alloc] at this
theorem box1_new {W W2 : World} {a b : Obj} (h : (W.alloc a).alloc b = W2) : W2.heap[W.heap.size]? = some a:=by
 rw [← h]
 exact (((Grown.refl _).alloc b).below.block _ (by simp)).trans (heap_alloc_last W a)
theorem lead_len (seen : List Ent) (f : Bool) (way : List UInt8) : (leadL seen f way).2.length ≤ 80:=by
 unfold leadL
 repeat' split
 all_goals simp
 all_goals omega
theorem put_wrong {up : List Ent} {lows : List (List Ent)} {e : Ent} (h : chgErr (wrongU (up :: lows)).1 (putErr (seenU (up :: lows)) e) (haveL up e).length = 0) : (wrongU (haveL up e :: lows)).1 = 0 ∧ seenU (haveL up e :: lows) = putL (seenU (up :: lows)) e:=by
 obtain ⟨h0,h1,h2⟩:=chgErr_zero.1 h
 obtain ⟨hl5,hz,_⟩:=wrongU_zero.1 h0
 have hs : seenU (up :: lows) = (mergeF (up :: lows)).2:=by rw [seenU,if_pos h0]
 have hmg : mergeF (up :: lows) = (0,seenU (up :: lows)):=by rw [hs];exact Prod.ext hz rfl
 obtain ⟨e1,e2⟩:=union_right (by rw [List.length_cons] at hl5 ⊢;exact hl5) ((put_union hmg h1).2 h2)
 exact ⟨by rw [e1],e2⟩
def PutP (Y : World) (er : Int) (up : List Ent) (lows : List (List Ent)) (r : Ending) (w' : World) : Prop:=∃ (y : Lay) (lo : List Lay) (pl : Option Addr) (cl yn ln : Nat),r = .returned (.tuple #[.agg #[.slice y.ad yn y.cap,.slice pl ln cl],.int .i64 er]) ∧ Aside (yn = y.es.length ∧ ln = lo.length ∧ y.es = up ∧ lo.map (·.es) = lows ∧ UnOK w' y lo pl cl ∧ Below Y.heap.size Y w' ∧ UnNew Y.heap.size y lo pl)
theorem UnPost.putP {Y : World} {er : Int} {up : List Ent} {lows : List (List Ent)} {r : Ending} {w' : World} (h : UnPost er up lows Y r w') : PutP Y er up lows r w':=by
 obtain ⟨y,lo,pl,cl,e,h1,h2,h3,h4,h5⟩:=h
 exact ⟨y,lo,pl,cl,_,_,e,rfl,rfl,h1,h2,h3,h4,h5⟩
theorem add_end {base : Nat} {W : World} {S : Nat} {s : Sy} {L : Lay6} (h : SysAt base W S s L) (hg : Gl base W) {Wf : World} (hB : Below W.heap.size W Wf) {B0 B1 : Nat} (hb0 : Wf.cell? ⟨B0,0,none⟩ = some (.pointer (some ⟨S,0,none⟩))) {y : Lay} {lo : List Lay} {pl : Option Addr} {cl : Nat} (hb1 : UnBox Wf B1 y lo pl cl) (hU : St (Sp S s L) Wf (fun X => UnOK X y lo pl cl)) {up : List Ent} {lows : List (List Ent)} (hy : y.es = up) (hl : lo.map (·.es) = lows) (h0 : (wrongU (up :: lows)).1 = 0) :
  StepPost base S s L 0 (s.withU up lows) (ans 0 ⟨#[]⟩) W (.returned (.tuple #[.func (.func 127) #[] #[.pointer (some ⟨B0,0,none⟩),.pointer (some ⟨B1,0,none⟩)],.int .i64 0])) Wf:=by
 subst hy hl
 exact ⟨_,rfl,hB,fun _ => ⟨_,_,rfl,enters_of Tryz.func127 (by kernel_rfl) rfl,addDo (h.kept hB) (hg.kept (hB.mono (Nat.le_trans h.base.1 (Nat.le_of_lt h.lt)))) B0 B1 hb0 y lo pl cl hb1 hU h0⟩⟩
set_option maxHeartbeats 2000000 in
theorem add_any {base : Nat} {W : World} {S : Nat} {s : Sy} {L : Lay6} (h : SysAt base W S s L) (hg : Gl base W) (way : ByteArray) (kind : Int) (text : ByteArray) (hw : way.size ≤ maxLen) (ht : text.size ≤ maxLen) :
  Calls Tryz.prog 86 #[.pointer (some ⟨S,0,none⟩),.string way,.agg #[.string ⟨#[]⟩,.int .i64 kind,.string text,.bool false]] W (StepPost base S s L (s.addErr way kind text) (s.withU (haveL s.up (s.addEnt way kind text)) s.lows) (ans 0 ⟨#[]⟩) W):=by
 obtain ⟨W2,hW2⟩ : ∃ W2,(W.alloc (.cells #[.pointer (some ⟨S,0,none⟩)] 76)).alloc (.cells #[.string ⟨#[]⟩,.int .i64 kind,.string text,.bool false] 53) = W2:=⟨_,rfl⟩
 have hB2 : Below W.heap.size W W2:=by rw [← hW2];exact ((Below.refl _ _).alloc (Nat.le_refl _) _).alloc (by simp) _
 have hs2 : W2.heap.size = W.heap.size + 2:=by rw [← hW2];simp
 have h2:=h.kept hB2
 have hbase : base ≤ W.heap.size:=Nat.le_trans h.base.1 (Nat.le_of_lt h.lt)
 obtain ⟨m,hm⟩:=(hg.kept (hB2.mono hbase)).2
 have hld:=lead_any s.seen way false W2 S L.ps L.sc m h2.cells.2.2 h2.data.now.seen (seenU_right s.all) hw hm
 have HA : Aside (SysAt base W S s L ∧ Gl base W ∧ Below W.heap.size W W2):=⟨h,hg,hB2⟩
 obtain ⟨e,he⟩ : ∃ e,e = (leadL s.seen false way.data.toList).1:=⟨_,rfl⟩
 obtain ⟨q,hq⟩ : ∃ q,q = (leadL s.seen false way.data.toList).2:=⟨_,rfl⟩
 have HE : Aside (e = (leadL s.seen false way.data.toList).1 ∧ q = (leadL s.seen false way.data.toList).2):=⟨he,hq⟩
 rw [← he,← hq] at hld
 rw [← hW2] at hld
 have HW2 : Aside ((W.alloc (.cells #[.pointer (some ⟨S,0,none⟩)] 76)).alloc (.cells #[.string ⟨#[]⟩,.int .i64 kind,.string text,.bool false] 53) = W2):=hW2
 clear h2 hm he hq h hg hB2 hW2
 generalize hae : s.addErr way kind text = ae
 have HAE : Aside (s.addErr way kind text = ae):=hae
 clear hae
 by_cases h0 : e = 0
 ·subst h0
  have hq80 : q.length ≤ 80:=by rw [HE.out.2];exact lead_len _ _ _
  have hgt:=fun (d : ByteArray) (hd : d.data.toList = q) Y (hY : Below W.heap.size W Y) => sys_get HA.out.1 hY d (by have:=szl d;rw [hd] at this;unfold maxLen;omega) ((getL s.seen q).getD zeroE) (by rw [hd]) s.seen.length rfl
  obtain ⟨sn,hsn⟩ : ∃ sn,sn = s.seen.length:=⟨_,rfl⟩
  have HSN : Aside (sn = s.seen.length):=hsn
  rw [← hsn] at hgt
  generalize (getL s.seen q).getD zeroE = x at hgt
  obtain ⟨xp,xk,xt,xo⟩:=x
  simp only at hgt
  clear hsn
  cases hb : (getL s.seen q).isSome with
  | true =>
   go_enter Tryz.func86,Tryz.ntmps86
   go_wp2_with (first
    | (go_at_call 121;refine hld.mono ?_;clear hld;rintro r w3 ⟨d,rfl,hd,hB3⟩;rw [HW2.out] at hB3;have hgd:=hgt d hd w3 (Below.onto HA.out.2.2 hB3);rw [hd,hb] at hgd;clear hgt;have c2:=(HA.out.1.kept (Below.onto HA.out.2.2 hB3)).cells.2.2;rw [← HSN.out] at c2;have b0 : w3.cell? ⟨W.heap.size,0,none⟩ = some (.pointer (some ⟨S,0,none⟩)):=(hB3.cell (p:=⟨W.heap.size,0,none⟩) (by show W.heap.size < _;omega)).trans (by rw [← HW2.out];simp))
    | (go_at_call 27;refine hgd.mono ?_;clear hgd;rintro r w4 ⟨rfl,hB4⟩))
   go_ret2
   have hz : ae = 7:=by rw [← HAE.out,Sy.addErr,if_neg (by rw [← HE.out.1];simp),← HE.out.2,if_pos hb]
   rw [hz]
   have hB:=Below.onto (Below.onto HA.out.2.2 hB3) hB4
   exact StepPost.no _ (by decide) (hB.alloc hB.size _)
  | false =>
   go_enter Tryz.func86,Tryz.ntmps86
   go_wp2_with (first
    | (go_at_call 121;refine hld.mono ?_;clear hld;rintro r w3 ⟨d,rfl,hd,hB3⟩;rw [HW2.out] at hB3;have hgd:=hgt d hd w3 (Below.onto HA.out.2.2 hB3);rw [hd,hb] at hgd;clear hgt;have c2:=(HA.out.1.kept (Below.onto HA.out.2.2 hB3)).cells.2.2;rw [← HSN.out] at c2;have b0 : w3.cell? ⟨W.heap.size,0,none⟩ = some (.pointer (some ⟨S,0,none⟩)):=(hB3.cell (p:=⟨W.heap.size,0,none⟩) (by show W.heap.size < _;omega)).trans (by rw [← HW2.out];simp))
    | (go_at_call 27;refine hgd.mono ?_;clear hgd;rintro r w4 ⟨rfl,hB4⟩;have hbk : w4.heap[W.heap.size + 1]? = some (.cells #[.string ⟨#[]⟩,.int .i64 kind,.string text,.bool false] 53):=(hB4.block _ (by have:=hB3.size;omega)).trans ((hB3.block _ (by omega)).trans (box2_new HW2.out));have hlt4 : W.heap.size + 1 < w4.heap.size:=(Array.getElem?_eq_some_iff.1 hbk).1;have hbk5 : (w4.alloc (.cells #[.string xp,.int .i64 xk,.string xt,.bool xo] 53)).heap[W.heap.size + 1]? = some (.cells #[.string ⟨#[]⟩,.int .i64 kind,.string text,.bool false] 53):=(((Grown.refl w4).alloc _).below.block _ hlt4).trans hbk;obtain ⟨⟨e0,e1,e2,e3⟩,g0,g1,g2,g3⟩:=cells4 hbk5;have n4 : ¬ W.heap.size + 1 = w4.heap.size:=Nat.ne_of_lt hlt4;have n5 : ¬ w4.heap.size = W.heap.size + 1:=fun e => n4 e.symm;clear c2 b0))
   have hX0 : Below W.heap.size W ((w4.setCell ⟨W.heap.size + 1,0,none⟩ (.string d)).alloc (.cells #[.string xp,.int .i64 xk,.string xt,.bool xo] 53)):=by
    have h1:=Below.onto (Below.onto HA.out.2.2 hB3) hB4
    have h2:=h1.setCell (p:=⟨W.heap.size + 1,0,none⟩) (by show W.heap.size ≤ W.heap.size + 1;omega) (.string d)
    exact h2.alloc h2.size _
   have hE0 : ((w4.setCell ⟨W.heap.size + 1,0,none⟩ (.string d)).alloc (.cells #[.string xp,.int .i64 xk,.string xt,.bool xo] 53)).heap[W.heap.size + 1]? = some (.cells #[.string d,.int .i64 kind,.string text,.bool false] 53):=by
    have h1:=heap_setS hbk 0 (.string d)
    exact (((Grown.refl _).alloc _).below.block _ (Array.getElem?_eq_some_iff.1 h1).1).trans h1
   have hP0 : ((w4.setCell ⟨W.heap.size + 1,0,none⟩ (.string d)).alloc (.cells #[.string xp,.int .i64 xk,.string xt,.bool xo] 53)).heap[W.heap.size]? = some (.cells #[.pointer (some ⟨S,0,none⟩)] 76):=by
    have h1 : W2.heap[W.heap.size]? = some (.cells #[.pointer (some ⟨S,0,none⟩)] 76):=box1_new HW2.out
    have h2 : w4.heap[W.heap.size]? = _:=(hB4.block _ (by have:=hB3.size;omega)).trans ((hB3.block _ (by omega)).trans h1)
    have h3:=(Below.heap_setCell w4 ⟨W.heap.size + 1,0,none⟩ (.string d) W.heap.size (by show W.heap.size ≠ W.heap.size + 1;omega)).trans h2
    exact (((Grown.refl _).alloc _).below.block _ (Array.getElem?_eq_some_iff.1 h3).1).trans h3
   generalize (w4.setCell ⟨W.heap.size + 1,0,none⟩ (.string d)).alloc (.cells #[.string xp,.int .i64 xk,.string xt,.bool xo] 53) = X at hX0 hE0 hP0 ⊢
   clear hbk hbk5 hlt4 e0 e1 e2 e3 g0 g1 g2 g3 n4 n5 hB4 hB3
   obtain ⟨⟨e0,e1,e2,e3⟩,_⟩:=cells4 hE0
   have b0 : X.cell? ⟨W.heap.size,0,none⟩ = some (.pointer (some ⟨S,0,none⟩)):=by simp [World.cell?,hP0]
   have hkX:=HA.out.1.kept hX0
   obtain ⟨s0,s1,_⟩:=hkX.cells
   have hent : s.addEnt way kind text = ⟨d,kind,text,false⟩:=by
    rw [Sy.addEnt,← HE.out.2,show baL q = d from ba_ext (by rw [hd];simp [baL])]
   have hae : chgErr (wrongU (s.up :: s.lows)).1 (putErr (seenU (s.up :: s.lows)) ⟨d,kind,text,false⟩) (haveL s.up ⟨d,kind,text,false⟩).length = ae:=by
    rw [← HAE.out,Sy.addErr,if_neg (by rw [← HE.out.1];simp),← HE.out.2,if_neg (by rw [hb];simp),hent];rfl
   obtain ⟨yn,hyn⟩ : ∃ yn,yn = L.y.es.length:=⟨_,rfl⟩
   obtain ⟨ln,hln⟩ : ∃ ln,ln = L.lo.length:=⟨_,rfl⟩
   have hd80 : d.size ≤ 80:=by have:=szl d;rw [hd] at this;omega
   have hpt : ∀ Y,Below X.heap.size X Y → Calls Tryz.prog 126 #[.agg #[.slice L.y.ad yn L.y.cap,.slice L.pl ln L.cl],.agg #[.string d,.int .i64 kind,.string text,.bool false]] Y (PutP Y ae (if ae = 0 then haveL s.up ⟨d,kind,text,false⟩ else []) (if ae = 0 then s.lows else [])):=fun Y hY => by
    obtain ⟨m',hm'⟩:=(HA.out.2.1.kept ((Below.onto hX0 hY).mono hbase)).2
    rw [hyn,hln]
    refine (unionPut_any L.y L.lo m' L.pl L.cl ⟨d,kind,text,false⟩ (by show d.size ≤ _;unfold maxLen;omega) (by show d.size < _;omega) ht Y (hkX.kept hY).data.now.un hm').mono fun r w' h => ?_
    have h:=h.putP
    rw [HA.out.1.up,HA.out.1.low,hae] at h
    exact h
   rw [← hyn] at s0
   rw [← hln] at s1
   have HC : Aside (Below W.heap.size W X ∧ s.addEnt way kind text = ⟨d,kind,text,false⟩ ∧ (ae = 0 → (wrongU (haveL s.up ⟨d,kind,text,false⟩ :: s.lows)).1 = 0)):=⟨hX0,hent,fun h => (put_wrong (hae.trans h)).1⟩
   have hSX : S < X.heap.size:=hkX.lt
   have hPX : W.heap.size < X.heap.size:=(Array.getElem?_eq_some_iff.1 hP0).1
   have hEX : W.heap.size + 1 < X.heap.size:=(Array.getElem?_eq_some_iff.1 hE0).1
   have n1:=World.new_ne X ⟨S,0,none⟩ s0
   have n2:=World.new_ne X ⟨W.heap.size,0,none⟩ b0
   have n3:=World.new_ne X ⟨W.heap.size + 1,0,none⟩ e0
   clear hkX hX0 hent hae hyn hln hE0 hP0 hd hb
   by_cases hz : ae = 0
   ·subst hz
    simp only [if_true] at hpt
    go_region_held3 (fun w' => w'.cell? ⟨W.heap.size,0,none⟩ = some (.pointer (some ⟨S,0,none⟩)) ∧ (w'.cell? ⟨S,0,none⟩ = some (.slice L.y.ad yn L.y.cap) ∧ w'.cell? ⟨S,1,none⟩ = some (.slice L.pl ln L.cl)) ∧ (w'.cell? ⟨W.heap.size + 1,0,none⟩ = some (.string d) ∧ w'.cell? ⟨W.heap.size + 1,1,none⟩ = some (.int .i64 kind) ∧ w'.cell? ⟨W.heap.size + 1,2,none⟩ = some (.string text) ∧ w'.cell? ⟨W.heap.size + 1,3,none⟩ = some (.bool false))) (go_keep) (first
     | (go_at_call 126;refine (hpt _ (Below.refl _ _).drew).mono ?_;clear hpt;rintro r w7 ⟨y,lo,pl,cl,yn',ln',rfl,H7⟩;have hB7 : Below X.heap.size X w7:=((Below.refl _ _).drew).trans H7.out.2.2.2.2.2.1;have z0:=(hB7.cell (p:=⟨W.heap.size,0,none⟩) hPX).trans b0;have z1:=(hB7.cell (p:=⟨S,0,none⟩) hSX).trans s0;have z2:=(hB7.cell (p:=⟨S,1,none⟩) hSX).trans s1;have z3:=(hB7.cell (p:=⟨W.heap.size + 1,0,none⟩) hEX).trans e0;have z4:=(hB7.cell (p:=⟨W.heap.size + 1,1,none⟩) hEX).trans e1;have z5:=(hB7.cell (p:=⟨W.heap.size + 1,2,none⟩) hEX).trans e2;have z6:=(hB7.cell (p:=⟨W.heap.size + 1,3,none⟩) hEX).trans e3)
     | (go_at_call 126;refine (hpt _ (((Below.refl _ _).alloc (Nat.le_refl _) _).drew)).mono ?_;clear hpt;rintro r w7 ⟨y,lo,pl,cl,yn',ln',rfl,H7⟩;have hB7 : Below X.heap.size X w7:=(((Below.refl _ _).alloc (Nat.le_refl _) _).drew).trans (H7.out.2.2.2.2.2.1.mono (by rw [show ∀ o,(X.alloc o).drew.heap.size = X.heap.size + 1 from fun o => World.size_alloc X o];omega));have z0:=(hB7.cell (p:=⟨W.heap.size,0,none⟩) hPX).trans b0;have z1:=(hB7.cell (p:=⟨S,0,none⟩) hSX).trans s0;have z2:=(hB7.cell (p:=⟨S,1,none⟩) hSX).trans s1;have z3:=(hB7.cell (p:=⟨W.heap.size + 1,0,none⟩) hEX).trans e0;have z4:=(hB7.cell (p:=⟨W.heap.size + 1,1,none⟩) hEX).trans e1;have z5:=(hB7.cell (p:=⟨W.heap.size + 1,2,none⟩) hEX).trans e2;have z6:=(hB7.cell (p:=⟨W.heap.size + 1,3,none⟩) hEX).trans e3;obtain ⟨⟨x0,x1⟩,⟨f0,f1⟩⟩:=new2 (w:=X) (B:=X.heap.size + 1) (Nat.lt_succ_self _) (((Below.refl _ _).drew).trans (H7.out.2.2.2.2.2.1.mono (Nat.le_of_eq (World.size_alloc X _).symm)))))
    ·have HF : Aside (StepPost base S s L 0 (s.withU (haveL s.up (s.addEnt way kind text)) s.lows) (ans 0 ⟨#[]⟩) W (.returned (.tuple #[.func (.func 127) #[] #[.pointer (some ⟨W.heap.size,0,none⟩),.pointer (some ⟨w7.heap.size,0,none⟩)],.int .i64 0])) (w7.alloc (.cells #[.slice y.ad yn' y.cap,.slice pl ln' cl] 26))):=by
      obtain ⟨r1,r2,r3,r4,r5,r6,r7⟩:=H7.out
      subst r1 r2
      rw [HC.out.2.1]
      have hB8 : Below w7.heap.size w7 (w7.alloc (.cells #[.slice y.ad y.es.length y.cap,.slice pl lo.length cl] 26)):=((Grown.refl w7).alloc _).below
      refine add_end HA.out.1 HA.out.2.1 (Below.onto (Below.onto HC.out.1 hB7) hB8) ((hB8.cell (p:=⟨W.heap.size,0,none⟩) (Nat.lt_of_lt_of_le hPX hB7.size)).trans z0) ⟨by simp,by simp⟩ (St.on (UnOK.st r5 r7 (fun b hb => ?_)) (Keep.of_below _ hB8)) r3 r4 (HC.out.2.2 (by trivial))
      exact Nat.lt_of_lt_of_le (HA.out.1.spBase hb).2 HC.out.1.size
     clear H7 hB7
     go_wp2
     go_ret2
     exact HF.out
    ·have HF : Aside (StepPost base S s L 0 (s.withU (haveL s.up (s.addEnt way kind text)) s.lows) (ans 0 ⟨#[]⟩) W (.returned (.tuple #[.func (.func 127) #[] #[.pointer (some ⟨W.heap.size,0,none⟩),.pointer (some ⟨X.heap.size,0,none⟩)],.int .i64 0])) ((w7.setCell ⟨X.heap.size,0,none⟩ (.slice y.ad yn' y.cap)).setCell ⟨X.heap.size,1,none⟩ (.slice pl ln' cl))):=by
      obtain ⟨r1,r2,r3,r4,r5,r6,r7⟩:=H7.out
      subst r1 r2
      rw [HC.out.2.1]
      have hsz : ∀ o,(X.alloc o).drew.heap.size = X.heap.size + 1:=fun o => World.size_alloc X o
      have hbx : w7.heap[X.heap.size]? = some (.cells #[.slice none 0 0,.slice none 0 0] 26):=(r6.block _ (by rw [hsz];omega)).trans (heap_alloc_last X _)
      have k2:=heap_setS (heap_setS hbx 0 (.slice y.ad y.es.length y.cap)) 1 (.slice pl lo.length cl)
      have hB8 : Below X.heap.size X ((w7.setCell ⟨X.heap.size,0,none⟩ (.slice y.ad y.es.length y.cap)).setCell ⟨X.heap.size,1,none⟩ (.slice pl lo.length cl)):=(hB7.setCell (p:=⟨X.heap.size,0,none⟩) (Nat.le_refl _) _).setCell (p:=⟨X.heap.size,1,none⟩) (Nat.le_refl _) _
      have hst : St (fun b => Sp S s L b ∨ b = X.heap.size) w7 (fun X => UnOK X y lo pl cl):=UnOK.st r5 r7 (fun b hb => by
       rw [hsz]
       rcases hb with hb | rfl
       ·have h1:=(HA.out.1.spBase hb).2;have h2:=HC.out.1.size;omega
       ·omega)
      refine add_end HA.out.1 HA.out.2.1 (Below.onto HC.out.1 hB8) ((hB8.cell (p:=⟨W.heap.size,0,none⟩) hPX).trans b0) ⟨by simp [World.cell?,k2],by simp [World.cell?,k2]⟩ (St.more (St.on hst ((Keep.set (.inr rfl) _ 0 _).trans (Keep.set (.inr rfl) _ 1 _))) (fun b _ hb => .inl hb)) r3 r4 (HC.out.2.2 (by trivial))
     clear H7 hB7
     go_wp2
     go_ret2
     exact HF.out
   ·have hne : (ae != 0) = true:=by simpa using hz
    rw [if_neg hz,if_neg hz] at hpt
    go_region_held3 (fun w' => w'.cell? ⟨W.heap.size,0,none⟩ = some (.pointer (some ⟨S,0,none⟩)) ∧ (w'.cell? ⟨S,0,none⟩ = some (.slice L.y.ad yn L.y.cap) ∧ w'.cell? ⟨S,1,none⟩ = some (.slice L.pl ln L.cl)) ∧ (w'.cell? ⟨W.heap.size + 1,0,none⟩ = some (.string d) ∧ w'.cell? ⟨W.heap.size + 1,1,none⟩ = some (.int .i64 kind) ∧ w'.cell? ⟨W.heap.size + 1,2,none⟩ = some (.string text) ∧ w'.cell? ⟨W.heap.size + 1,3,none⟩ = some (.bool false))) (go_keep) (first
     | (go_at_call 126;refine (hpt _ (Below.refl _ _).drew).mono ?_;clear hpt;rintro r w7 ⟨y,lo,pl,cl,yn',ln',rfl,H7⟩;have hB7 : Below X.heap.size X w7:=((Below.refl _ _).drew).trans H7.out.2.2.2.2.2.1;have z0:=(hB7.cell (p:=⟨W.heap.size,0,none⟩) hPX).trans b0;have z1:=(hB7.cell (p:=⟨S,0,none⟩) hSX).trans s0;have z2:=(hB7.cell (p:=⟨S,1,none⟩) hSX).trans s1;have z3:=(hB7.cell (p:=⟨W.heap.size + 1,0,none⟩) hEX).trans e0;have z4:=(hB7.cell (p:=⟨W.heap.size + 1,1,none⟩) hEX).trans e1;have z5:=(hB7.cell (p:=⟨W.heap.size + 1,2,none⟩) hEX).trans e2;have z6:=(hB7.cell (p:=⟨W.heap.size + 1,3,none⟩) hEX).trans e3)
     | (go_at_call 126;refine (hpt _ (((Below.refl _ _).alloc (Nat.le_refl _) _).drew)).mono ?_;clear hpt;rintro r w7 ⟨y,lo,pl,cl,yn',ln',rfl,H7⟩;have hB7 : Below X.heap.size X w7:=(((Below.refl _ _).alloc (Nat.le_refl _) _).drew).trans (H7.out.2.2.2.2.2.1.mono (by rw [show ∀ o,(X.alloc o).drew.heap.size = X.heap.size + 1 from fun o => World.size_alloc X o];omega));have z0:=(hB7.cell (p:=⟨W.heap.size,0,none⟩) hPX).trans b0;have z1:=(hB7.cell (p:=⟨S,0,none⟩) hSX).trans s0;have z2:=(hB7.cell (p:=⟨S,1,none⟩) hSX).trans s1;have z3:=(hB7.cell (p:=⟨W.heap.size + 1,0,none⟩) hEX).trans e0;have z4:=(hB7.cell (p:=⟨W.heap.size + 1,1,none⟩) hEX).trans e1;have z5:=(hB7.cell (p:=⟨W.heap.size + 1,2,none⟩) hEX).trans e2;have z6:=(hB7.cell (p:=⟨W.heap.size + 1,3,none⟩) hEX).trans e3;obtain ⟨⟨x0,x1⟩,⟨f0,f1⟩⟩:=new2 (w:=X) (B:=X.heap.size + 1) (Nat.lt_succ_self _) (((Below.refl _ _).drew).trans (H7.out.2.2.2.2.2.1.mono (Nat.le_of_eq (World.size_alloc X _).symm)))))
    ·have HF : Aside (Below W.heap.size W (w7.alloc (.cells #[.slice y.ad yn' y.cap,.slice pl ln' cl] 26))):=by
      have h1:=Below.onto HC.out.1 hB7
      exact h1.alloc h1.size _
     clear H7 hB7
     go_wp2
     go_ret2
     exact StepPost.no _ hz HF.out
    ·have HF : Aside (Below W.heap.size W ((w7.setCell ⟨X.heap.size,0,none⟩ (.slice y.ad yn' y.cap)).setCell ⟨X.heap.size,1,none⟩ (.slice pl ln' cl))):=Below.onto HC.out.1 ((hB7.setCell (p:=⟨X.heap.size,0,none⟩) (Nat.le_refl _) _).setCell (p:=⟨X.heap.size,1,none⟩) (Nat.le_refl _) _)
     clear H7 hB7
     go_wp2
     go_ret2
     exact StepPost.no _ hz HF.out
 ·have hne : (e != 0) = true:=by simpa using h0
  go_enter Tryz.func86,Tryz.ntmps86
  go_wp2_with (go_at_call 121;refine hld.mono ?_;clear hld;rintro r w3 ⟨d,rfl,hd,hB3⟩;rw [HW2.out] at hB3)
  go_ret2
  have hz : ae = e:=by rw [← HAE.out,Sy.addErr,← HE.out.1,if_pos h0]
  rw [hz]
  exact StepPost.no _ h0 (Below.onto HA.out.2.2 hB3)
theorem statDo {base : Nat} {X : World} {S : Nat} {s : Sy} {L : Lay6} (h : SysAt base X S s L) (B : Nat) (k : Int) (t : ByteArray) (c1 : X.cell? ⟨B,1,none⟩ = some (.int .i64 k)) (c2 : X.cell? ⟨B,2,none⟩ = some (.string t)) :
  Calls Tryz.prog 136 #[.pointer (some ⟨B,0,none⟩)] X (DoPost base S s L s (ans k t) X):=by
 have a1:=Lib.cell?_alloc_some (.cells #[.int .i64 0,.int .i64 0,.string ⟨#[]⟩,.slice none 0 0] 38) c1
 have a2:=Lib.cell?_alloc_some (.cells #[.int .i64 0,.int .i64 0,.string ⟨#[]⟩,.slice none 0 0] 38) c2
 have HS : Aside (SysAt base X S s L):=h
 clear h c1 c2
 go_enter Tryz.func136,Tryz.ntmps136
 go_wp2
 refine bodyPost_ret (v:=.agg #[.int .i64 0,.int .i64 k,.string t,.slice none 0 0]) (by simp [results,Tryz.results136,go_sem]) rfl ?_
 have hB : ∀ o,Below X.heap.size X (X.alloc o):=fun o => ((Grown.refl X).alloc o).below
 exact ⟨_,L,rfl,HS.out.kept (hB _),ans_at _ _ _ _,(hB _).mono (Nat.le_trans HS.out.base.1 (Nat.le_of_lt HS.out.lt)),fun b hb => hb,Keep.of_below _ (hB _),fun b hb => .inl hb⟩
theorem listDo {base : Nat} {X : World} {S : Nat} {s : Sy} {L : Lay6} (h : SysAt base X S s L) (B : Nat) (p : Option Addr) (c : Nat) (bs : List ByteArray) (n : Nat) (hn : n = bs.length) (c1 : X.cell? ⟨B,0,none⟩ = some (.slice p n c)) (hc : bs.length ≤ c) (hp : p = none → c = 0) (hL : St (Sp S s L) X (fun Y => LiesS Y p bs)) (l : List (List UInt8)) (hl : bs.map (·.data.toList) = l) :
  Calls Tryz.prog 135 #[.pointer (some ⟨B,0,none⟩)] X (DoPost base S s L s ⟨0,0,⟨#[]⟩,l⟩ X):=by
 have a1:=Lib.cell?_alloc_some (.cells #[.int .i64 0,.int .i64 0,.string ⟨#[]⟩,.slice none 0 0] 38) c1
 have HS : Aside (SysAt base X S s L ∧ n = bs.length ∧ bs.length ≤ c ∧ (p = none → c = 0) ∧ St (Sp S s L) X (fun Y => LiesS Y p bs) ∧ bs.map (·.data.toList) = l):=⟨h,hn,hc,hp,hL,hl⟩
 clear h c1 hn hc hp hL hl
 go_enter Tryz.func135,Tryz.ntmps135
 go_wp2
 refine bodyPost_ret (v:=.agg #[.int .i64 0,.int .i64 0,.string ⟨#[]⟩,.slice p n c]) (by simp [results,Tryz.results135,go_sem]) rfl ?_
 have hB : ∀ o,Below X.heap.size X (X.alloc o):=fun o => ((Grown.refl X).alloc o).below
 obtain ⟨h,hn,hc,hp,hL,hl⟩:=HS.out
 subst hn
 exact ⟨_,L,rfl,h.kept (hB _),⟨p,c,bs,rfl,hl,hc,hp,hL.on (Keep.of_below _ (hB _))⟩,(hB _).mono (Nat.le_trans h.base.1 (Nat.le_of_lt h.lt)),fun b hb => hb,Keep.of_below _ (hB _),fun b hb => .inl hb⟩
namespace PM
def Sy.statErr (s : Sy) (way : ByteArray) : Int:=if ¬ (leadL s.seen true way.data.toList).1 = 0 then (leadL s.seen true way.data.toList).1 else if (getL s.seen (leadL s.seen true way.data.toList).2).isSome then 0 else 6
def Sy.statAns (s : Sy) (way : ByteArray) : An:=ans ((getL s.seen (leadL s.seen true way.data.toList).2).getD zeroE).kind ((getL s.seen (leadL s.seen true way.data.toList).2).getD zeroE).text
end PM
set_option maxHeartbeats 1000000 in
theorem stat_any {base : Nat} {W : World} {S : Nat} {s : Sy} {L : Lay6} (h : SysAt base W S s L) (hg : Gl base W) (way : ByteArray) (hw : way.size ≤ maxLen) :
  Calls Tryz.prog 90 #[.pointer (some ⟨S,0,none⟩),.string way] W (StepPost base S s L (s.statErr way) s (s.statAns way) W):=by
 obtain ⟨m,hm⟩:=hg.2
 have hld:=lead_any s.seen way true W S L.ps L.sc m h.cells.2.2 h.data.now.seen (seenU_right s.all) hw hm
 have HA : Aside (SysAt base W S s L):=h
 obtain ⟨e,he⟩ : ∃ e,e = (leadL s.seen true way.data.toList).1:=⟨_,rfl⟩
 obtain ⟨q,hq⟩ : ∃ q,q = (leadL s.seen true way.data.toList).2:=⟨_,rfl⟩
 have hq80 : q.length ≤ 80:=by rw [hq];exact lead_len _ _ _
 unfold Sy.statErr Sy.statAns
 rw [← he,← hq] at hld ⊢
 clear hm he hq h hg
 by_cases h0 : e = 0
 ·subst h0
  simp only [not_true_eq_false,if_false]
  have hgt:=fun (d : ByteArray) (hd : d.data.toList = q) Y (hY : Below W.heap.size W Y) => sys_get HA.out hY d (by have:=szl d;rw [hd] at this;unfold maxLen;omega) ((getL s.seen q).getD zeroE) (by rw [hd]) s.seen.length rfl
  obtain ⟨sn,hsn⟩ : ∃ sn,sn = s.seen.length:=⟨_,rfl⟩
  have HSN : Aside (sn = s.seen.length):=hsn
  rw [← hsn] at hgt
  generalize (getL s.seen q).getD zeroE = x at hgt ⊢
  obtain ⟨xp,xk,xt,xo⟩:=x
  simp only at hgt ⊢
  clear hsn
  cases hb : (getL s.seen q).isSome with
  | false =>
   simp only [Bool.false_eq_true,if_false]
   go_enter Tryz.func90,Tryz.ntmps90
   go_wp2_with (first
    | (go_at_call 121;refine hld.mono ?_;clear hld;rintro r w3 ⟨d,rfl,hd,hB3⟩;have hgd:=hgt d hd w3 hB3;rw [hd,hb] at hgd;clear hgt;have c2:=(HA.out.kept hB3).cells.2.2;rw [← HSN.out] at c2)
    | (go_at_call 27;refine hgd.mono ?_;clear hgd;rintro r w4 ⟨rfl,hB4⟩))
   go_ret2
   have hB:=Below.onto hB3 hB4
   exact StepPost.no _ (by decide) (hB.alloc hB.size _)
  | true =>
   simp only [if_true]
   go_enter Tryz.func90,Tryz.ntmps90
   go_wp2_with (first
    | (go_at_call 121;refine hld.mono ?_;clear hld;rintro r w3 ⟨d,rfl,hd,hB3⟩;have hgd:=hgt d hd w3 hB3;rw [hd,hb] at hgd;clear hgt;have c2:=(HA.out.kept hB3).cells.2.2;rw [← HSN.out] at c2)
    | (go_at_call 27;refine hgd.mono ?_;clear hgd;rintro r w4 ⟨rfl,hB4⟩))
   go_ret2
   have hB:=Below.onto hB3 hB4
   have hB5:=hB.alloc hB.size (.cells #[.string xp,.int .i64 xk,.string xt,.bool xo] 53)
   exact ⟨_,rfl,hB5,fun _ => ⟨_,_,rfl,enters_of Tryz.func136 (by kernel_rfl) rfl,statDo (HA.out.kept hB5) w4.heap.size xk xt (by simp) (by simp)⟩⟩
 ·have hne : (e != 0) = true:=by simpa using h0
  rw [if_pos h0]
  go_enter Tryz.func90,Tryz.ntmps90
  go_wp2_with (go_at_call 121;refine hld.mono ?_;clear hld;rintro r w3 ⟨d,rfl,hd,hB3⟩)
  go_ret2
  exact StepPost.no _ h0 hB3
theorem LiesS.st {sp : Nat → Prop} {w : World} {p : Option Addr} {bs : List ByteArray} (h : LiesS w p bs) (hn : ∀ b off s,p = some ⟨b,off,s⟩ → ¬ sp b) : St sp w (fun Y => LiesS Y p bs):=fun X hX => by
 rcases h with h | ⟨b,off,hp,hb,hc⟩
 ·exact .inl h
 ·exact .inr ⟨b,off,hp,Nat.lt_of_lt_of_le hb hX.size,fun j x hx => (cell_eq (hX.block b hb (hn b off none hp)) _).trans (hc j x hx)⟩
namespace PM
def Sy.listErr (s : Sy) (way : ByteArray) : Int:=if ¬ (leadL s.seen true way.data.toList).1 = 0 then (leadL s.seen true way.data.toList).1 else (listL s.seen (leadL s.seen true way.data.toList).2).2
def Sy.listAns (s : Sy) (way : ByteArray) : An:=⟨0,0,⟨#[]⟩,(listL s.seen (leadL s.seen true way.data.toList).2).1⟩
end PM
set_option maxHeartbeats 1000000 in
theorem sysList_any {base : Nat} {W : World} {S : Nat} {s : Sy} {L : Lay6} (h : SysAt base W S s L) (hg : Gl base W) (way : ByteArray) (hw : way.size ≤ maxLen) :
  Calls Tryz.prog 89 #[.pointer (some ⟨S,0,none⟩),.string way] W (StepPost base S s L (s.listErr way) s (s.listAns way) W):=by
 obtain ⟨m,hm⟩:=hg.2
 have hld:=lead_any s.seen way true W S L.ps L.sc m h.cells.2.2 h.data.now.seen (seenU_right s.all) hw hm
 have HA : Aside (SysAt base W S s L):=h
 obtain ⟨e,he⟩ : ∃ e,e = (leadL s.seen true way.data.toList).1:=⟨_,rfl⟩
 obtain ⟨q,hq⟩ : ∃ q,q = (leadL s.seen true way.data.toList).2:=⟨_,rfl⟩
 have hq80 : q.length ≤ 80:=by rw [hq];exact lead_len _ _ _
 unfold Sy.listErr Sy.listAns
 rw [← he,← hq] at hld ⊢
 clear hm he hq h hg
 by_cases h0 : e = 0
 ·subst h0
  simp only [not_true_eq_false,if_false]
  have hgt:=fun (d : ByteArray) (hd : d.data.toList = q) Y (hY : Below W.heap.size W Y) => list_any s.seen d L.ps L.sc Y (HA.out.kept hY).data.now.seen (seen_fits s) (seenU_right s.all) (by have:=szl d;rw [hd] at this;unfold maxLen;omega)
  obtain ⟨sn,hsn⟩ : ∃ sn,sn = s.seen.length:=⟨_,rfl⟩
  have HSN : Aside (sn = s.seen.length):=hsn
  rw [← hsn] at hgt
  clear hsn
  go_enter Tryz.func89,Tryz.ntmps89
  go_wp2_with (first
   | (go_at_call 121;refine hld.mono ?_;clear hld;rintro r w3 ⟨d,rfl,hd,hB3⟩;have hgd:=hgt d hd w3 hB3;rw [hd] at hgd;clear hgt;have c2:=(HA.out.kept hB3).cells.2.2;rw [← HSN.out] at c2)
   | (go_at_call 134;refine hgd.mono ?_;clear hgd;intro r w4 hE;obtain ⟨p1,k1,cc1,bs1,rfl,HS1,HB4⟩:=parse_parts hE;clear hE))
  go_ret2
  have hB:=Below.onto hB3 HB4.out
  have hB4:=((Grown.refl w4).alloc (.cells #[.slice p1 k1 cc1] 36)).below
  have hB5:=Below.onto hB hB4
  obtain ⟨hk1,hS1,hl1⟩:=HS1.out
  subst hk1
  obtain ⟨p2,c2',hv,hLS,hcap,hnil,hfar⟩:=hS1.formS
  injection hv with e1 e2 e3
  subst e1 e3
  refine ⟨_,rfl,hB5,fun _ => ⟨_,_,rfl,enters_of Tryz.func135 (by kernel_rfl) rfl,listDo (HA.out.kept hB5) w4.heap.size _ _ bs1 _ rfl (by simp) hcap hnil (St.on (LiesS.st hLS (fun b off s' e hsp => ?_)) (Keep.of_below _ hB4)) _ hl1⟩⟩
  have h1:=hfar b off s' e
  have h2:=(HA.out.spBase hsp).2
  have h3:=hB3.size
  omega
 ·have hne : (e != 0) = true:=by simpa using h0
  rw [if_pos h0]
  go_enter Tryz.func89,Tryz.ntmps89
  go_wp2_with (go_at_call 121;refine hld.mono ?_;clear hld;rintro r w3 ⟨d,rfl,hd,hB3⟩)
  go_ret2
  exact StepPost.no _ h0 hB3
end Go.Proofs.YthfeoiffoeagkaaGreatDoor
