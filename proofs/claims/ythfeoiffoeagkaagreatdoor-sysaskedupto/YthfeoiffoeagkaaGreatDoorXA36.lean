/-
  union.Copy.
-/
import Derived.Test.YthfeoiffoeagkaaGreatDoorXA35
import Derived.Deep.RegionLaw
import Derived.ArgAppend
namespace Go.Proofs.YthfeoiffoeagkaaGreatDoor
open Go.RowKit PM Go.Sort
set_option linter.unusedVariables false
theorem Hl {W : World} {H : Nat} (h : W.heap[H]? = some (.cells #[] 53 (0,0))) : W.ownsRow H 53 4 (.slice (some ⟨H,0,none⟩) 0 0) 0 [] :=
 ⟨rfl,.inr ⟨H,0,#[],rfl,Nat.le_refl _,h,Nat.le_refl _,by decide,rfl,rfl⟩⟩
theorem rA {ops : Array Oper} {o : Oper} {a : Act} {K : Act → World → Prop} {Q : Exit → Act → World → Prop} {E : Prop} {X : World} (hgd : o.guard = none) (s x : Operand)
  (ho : o.op = .call { callee:=.builtin .append,args:=#[s,x],argTypes:=#[23,23] }) (H : Nat) (hs : a.eval s = .slice (some ⟨H,0,none⟩) 0 0) (hh : X.heap[H]? = some (.cells #[] 53 (0,0)))
  (p : Option Addr) (n cap : Nat) (t : List Ent) (hx : a.eval x = .slice p n cap) (hn : n = t.length) (hL : Lies X p t) (hnil : p = none → cap = 0) (h80 : n ≤ 80)
  (h : ∀ g c w',Own w' g c t → H ≤ g → Below H X w' → (∀ b,b < X.heap.size → b ≠ H → w'.heap[b]? = X.heap[b]?) → K (a.put o.dst (.slice (some ⟨g,0,none⟩) n c)) w') :
  if Region.wanted o (yielded ops a.tmps) = true then Oper.wp Tryz.prog o a X K Q else E:=by
 have hw : Region.wanted o (yielded ops a.tmps) = true:=by simp [Region.wanted,hgd]
 rw [if_pos hw]
 have hown:=Hl hh
 have hH : H ≤ X.heap.size:=Nat.le_of_lt (Array.getElem?_eq_some_iff.1 hh).1
 obtain ⟨i0,hi,hz0,hz1,hz2⟩:=nW
 cases p with
 | none =>
  obtain rfl : cap = 0:=hnil rfl
  have ht : t = []:=by
   rcases hL with h | ⟨b,off,he,_⟩
   ·exact h
   ·cases he
  subst ht
  obtain rfl : n = 0:=hn
  have hrun:=run_append_owned_none (P:=Tryz.prog) (w:=X) H 23 o.type 53 i0 4 Tryz.underlying23 hi _ 0 [] hown
  unfold Oper.wp execOp
  simp only [ho,resolve,invoke,builtin,Sem.run_bind,Sem.run_pure,Result.andThen_ok,List.map_toArray,List.map_cons,List.map_nil,hs,hx,hrun]
  obtain ⟨g,c,hv,hg,ho'⟩:=Own.iU (t:=[]) hown (by simp) rfl
  simp only [List.length_nil] at hv
  rw [hv]
  exact h g c X ho' hg (Below.refl _ _) (fun _ _ _ => rfl)
 | some ad =>
  refine wp_append_own X s x 23 ho H 53 i0 _ 4 48 Tryz.underlying23 hi hz0 hz1 hz2 rfl (by decide) _ 0 [] hs hown ad n cap (t.flatMap encE) hx (by rw [dK,hn]) (hL.flat (Below.refl _ _)) (fun u hu => gF hu) (by unfold maxLen;omega) (by omega) hH ?_
  intro v' w' hrow hg hiff
  rw [List.nil_append,Nat.zero_add] at hrow
  obtain ⟨g,c,hv,hgg,ho'⟩:=Own.iU hrow (by intro e;have:=(hiff.1 e).1;cases this) hn
  rw [hv,← hn]
  exact h g c w' ho' hgg ((Below.refl H X).grown hg hH (fun k hk => by simp [Value.ownBlock] at hk;omega)) (fun b hb hne => hg.block b hb (fun e => hne (by simp [Value.ownBlock] at e;exact e)))
def zM (up : List Ent) (lows : List (List Ent)) (w : World) (r : Ending) (w' : World) : Prop:=∃ (y : Lay) (lo : List Lay) (pl : Option Addr) (cl yn ln : Nat),r = .returned (.agg #[.slice y.ad yn y.cap,.slice pl ln cl]) ∧ Aside (yn = y.es.length ∧ ln = lo.length ∧ y.es = up ∧ lo.map (·.es) = lows ∧ UnOK w' y lo pl cl ∧ Below w.heap.size w w' ∧ jL w.heap.size y lo pl)
theorem fq.copy {up : List Ent} {lows : List (List Ent)} {w w' : World} {a b : Value} (h : fq 0 up lows w (.returned (.tuple #[.agg #[a,b],.int .i64 0])) w') : zM up lows w (.returned (.agg #[a,b])) w':=by
 obtain ⟨y,lo,pl,cl,e,h1⟩:=h
 injection e with e
 injection e with e
 have e:=(Array.mk.inj e)
 injection e with e _
 rw [e]
 exact ⟨y,lo,pl,cl,_,_,rfl,rfl,rfl,h1⟩
set_option maxRecDepth 100000 in
set_option maxHeartbeats 4000000 in
theorem yD (y : Lay) (ls : List Lay) (pl : Option Addr) (cl : Nat) (w : World) (hUn : UnOK w y ls pl cl) (hy80 : y.es.length ≤ 80) (hl80 : ∀ x ∈ ls,x.es.length ≤ 80) (h4 : ls.length ≤ 4) :
  Calls Tryz.prog 39 #[.agg #[.slice y.ad y.es.length y.cap,.slice pl ls.length cl]] w (zM y.es (ls.map (·.es)) w):=by
 obtain ⟨X,hX⟩ : ∃ X,(w.alloc (.cells #[.slice y.ad y.es.length y.cap,.slice pl ls.length cl] 26)).alloc (.cells #[.slice none 0 0,.slice none 0 0] 26) = X:=⟨_,rfl⟩
 have hBX : Below w.heap.size w X:=by rw [← hX];exact ((Below.refl _ _).alloc (Nat.le_refl _) _).alloc (by simp) _
 have hsX : X.heap.size = w.heap.size + 2:=by rw [← hX];simp
 have hcp : ∀ W,Below X.heap.size X W → Calls Tryz.prog 57 #[.slice pl ls.length cl] W (qM (ls.map (·.es)) W):=fun W hW => by
  have h:=(hUn.kept hBX).kept hW
  exact wF ls pl cl W h.lies (fun x hx => ⟨(h.each x hx).1.lies,(h.each x hx).2,hl80 x hx⟩) h4
 have bx:=gI hX
 have br:=cZ hX
 have HU : Aside (UnOK w y ls pl cl ∧ Below w.heap.size w X ∧ (w.alloc (.cells #[.slice y.ad y.es.length y.cap,.slice pl ls.length cl] 26)).alloc (.cells #[.slice none 0 0,.slice none 0 0] 26) = X ∧ (∀ x ∈ ls,x.es.length ≤ 80) ∧ y.es.length ≤ 80 ∧ X.heap.size = w.heap.size + 2 ∧ X.heap[w.heap.size]? = some (.cells #[.slice y.ad y.es.length y.cap,.slice pl ls.length cl] 26) ∧ X.heap[w.heap.size + 1]? = some (.cells #[.slice none 0 0,.slice none 0 0] 26)):=⟨hUn,hBX,hX,hl80,hy80,hsX,bx,br⟩
 have hla : ∀ W,Below X.heap.size X W → Lies W y.ad y.es:=fun W hW => ((hUn.kept hBX).kept hW).up.lies
 have hupn:=hUn.upn
 have q0 : X.cell? ⟨w.heap.size,0,none⟩ = some (.slice y.ad y.es.length y.cap):=by simp [World.cell?,bx]
 have q1 : X.cell? ⟨w.heap.size,1,none⟩ = some (.slice pl ls.length cl):=by simp [World.cell?,bx]
 have r0 : X.cell? ⟨w.heap.size + 1,0,none⟩ = some (.slice none 0 0):=by simp [World.cell?,br]
 have lw : w.heap.size < X.heap.size:=by omega
 have lr : w.heap.size + 1 < X.heap.size:=by omega
 obtain ⟨yn,hyn⟩ : ∃ yn,yn = y.es.length:=⟨_,rfl⟩
 obtain ⟨ln,hln⟩ : ∃ ln,ln = ls.length:=⟨_,rfl⟩
 have HN : Aside (yn = y.es.length ∧ ln = ls.length):=⟨hyn,hln⟩
 have HX : Aside ((w.alloc (.cells #[.slice y.ad yn y.cap,.slice pl ln cl] 26)).alloc (.cells #[.slice none 0 0,.slice none 0 0] 26) = X):=by rw [hyn,hln];exact hX
 rw [← hyn] at q0
 rw [← hln] at q1 hcp
 rw [← hyn,← hln]
 have hy80' : yn ≤ 80:=by omega
 have n0:=World.new_ne X ⟨w.heap.size,0,none⟩ q0
 have n1:=World.new_ne X ⟨w.heap.size + 1,0,none⟩ r0
 clear hUn hBX hX bx br hyn hln hsX hl80 hy80
 have hgoA : True:=trivial
 have hgoC : True:=trivial
 go_enter Tryz.func39,Tryz.ntmps39
 go_wp2
 rw [HX.out]
 go_region_law (first
  | (refine rA rfl _ _ rfl X.heap.size (by first | (simp [Act.eval];done) | fail) (by first | exact heap_alloc_last X _ | fail) y.ad yn y.cap y.es (by first | (simp [Act.eval];done) | fail) HN.out.1 (by first | exact hla _ (((Grown.refl X).alloc _).below.drew) | fail) hupn hy80' ?_;clear hgoA;intro g c w4 hO hg hB4 hk4;have HO4 : Aside (Own w4 g c y.es ∧ X.heap.size ≤ g):=⟨hO,hg⟩;have hX4 : Below X.heap.size X w4:=(((Below.refl _ _).alloc (Nat.le_refl _) _).drew).trans hB4;have m1:=(hX4.cell (p:=⟨w.heap.size,1,none⟩) lw).trans q1;clear hO hg hB4 hk4;have hord1 : True:=trivial)
  | (go_simp;go_at_call 57;refine (hcp _ (Below.refl _ _).drew).mono ?_;clear hcp hgoC;rintro r w3 ⟨⟨v8,lo,rfl,hR8,hm8,hL8⟩,hN8⟩;obtain ⟨p8,c8,hv8,_⟩:=hR8.vM;subst hv8;obtain ⟨l8,hl8⟩ : ∃ l8,l8 = lo.length:=⟨_,rfl⟩;have HL8 : Aside (l8 = lo.length):=hl8;rw [← hl8] at hR8 ⊢;clear hl8;have hX3 : Below X.heap.size X w3:=((Below.refl _ _).drew).trans hN8;have m0:=(hX3.cell (p:=⟨w.heap.size,0,none⟩) lw).trans q0;have H8 : Aside (bn w3 X.heap.size (.slice p8 l8 c8) lo ∧ lo.map (·.es) = ls.map (·.es) ∧ ∀ x ∈ lo,jA X.heap.size w3 x):=⟨hR8,hm8,hL8⟩;clear hR8 hm8 hL8 hN8;have n3:=World.new_ne w3 ⟨w.heap.size,0,none⟩ m0;have hord3 : True:=trivial)
  | (go_simp;go_at_call 57;refine (hcp _ (((Grown.refl X).alloc _).below.drew)).mono ?_;clear hcp hgoC;rintro r w3 ⟨⟨v8,lo,rfl,hR8,hm8,hL8⟩,hN8⟩;obtain ⟨p8,c8,hv8,_⟩:=hR8.vM;subst hv8;obtain ⟨l8,hl8⟩ : ∃ l8,l8 = lo.length:=⟨_,rfl⟩;have HL8 : Aside (l8 = lo.length):=hl8;rw [← hl8] at hR8 ⊢;clear hl8;have hX3 : Below X.heap.size X w3:=Below.onto (((Grown.refl X).alloc _).below.drew) hN8;have m0:=(hX3.cell (p:=⟨w.heap.size,0,none⟩) lw).trans q0;have H8 : Aside (bn w3 (X.heap.size + 1) (.slice p8 l8 c8) lo ∧ lo.map (·.es) = ls.map (·.es) ∧ (∀ x ∈ lo,jA (X.heap.size + 1) w3 x) ∧ w3.heap[X.heap.size]? = some (.cells #[] 53)):=⟨by simpa using hR8,hm8,by simpa using hL8,(hN8.block _ (by show X.heap.size < (X.alloc _).heap.size;simp)).trans (heap_alloc_last X _)⟩;clear hR8 hm8 hL8 hN8;have hord2 : True:=trivial)
  | (clear hord1;go_simp;go_at_call 57;refine (hcp _ hX4).mono ?_;clear hcp hgoC;rintro r w8 ⟨⟨v8,lo,rfl,hR8,hm8,hL8⟩,hN8⟩;obtain ⟨p8,c8,hv8,_⟩:=hR8.vM;subst hv8;obtain ⟨l8,hl8⟩ : ∃ l8,l8 = lo.length:=⟨_,rfl⟩;have HL8 : Aside (l8 = lo.length):=hl8;rw [← hl8] at hR8 ⊢;clear hl8;have hX8 : Below X.heap.size X w8:=Below.onto hX4 hN8;have H8 : Aside (bn w8 X.heap.size (.slice p8 l8 c8) lo ∧ lo.map (·.es) = ls.map (·.es) ∧ (∀ x ∈ lo,jA X.heap.size w8 x) ∧ Own w8 g c y.es ∧ X.heap.size ≤ g):=⟨hR8.mono hX4.size,hm8,fun x hx => (by obtain ⟨b,e1,e2,e3⟩:=hL8 x hx;exact ⟨b,e1,e2,Nat.le_trans hX4.size e3⟩),HO4.out.1.below hN8 HO4.out.1.lt,HO4.out.2⟩;clear hR8 hm8 hL8 hN8 HO4;have k8 : w8.heap[w.heap.size + 1]? = some (.cells #[.slice none 0 0,.slice none 0 0] 26):=(hX8.block _ lr).trans HU.out.2.2.2.2.2.2.2;have x0 : w8.cell? ⟨w.heap.size + 1,0,none⟩ = some (.slice none 0 0):=(by simp [World.cell?,k8]);have x1 : w8.cell? ⟨w.heap.size + 1,1,none⟩ = some (.slice none 0 0):=(by simp [World.cell?,k8]);have f0 : w8.frozen? ⟨w.heap.size + 1,0,none⟩ = false:=(by simp [World.frozen?,k8]);have f1 : w8.frozen? ⟨w.heap.size + 1,1,none⟩ = false:=(by simp [World.frozen?,k8]);have HX8 : Aside (Below X.heap.size X w8):=hX8;clear hX8 k8)
  | (clear hord2;refine rA rfl _ _ rfl X.heap.size (by first | (simp [Act.eval];done) | fail) (by first | exact H8.out.2.2.2 | fail) y.ad yn y.cap y.es (by first | (simp [Act.eval];done) | fail) HN.out.1 (by first | exact hla _ hX3 | fail) hupn hy80' ?_;clear hgoA;intro g c w8 hO hg hB4 hk4;have hX8 : Below X.heap.size X w8:=hX3.trans hB4;have H9 : Aside (bn w8 X.heap.size (.slice p8 l8 c8) lo ∧ lo.map (·.es) = ls.map (·.es) ∧ (∀ x ∈ lo,jA X.heap.size w8 x) ∧ Own w8 g c y.es ∧ X.heap.size ≤ g):=⟨(H8.out.1.at (fun b h1 h2 => hk4 b h2 (by omega))).mono (by omega),H8.out.2.1,fun x hx => (by obtain ⟨b,e1,e2,e3⟩:=H8.out.2.2.1 x hx;exact ⟨b,e1,e2.kept (hk4 b e2.lt (by omega)),by omega⟩),hO,hg⟩;clear H8;have H8:=H9;clear H9 hO hg hB4 hk4;have k8 : w8.heap[w.heap.size + 1]? = some (.cells #[.slice none 0 0,.slice none 0 0] 26):=(hX8.block _ lr).trans HU.out.2.2.2.2.2.2.2;have x0 : w8.cell? ⟨w.heap.size + 1,0,none⟩ = some (.slice none 0 0):=(by simp [World.cell?,k8]);have x1 : w8.cell? ⟨w.heap.size + 1,1,none⟩ = some (.slice none 0 0):=(by simp [World.cell?,k8]);have f0 : w8.frozen? ⟨w.heap.size + 1,0,none⟩ = false:=(by simp [World.frozen?,k8]);have f1 : w8.frozen? ⟨w.heap.size + 1,1,none⟩ = false:=(by simp [World.frozen?,k8]);have HX8 : Aside (Below X.heap.size X w8):=hX8;clear hX8 k8)
  | (clear hord3;refine rA rfl _ _ rfl w3.heap.size (by first | (simp [Act.eval];done) | fail) (by first | exact heap_alloc_last w3 _ | fail) y.ad yn y.cap y.es (by first | (simp [Act.eval];done) | fail) HN.out.1 (by first | exact hla _ (Below.onto hX3 ((Grown.refl w3).alloc _).below) | fail) hupn hy80' ?_;clear hgoA;intro g c w8 hO hg hB4 hk4;have hN8 : Below w3.heap.size w3 w8:=((Below.refl _ _).alloc (Nat.le_refl _) _).trans hB4;have hX8 : Below X.heap.size X w8:=Below.onto hX3 hN8;have H9 : Aside (bn w8 X.heap.size (.slice p8 l8 c8) lo ∧ lo.map (·.es) = ls.map (·.es) ∧ (∀ x ∈ lo,jA X.heap.size w8 x) ∧ Own w8 g c y.es ∧ X.heap.size ≤ g):=⟨H8.out.1.below hN8,H8.out.2.1,fun x hx => (by obtain ⟨b,e1,e2,e3⟩:=H8.out.2.2 x hx;exact ⟨b,e1,e2.below hN8 e2.lt,e3⟩),hO,Nat.le_trans hX3.size hg⟩;clear H8;have H8:=H9;clear H9 hO hg hB4 hk4 hN8;have k8 : w8.heap[w.heap.size + 1]? = some (.cells #[.slice none 0 0,.slice none 0 0] 26):=(hX8.block _ lr).trans HU.out.2.2.2.2.2.2.2;have x0 : w8.cell? ⟨w.heap.size + 1,0,none⟩ = some (.slice none 0 0):=(by simp [World.cell?,k8]);have x1 : w8.cell? ⟨w.heap.size + 1,1,none⟩ = some (.slice none 0 0):=(by simp [World.cell?,k8]);have f0 : w8.frozen? ⟨w.heap.size + 1,0,none⟩ = false:=(by simp [World.frozen?,k8]);have f1 : w8.frozen? ⟨w.heap.size + 1,1,none⟩ = false:=(by simp [World.frozen?,k8]);have HX8 : Aside (Below X.heap.size X w8):=hX8;clear hX8 k8))
 all_goals
  go_wp2
  obtain ⟨s0,s1⟩:=qm (.slice (some ⟨g,0,none⟩) yn c) (.slice p8 l8 c8) x0 x1
  refine bodyPost_ret (v:=.agg #[.slice (some ⟨g,0,none⟩) yn c,.slice p8 l8 c8]) (by simp [results,Tryz.results39,go_sem,s0,s1]) rfl ?_
  obtain ⟨u1,u2,u3,u4,u5,u6,u7,u8⟩:=HU.out
  obtain ⟨a1,a2,a3,a4,a5⟩:=H8.out
  have hR : bn w8 X.heap.size (.slice p8 l8 c8) lo:=a1
  exact (Fp (ls:=ls) (by rw [u3,← u6];exact HX8.out) a4 (by omega) hR (by omega) a2 a3 u1.up.fits u5 u4 (fun x hx => (u1.each x hx).1.fits) HN.out.1 HL8.out _ _).copy
structure Av where
 err : Int
 n : Int
 text : ByteArray
 p : Option Addr
 k : Nat
 c : Nat
def encA (y : Av) : List Value:=[.int .i64 y.err,.int .i64 y.n,.string y.text,.slice y.p y.k y.c]
theorem sU {e : Av} {i : Nat} {v : Value} (h : (encA e)[i]? = some v) : i < 4:=by
 have:=(List.getElem?_eq_some_iff.1 h).1;exact this
theorem zZ {t : List Av} {j i : Nat} {e : Av} {v : Value} (h : t[j]? = some e) (hv : (encA e)[i]? = some v) : (t.flatMap encA)[j * 4 + i]? = some v:=by
 have hi:=sU hv
 induction t generalizing j with
 | nil => simp at h
 | cons x r ih =>
  rw [List.flatMap_cons]
  cases j with
  | zero => simp at h;subst h;rw [List.getElem?_append_left (by show _ < 4;omega)];simpa using hv
  | succ j =>
   rw [List.getElem?_append_right (by show 4 ≤ _;omega),show (j + 1) * 4 + i - (encA x).length = j * 4 + i from by show (j + 1) * 4 + i - 4 = _;omega]
   exact ih (by simpa using h)
theorem ng {t : List Av} {u : Value} (h : u ∈ t.flatMap encA) : u.oneCell' = true:=by
 obtain ⟨e,_,he⟩:=List.mem_flatMap.1 h
 simp [encA] at he
 rcases he with rfl | rfl | rfl | rfl <;> rfl
theorem Iq : ∃ i0,Tryz.prog.info? 38 = some i0 ∧ i0.zero = some (.agg #[.int .i64 0,.int .i64 0,.string ⟨#[]⟩,.slice none 0 0]) ∧ i0.size = 4 ∧ i0.bytes = 56:=by
 have h : (Tryz.prog.info? 38).map (fun i => (i.zero,i.size,i.bytes)) = some (some (.agg #[.int .i64 0,.int .i64 0,.string ⟨#[]⟩,.slice none 0 0]),4,56):=by kernel_rfl
 cases hi : Tryz.prog.info? 38 with
 | none => rw [hi] at h;cases h
 | some i0 =>
  rw [hi] at h
  simp only [Option.map_some,Option.some.injEq,Prod.mk.injEq] at h
  exact ⟨i0,rfl,h.1,h.2.1,h.2.2⟩
def aW (w : World) (base : Nat) (v : Value) (l : List Av) : Prop:=w.ownsRow base 38 4 v l.length (l.flatMap encA)
theorem aW.nil (w : World) (base : Nat) : aW w base (.slice none 0 0) []:=World.ownsRow_nil _ _ _ _
theorem aW.own {w : World} {base : Nat} {v : Value} {l : List Av} (h : aW w base v l) {g : Nat} (hg : v.ownBlock = some g) : base ≤ g ∧ ∃ cur,w.heap[g]? = some (.cells cur 38 (0,0)):=by
 obtain ⟨_,⟨e,_⟩ | ⟨g',cap,cur,e,hb,hh,_⟩⟩:=h
 ·rw [e] at hg;cases hg
 ·rw [e] at hg
  simp [Value.ownBlock] at hg
  subst hg
  exact ⟨hb,cur,hh⟩
theorem aW.at {w w' : World} {base : Nat} {v : Value} {l : List Av} (h : aW w base v l) (hk : ∀ g,v.ownBlock = some g → w'.heap[g]? = w.heap[g]?) : aW w' base v l:=by
 refine ⟨h.1,h.2.imp id ?_⟩
 rintro ⟨g,cap,cur,e,hg,hh,r⟩
 exact ⟨g,cap,cur,e,hg,(hk g (by rw [e];rfl)).trans hh,r⟩
theorem Gx (W : World) (y : Av) : ∀ j u,(encA y)[j]? = some u → (W.alloc (.cells #[.int .i64 y.err,.int .i64 y.n,.string y.text,.slice y.p y.k y.c] 38)).cell? ((⟨W.heap.size,0,none⟩ : Addr).add j) = some u:=by
 intro j u h
 have hj:=sU h
 obtain rfl | rfl | rfl | rfl : j = 0 ∨ j = 1 ∨ j = 2 ∨ j = 3:=by omega
 all_goals (simp [encA] at h;subst h;rw [Addr.add_lit];simp)
theorem AV {ops : Array Oper} {rest : List Oper} {o : Oper} {a : Act} {Q : Exit → Act → World → Prop} (Z : World) (H : Nat) (y : Av) (hgd : o.guard = none) (s x : Operand)
  (ho : o.op = .call { callee:=.builtin .append,args:=#[s,x],argTypes:=#[30,30] }) (base : Nat) (v : Value) (l : List Av) (hs : a.eval s = v) (hrow2 : aW Z base v l) (hlen : l.length ≤ 20000) (hbase : base ≤ Z.heap.size)
  (hx : a.eval x = .slice (some ⟨H,0,none⟩) 1 1)
  (hnew : ∀ j u,(encA y)[j]? = some u → Z.cell? ((⟨H,0,none⟩ : Addr).add j) = some u)
  (h : ∀ v' w',aW w' base v' (l ++ [y]) → Z.heap.size ≤ w'.heap.size → (∀ b,b < Z.heap.size → v.ownBlock ≠ some b → w'.heap[b]? = Z.heap[b]?) → (∀ g,v'.ownBlock = some g → v.ownBlock = some g ∨ Z.heap.size ≤ g) → Below base Z w' → wpList Tryz.prog ops Q rest (a.put o.dst v') w') :
  wpList Tryz.prog ops Q (o :: rest) a Z:=by
 obtain ⟨i0,hi,hz0,hz1,hz2⟩:=Iq
 have hB0 : Below base Z Z:=Below.refl base Z
 obtain ⟨hl1,⟨hv,hn0⟩ | ⟨g,cap,cur,hv,hg,hh,hnc,hm,hcs,ht⟩⟩:=id hrow2
 ·refine wpList_append_grows Z hgd s x 30 ho 38 i0 _ 4 56 Tryz.underlying30 hi hz0 hz1 hz2 rfl (by decide) none 0 0 [] (by rw [hs,hv]) (fun _ => ⟨rfl,rfl⟩) rfl nofun ⟨H,0,none⟩ 1 1 (encA y) hx rfl hnew (fun u hu => ng (t:=[y]) (by simpa using hu)) (by omega) (by unfold maxLen;omega) (by omega) ?_
  intro v' w' hown hgrow
  have hl : l = []:=List.eq_nil_of_length_eq_zero hn0
  subst hl
  have hR : aW w' Z.heap.size v' [y]:=by simpa [aW] using hown
  refine h v' w' ⟨hR.1,hR.2.imp id (fun ⟨g,c,cu,e,h1,r⟩ => ⟨g,c,cu,e,by omega,r⟩)⟩ (by have:=hgrow.size;omega) (fun b hb hne => (hgrow.block b (by omega) (by simp))) (fun g hg => .inr (by have:=(hR.own hg).1;omega)) (hB0.grown hgrow (by omega) (fun k hk => by simp at hk))
 ·rcases Nat.lt_or_ge cap (l.length + 1) with hfull | hroom
  ·refine wpList_append_grows Z hgd s x 30 ho 38 i0 _ 4 56 Tryz.underlying30 hi hz0 hz1 hz2 rfl (by decide) (some ⟨g,0,none⟩) l.length cap (l.flatMap encA) (by rw [hs,hv]) nofun hl1 (fun b hb => by cases hb;exact World.ownsRow.cells hrow2 (by rw [hv];rfl)) ⟨H,0,none⟩ 1 1 (encA y) hx rfl hnew (fun u hu => ng (t:=[y]) (by simpa using hu)) hfull (by unfold maxLen;omega) (by omega) ?_
   intro v' w' hown hgrow
   have hR : aW w' Z.heap.size v' (l ++ [y]):=by simpa [aW] using hown
   refine h v' w' ⟨hR.1,hR.2.imp id (fun ⟨g,c,cu,e,h1,r⟩ => ⟨g,c,cu,e,by omega,r⟩)⟩ (by have:=hgrow.size;omega) (fun b hb hne => (hgrow.block b (by omega) (by simp))) (fun g hg => .inr (by have:=(hR.own hg).1;omega)) (hB0.grown hgrow (by omega) (fun k hk => by simp at hk))
  ·refine wpList_plain hgd fun K hK => ?_
   obtain ⟨v',w',hr,h2,h3,_⟩:=run_append_own (P:=Tryz.prog) Z base 30 o.type 38 i0 _ 4 56 Tryz.underlying30 hi hz0 hz1 hz2 rfl (by decide) v l.length (l.flatMap encA) hrow2 ⟨H,0,none⟩ 1 1 (encA y) rfl hnew (fun u hu => ng (t:=[y]) (by simpa using hu)) (by unfold maxLen;omega) (by omega) (by omega)
   have hr2:=run_append_room_cells (P:=Tryz.prog) Z 30 o.type 38 i0 Tryz.underlying30 hi g 0 l.length cap ⟨H,0,none⟩ 1 1 (encA y) (by rw [hz1];rfl) hnew (fun u hu => ng (t:=[y]) (by simpa using hu)) hroom (fun j hj => by
    have hj : j < 4:=hj
    rw [hz1]
    have : l.length * 4 + j < cur.size:=by omega
    rw [Nat.zero_add]
    simp [World.cell?,hh,this]) (fun j hj => by simp [World.frozen?,hh])
   rw [← hv] at hr2
   have hev : v' = .slice (some ⟨g,0,none⟩) (l.length + 1) cap:=by
    rw [hr] at hr2
    injection hr2
   have hR : aW w' base v' (l ++ [y]):=by simpa [aW] using h2
   unfold Oper.wp execOp
   simp only [ho,resolve,invoke,builtin,Sem.run_bind,Sem.run_pure,Result.andThen_ok,List.map_toArray,List.map_cons,List.map_nil,hs,hx,hr]
   refine hK _ _ (h v' w' hR (by have:=h3.size;omega) (fun b hb hne => (h3.block b (by omega) (fun e => hne e.symm))) (fun g' hg' => .inl ?_) (hB0.grown h3 (by omega) (fun k hk => (World.ownsRow.lt hrow2 k hk).1)))
   rw [hev] at hg'
   rw [hv,← hg']
   rfl
theorem Cc {ops : Array Oper} {rest : List Oper} {o : Oper} {a : Act} {Q : Exit → Act → World → Prop} (X : World) (y : Av) (hgd : o.guard = none) (s x : Operand)
  (ho : o.op = .call { callee:=.builtin .append,args:=#[s,x],argTypes:=#[30,30] }) (base : Nat) (v : Value) (l : List Av) (hs : a.eval s = v) (hrow : aW X base v l) (hlen : l.length ≤ 20000) (hbase : base ≤ X.heap.size)
  (hx : a.eval x = .slice (some ⟨X.heap.size,0,none⟩) 1 1)
  (h : ∀ v' w',aW w' base v' (l ++ [y]) → X.heap.size ≤ w'.heap.size → (∀ b,b < X.heap.size → v.ownBlock ≠ some b → w'.heap[b]? = X.heap[b]?) → (∀ g,v'.ownBlock = some g → v.ownBlock = some g ∨ X.heap.size ≤ g) → Below base X w' → wpList Tryz.prog ops Q rest (a.put o.dst v') w') :
  wpList Tryz.prog ops Q (o :: rest) a (X.alloc (.cells #[.int .i64 y.err,.int .i64 y.n,.string y.text,.slice y.p y.k y.c] 38)):=by
 exact AV _ X.heap.size y hgd s x ho base v l hs (World.ownsRow.alloc hrow _) hlen (by simp;omega) hx (Gx X y) fun v' w' h1 h2 h3 h4 h5 => h v' w' h1 (by simp at h2;omega) (fun b hb hne => (h3 b (by simp;omega) hne).trans (((Grown.refl X).alloc _).below.block b hb)) (fun g hg => (h4 g hg).imp id (fun e => by simp at e;omega)) (((Below.refl base X).alloc hbase _).trans h5)
theorem Mine.sp {S : Nat} {s : Sy} {L : Lay6} {b : Nat} (h : Mine S s L b) : Sp S s L b:=by
 rcases h with e | h
 ·exact .inl (.inl e)
 ·exact .inr h
theorem St.step {S : Nat} {s s' : Sy} {L L' : Lay6} {W W' : World} {F : World → Prop} (h : St (Sp S s L) W F) (hk : Keep (Mine S s L) W W') (hs : ∀ b,Sp S s' L' b → Sp S s L b ∨ W.heap.size ≤ b) : St (Sp S s' L') W' F:=fun Y hY =>
 h Y ⟨Nat.le_trans hk.size hY.size,fun b hb hn => (hY.block b (Nat.lt_of_lt_of_le hb hk.size) (fun h2 => (hs b h2).elim hn (fun h3 => by omega))).trans (hk.block b hb (fun hm => hn hm.sp))⟩
theorem St.row {S : Nat} {s : Sy} {L : Lay6} {W W' : World} {F : World → Prop} {G : Nat → Prop} (h : St (Sp S s L) W F) (hk : Keep L.ex W W') (hG : ∀ b,G b → W.heap.size ≤ b) : St (Sp S s { L with ex:=fun b => G b ∨ L.ex b }) W' F:=fun Y hY =>
 h Y ⟨Nat.le_trans hk.size hY.size,fun b hb hn => (hY.block b (Nat.lt_of_lt_of_le hb hk.size) (fun h2 => by
  rcases h2 with (e | (hg | hx)) | h2
  ·exact hn (.inl (.inl e))
  ·have:=hG b hg;omega
  ·exact hn (.inl (.inr hx))
  ·exact hn (.inr h2))).trans (hk.block b hb (fun hx => hn (.inl (.inr hx))))⟩
theorem aj.Iz {base : Nat} {W W' : World} {S : Nat} {s : Sy} {L : Lay6} {G : Nat → Prop} (h : aj base W S s L) (hk : Keep (fun b => L.ex b ∧ ¬ Mine S s L b) W W') (hG : ∀ b,G b → W.heap.size ≤ b ∧ b < W'.heap.size) : aj base W' S s { L with ex:=fun b => G b ∨ L.ex b }:=by
 have hx : Keep L.ex W W':=hk.weak fun b hb => hb.1
 have hbW : base ≤ W.heap.size:=Nat.le_trans h.base.1 (Nat.le_of_lt h.lt)
 refine ⟨?_,fun j o ho => ?_,fun i f hf => ?_,h.injO,h.injF,fun Y hY => ?_,h.up,h.low,h.scap,h.snil,h.val1,h.val2,fun b hb => ?_,h.base⟩
 ·obtain ⟨arr,ha,r⟩:=h.blk
  exact ⟨arr,(hk.block S h.lt (fun e => e.2 (.inl rfl))).trans ha,r⟩
 ·have hj:=(List.getElem?_eq_some_iff.1 ho).1
  exact (hk.block _ (h.olt hj) (fun e => e.2 (.inr (.inl ⟨j,hj,rfl⟩)))).trans (h.opn j o ho)
 ·have hi:=(List.getElem?_eq_some_iff.1 hf).1
  exact (hk.block _ (h.flt hi) (fun e => e.2 (.inr (.inr ⟨i,hi,rfl⟩)))).trans (h.fil i f hf)
 ·have hd:=St.row h.data hx (fun b hb => (hG b hb).1) Y hY
  exact ⟨hd.un,hd.seen,hd.locks⟩
 ·rcases hb with hb | hb
  ·exact ⟨Nat.le_trans hbW (hG b hb).1,(hG b hb).2⟩
  ·exact ⟨(h.exb b hb).1,Nat.lt_of_lt_of_le (h.exb b hb).2 hk.size⟩
theorem uo {base : Nat} {W : World} {S : Nat} {s : Sy} {L : Lay6} (h : aj base W S s L) {g : Nat} {cur : Array Value} (hh : W.heap[g]? = some (.cells cur 38 (0,0))) : ¬ Mine S s L g:=by
 rintro (e | ⟨j,hj,e⟩ | ⟨i,hi,e⟩)
 ·obtain ⟨arr,ha,_⟩:=h.blk
  rw [← e,hh] at ha
  injection ha with ha;injection ha with _ ha _;exact absurd ha (by decide)
 ·have ha:=h.opn j _ (List.getElem?_eq_getElem hj)
  rw [← e,hh] at ha
  injection ha with ha;injection ha with _ ha _;exact absurd ha (by decide)
 ·have ha:=h.fil i _ (List.getElem?_eq_getElem hi)
  rw [← e,hh] at ha
  injection ha with ha;injection ha with _ ha _;exact absurd ha (by decide)
def AvAt (sp : Nat → Prop) (W : World) (an : An) (y : Av) : Prop:=y.err = an.err ∧ y.n = an.n ∧ y.text = an.text ∧ ∃ bs : List ByteArray,y.k = bs.length ∧ bs.map (·.data.toList) = an.names ∧ bs.length ≤ y.c ∧ (y.p = none → y.c = 0) ∧ St sp W (fun Y => dR Y y.p bs)
theorem mP.av {sp : Nat → Prop} {W : World} {an : An} {p : Option Addr} {n c : Nat} (h : mP sp W an (.agg #[.int .i64 an.err,.int .i64 an.n,.string an.text,.slice p n c])) : AvAt sp W an ⟨an.err,an.n,an.text,p,n,c⟩:=by
 obtain ⟨p',c',bs,e,h1,h2,h3,h4⟩:=h
 simp at e
 obtain ⟨rfl,rfl,rfl⟩:=e
 exact ⟨rfl,rfl,rfl,bs,rfl,h1,h2,h3,h4⟩
structure iG (base : Nat) (W : World) (S : Nat) (s : Sy) (L : Lay6) (v : Value) (anl : List An) (row : List Av) : Prop where
 at' : aj base W S s L
 rows : aW W base v row
 own : ∀ g,v.ownBlock = some g → L.ex g
 len : row.length = anl.length
 each : ∀ (i : Nat) (an : An) (y : Av),anl[i]? = some an → row[i]? = some y → AvAt (Sp S s L) W an y
theorem iG.kept {base : Nat} {W W' : World} {S : Nat} {s : Sy} {L : Lay6} {v : Value} {anl : List An} {row : List Av} (h : iG base W S s L v anl row) (hB : Below W.heap.size W W') : iG base W' S s L v anl row:=by
 refine ⟨h.at'.kept hB,h.rows.at (fun g hg => ?_),h.own,h.len,fun i an y h1 h2 => ?_⟩
 ·obtain ⟨_,cur,hh⟩:=h.rows.own hg
  exact hB.block g (Array.getElem?_eq_some_iff.1 hh).1
 ·obtain ⟨e1,e2,e3,bs,e4,e5,e6,e7,e8⟩:=h.each i an y h1 h2
  exact ⟨e1,e2,e3,bs,e4,e5,e6,e7,e8.on (Keep.of_below _ hB)⟩
theorem iG.answered {base : Nat} {W w4 : World} {S : Nat} {s s' : Sy} {L : Lay6} {v : Value} {anl : List An} {row : List Av} {an : An} {p : Option Addr} {n c : Nat} (h : iG base W S s L v anl row) (hd : dU base S s L s' an W (.returned (.agg #[.int .i64 an.err,.int .i64 an.n,.string an.text,.slice p n c])) w4) : Below base W w4 ∧ W.heap.size ≤ w4.heap.size ∧ aW w4 base v row ∧
  ∀ v' w5,aW w5 base v' (row ++ [⟨an.err,an.n,an.text,p,n,c⟩]) → w4.heap.size ≤ w5.heap.size → (∀ b,b < w4.heap.size → v.ownBlock ≠ some b → w5.heap[b]? = w4.heap[b]?) → (∀ g,v'.ownBlock = some g → v.ownBlock = some g ∨ w4.heap.size ≤ g) → ∃ L' : Lay6,(∀ b,L.ex b → L'.ex b) ∧ iG base w5 S s' L' v' (anl ++ [an]) (row ++ [⟨an.err,an.n,an.text,p,n,c⟩]):=by
 obtain ⟨v0,L4,e0,q1,q2,q3,q4,q5,q6⟩:=hd
 injection e0 with e0
 subst e0
 have hrow4 : aW w4 base v row:=h.rows.at (fun g hg => by
  obtain ⟨_,cur,hh⟩:=h.rows.own hg
  exact q5.block g (Array.getElem?_eq_some_iff.1 hh).1 (uo h.at' hh))
 refine ⟨q3,q5.size,hrow4,fun v' w5 hR hsz hk hg => ?_⟩
 have hK : Keep (fun b => L4.ex b ∧ ¬ Mine S s' L4 b) w4 w5:=⟨hsz,fun b hb hn => hk b hb (fun e => hn ⟨q4 b (h.own b e),by
  obtain ⟨_,cur,hh⟩:=hrow4.own e
  exact uo q1 hh⟩)⟩
 have hKx : Keep L4.ex w4 w5:=hK.weak fun b hb => hb.1
 refine ⟨{ L4 with ex:=fun b => (v'.ownBlock = some b ∧ w4.heap.size ≤ b) ∨ L4.ex b },fun b hb => .inr (q4 b hb),⟨q1.Iz hK (fun b hb => ⟨hb.2,?_⟩),hR,fun g hg' => ?_,by simp [h.len],fun i a y h1 h2 => ?_⟩⟩
 ·obtain ⟨_,cur,hh⟩:=hR.own hb.1
  exact (Array.getElem?_eq_some_iff.1 hh).1
 ·rcases hg g hg' with e | hl
  ·exact .inr (q4 g (h.own g e))
  ·exact .inl ⟨hg',hl⟩
 ·have hG : ∀ b,(v'.ownBlock = some b ∧ w4.heap.size ≤ b) → w4.heap.size ≤ b:=fun b hb => hb.2
  rcases iL h1 with ⟨e,rfl⟩ | ⟨hi,h1⟩
  ·rcases iL h2 with ⟨_,rfl⟩ | ⟨hi2,_⟩
   ·obtain ⟨e1,e2,e3,bs,e4,e5,e6,e7,e8⟩:=q2.av
    exact ⟨e1,e2,e3,bs,e4,e5,e6,e7,St.row e8 hKx hG⟩
   ·have:=h.len;omega
  ·rcases iL h2 with ⟨e,_⟩ | ⟨_,h2⟩
   ·have:=h.len;omega
   ·obtain ⟨e1,e2,e3,bs,e4,e5,e6,e7,e8⟩:=h.each i a y h1 h2
    exact ⟨e1,e2,e3,bs,e4,e5,e6,e7,St.row (e8.step q5 q6) hKx hG⟩
namespace PM
noncomputable def Sy.run (s : Sy) : List Cl → Sy × List An
 | [] => (s,[])
 | c :: l => (((s.answer c).1.run l).1,(s.answer c).2 :: ((s.answer c).1.run l).2)
theorem Ih (s : Sy) (l : List Cl) (c : Cl) : s.run (l ++ [c]) = (((s.run l).1.answer c).1,(s.run l).2 ++ [((s.run l).1.answer c).2]):=by
 induction l generalizing s with
 | nil => rfl
 | cons x r ih =>
  rw [List.cons_append,Sy.run,ih]
  rfl
theorem iy (s : Sy) (l : List Cl) : (s.run l).2.length = l.length:=by
 induction l generalizing s with
 | nil => rfl
 | cons x r ih => rw [Sy.run];simp [ih]
def aK (up : List Ent) (lows : List (List Ent)) : Sy:=⟨up,lows,[],[],fun _ => none⟩
end PM
def encC (c : Cl) : List Value:=[.int .i64 c.kind,.int .i64 c.owner,.int .i64 c.fd,.int .i64 c.n,.int .i64 c.m,.string c.path,.string c.to,.string c.text,.bool c.alone]
def gM (W : World) (p : Option Addr) (l : List Cl) : Prop:=l = [] ∨ ∃ b off,p = some ⟨b,off,none⟩ ∧ b < W.heap.size ∧ ∀ i c,l[i]? = some c → ∀ j v,(encC c)[j]? = some v → W.cell? ⟨b,off + i * 9 + j,none⟩ = some v
theorem IZ {w : World} {base : Nat} (y : Lay) (lo : List Lay) (pl : Option Addr) (cl : Nat) (ps : Option Addr) (sc R B : Nat) (hb : base ≤ w.heap.size) (hRb : base ≤ R) (hRB : R < B) (hBw : B ≤ w.heap.size) (hU : UnOK w y lo pl cl) (hN : jL B y lo pl) (hS : Lies w ps (aD (y.es :: lo.map (·.es)))) (hNs : ∀ b off s,ps = some ⟨b,off,s⟩ → B ≤ b) (hsc : (aD (y.es :: lo.map (·.es))).length ≤ sc) (hsn : ps = none → sc = 0) :
  aj base (w.alloc (.cells (#[.slice y.ad y.es.length y.cap,.slice pl lo.length cl,.slice ps (aD (y.es :: lo.map (·.es))).length sc] ++ Array.replicate 32 (.pointer none)) 83)) w.heap.size (aK y.es (lo.map (·.es))) ⟨y,lo,pl,cl,ps,sc,fun _ => (none,0),fun _ => 0,fun _ => 0,fun b => b = R⟩:=by
 refine ⟨⟨_,heap_alloc_last w _,by simp,by simp,by simp,by simp;rfl,fun k hk => ?_⟩,fun j o ho => by simp [aK] at ho,fun i f hf => by simp [aK] at hf,fun j j' hj => by simp [aK] at hj,fun i i' hi => by simp [aK] at hi,fun Y hY => ?_,rfl,rfl,hsc,hsn,fun k j hk => by simp [aK] at hk,fun o ho => by simp [aK] at ho,fun b hb => ⟨by rw [show b = R from hb];exact hRb,by rw [show b = R from hb];simp;omega⟩,⟨hb,fun j hj => by simp [aK] at hj,fun i hi => by simp [aK] at hi⟩⟩
 ·rw [Array.getElem?_append_right (by simp)]
  simp [hk,aK]
 ·have hK : Keep (fun b => b = w.heap.size ∨ b = R) (w.alloc (.cells (#[.slice y.ad y.es.length y.cap,.slice pl lo.length cl,.slice ps (aD (y.es :: lo.map (·.es))).length sc] ++ Array.replicate 32 (.pointer none)) 83)) Y:=hY.weak (fun b hb => by
   rcases hb with (e | hx) | ⟨j,hj,_⟩ | ⟨i,hi,_⟩
   ·exact .inl e
   ·exact .inr hx
   ·simp [aK] at hj
   ·simp [aK] at hi)
  have hkk : Keep (fun b => b = R) w Y:=⟨by have:=hK.size;simp at this;omega,fun b hb hne => (hK.block b (by simp;omega) (by rintro (e | e);omega;exact hne e)).trans (((Grown.refl w).alloc _).below.block b hb)⟩
  have hst : St (fun b => b = R) w (fun X => UnOK X y lo pl cl):=UnOK.st hU hN (fun b h => by rw [h];exact hRB)
  have hst2 : St (fun b => b = R) w (fun X => Lies X ps (aD (y.es :: lo.map (·.es)))):=Lies.st hS (fun b off s e h => by have:=hNs b off s e;have h : b = R:=h;omega)
  exact ⟨hst Y hkk,hst2 Y hkk,fun i f hf => by simp [aK] at hf⟩
theorem iG.write {base : Nat} {W W' : World} {S : Nat} {s : Sy} {L : Lay6} {v : Value} {anl : List An} {row : List Av} {R : Nat} {cur : Array Value} (h : iG base W S s L v anl row) (hx : L.ex R) (hR : W.heap[R]? = some (.cells cur 29 (0,0))) (hn : ¬ Mine S s L R) (hk : Keep (fun b => b = R) W W') : ∃ L' : Lay6,iG base W' S s L' v anl row ∧ L'.y = L.y ∧ L'.lo = L.lo ∧ L'.pl = L.pl ∧ L'.cl = L.cl ∧ L'.ps = L.ps ∧ L'.sc = L.sc:=by
 have hK : Keep (fun b => L.ex b ∧ ¬ Mine S s L b) W W':=hk.weak fun b hb => by rw [show b = R from hb];exact ⟨hx,hn⟩
 have hKx : Keep L.ex W W':=hK.weak fun b hb => hb.1
 refine ⟨{ L with ex:=fun b => False ∨ L.ex b },⟨h.at'.Iz (G:=fun _ => False) hK (fun b hb => hb.elim),h.rows.at (fun g hg => ?_),fun g hg => .inr (h.own g hg),h.len,fun i a y h1 h2 => ?_⟩,rfl,rfl,rfl,rfl,rfl,rfl⟩
 ·obtain ⟨_,c2,hh⟩:=h.rows.own hg
  refine hk.block g (Array.getElem?_eq_some_iff.1 hh).1 (fun e => ?_)
  rw [show g = R from e,hR] at hh
  injection hh with hh;injection hh with _ hh _;exact absurd hh (by decide)
 ·obtain ⟨e1,e2,e3,bs,e4,e5,e6,e7,e8⟩:=h.each i a y h1 h2
  exact ⟨e1,e2,e3,bs,e4,e5,e6,e7,St.row (G:=fun _ => False) e8 hKx (fun b hb => hb.elim)⟩
def dh (W : World) (p : Option Addr) (l : List An) : Prop:=l = [] ∨ ∃ b,p = some ⟨b,0,none⟩ ∧ b < W.heap.size ∧ ∀ i a,l[i]? = some a → ∃ (q : Option Addr) (c : Nat) (bs : List ByteArray),W.cell? ⟨b,i * 4,none⟩ = some (.int .i64 a.err) ∧ W.cell? ⟨b,i * 4 + 1,none⟩ = some (.int .i64 a.n) ∧ W.cell? ⟨b,i * 4 + 2,none⟩ = some (.string a.text) ∧ W.cell? ⟨b,i * 4 + 3,none⟩ = some (.slice q bs.length c) ∧ bs.map (·.data.toList) = a.names ∧ bs.length ≤ c ∧ (q = none → c = 0) ∧ dR W q bs
def mh (s : Sy) (anl : List An) (W : World) (r : Ending) (W' : World) : Prop:=∃ (y : Lay) (lo : List Lay) (pl : Option Addr) (cl : Nat) (ps : Option Addr) (sc yn ln sn op : Nat) (pa : Option Addr) (na ac : Nat),r = .returned (.tuple #[.agg #[.slice y.ad yn y.cap,.slice pl ln cl,.slice ps sn sc,.int .i64 op],.slice pa na ac,.int .i64 0]) ∧ Below W.heap.size W W' ∧ Aside (yn = y.es.length ∧ ln = lo.length ∧ sn = s.seen.length ∧ op = s.reach.length ∧ y.es = s.up ∧ lo.map (·.es) = s.lows ∧ UnOK W' y lo pl cl ∧ Lies W' ps s.seen ∧ sn ≤ sc ∧ (ps = none → sc = 0) ∧ na = anl.length ∧ na ≤ ac ∧ (pa = none → ac = 0) ∧ dh W' pa anl)
def ql (e : Int) (W : World) (r : Ending) (W' : World) : Prop:=r = .returned (.tuple #[.agg #[.slice none 0 0,.slice none 0 0,.slice none 0 0,.int .i64 0],.slice none 0 0,.int .i64 e]) ∧ Below W.heap.size W W'
theorem og {base : Nat} {W : World} {S : Nat} {s : Sy} {L : Lay6} (h : aj base W S s L) {g : Nat} {cur : Array Value} {t : TypeId} (hh : W.heap[g]? = some (.cells cur t (0,0))) (h1 : t ≠ 83) (h2 : t ≠ 116) (h3 : t ≠ 203) : ¬ Mine S s L g:=by
 rintro (e | ⟨j,hj,e⟩ | ⟨i,hi,e⟩)
 ·obtain ⟨arr,ha,_⟩:=h.blk
  rw [← e,hh] at ha
  injection ha with ha;injection ha with _ ha _;exact h1 ha
 ·have ha:=h.opn j _ (List.getElem?_eq_getElem hj)
  rw [← e,hh] at ha
  injection ha with ha;injection ha with _ ha _;exact h2 ha
 ·have ha:=h.fil i _ (List.getElem?_eq_getElem hi)
  rw [← e,hh] at ha
  injection ha with ha;injection ha with _ ha _;exact h3 ha
theorem iG.lies {base : Nat} {W : World} {S : Nat} {s : Sy} {L : Lay6} {v : Value} {anl : List An} {row : List Av} (h : iG base W S s L v anl row) : ∃ pa na ac,v = .slice pa na ac ∧ na = anl.length ∧ na ≤ ac ∧ (pa = none → ac = 0) ∧ dh W pa anl:=by
 obtain ⟨hl1,⟨hv,hn0⟩ | ⟨g,cap,cur,hv,hg,hh,hnc,hm,hcs,ht⟩⟩:=id h.rows
 ·have : anl = []:=List.eq_nil_of_length_eq_zero (by have:=h.len;omega)
  exact ⟨none,0,0,hv,by rw [this];rfl,Nat.le_refl _,fun _ => rfl,.inl this⟩
 ·refine ⟨_,_,_,hv,h.len,hnc,nofun,.inr ⟨g,rfl,(Array.getElem?_eq_some_iff.1 hh).1,fun i a ha => ?_⟩⟩
  have hi : i < row.length:=by rw [h.len];exact (List.getElem?_eq_some_iff.1 ha).1
  have hy : row[i]? = some row[i]:=List.getElem?_eq_getElem hi
  obtain ⟨e1,e2,e3,bs,e4,e5,e6,e7,e8⟩:=h.each i a _ ha hy
  have hcell : ∀ j u,(encA row[i])[j]? = some u → W.cell? ⟨g,i * 4 + j,none⟩ = some u:=fun j u hu => by
   have:=World.ownsRow.cells h.rows (g:=g) (by rw [hv];rfl) (i * 4 + j) u (zZ hy hu)
   rwa [Addr.add_lit,Nat.zero_add] at this
  refine ⟨row[i].p,row[i].c,bs,?_,?_,?_,?_,e5,e6,e7,e8.now⟩
  ·rw [← e1];exact hcell 0 _ rfl
  ·rw [← e2];exact hcell 1 _ rfl
  ·rw [← e3];exact hcell 2 _ rfl
  ·rw [← e4];exact hcell 3 _ rfl
theorem dh.kept {W W' : World} {p : Option Addr} {l : List An} (h : dh W p l) (hB : Below W.heap.size W W') : dh W' p l:=by
 rcases h with h | ⟨b,hp,hb,hc⟩
 ·exact .inl h
 ·refine .inr ⟨b,hp,Nat.lt_of_lt_of_le hb hB.size,fun i a ha => ?_⟩
  obtain ⟨q,c,bs,e1,e2,e3,e4,e5,e6,e7,e8⟩:=hc i a ha
  exact ⟨q,c,bs,(hB.cell (p:=⟨b,i * 4,none⟩) hb).trans e1,(hB.cell (p:=⟨b,i * 4 + 1,none⟩) hb).trans e2,(hB.cell (p:=⟨b,i * 4 + 2,none⟩) hb).trans e3,(hB.cell (p:=⟨b,i * 4 + 3,none⟩) hb).trans e4,e5,e6,e7,dR.st e8 (fun _ _ _ _ h => h) W' ⟨hB.size,fun b hb _ => hB.block b hb⟩⟩
theorem yY {W : World} {B : Nat} {a b c d : Value} {t : TypeId} (h : W.heap[B]? = some (.cells #[a,b,c,d] t (0,0))) (a' b' c' d' : Value) : ((((W.setCell ⟨B,0,none⟩ a').setCell ⟨B,1,none⟩ b').setCell ⟨B,2,none⟩ c').setCell ⟨B,3,none⟩ d').heap[B]? = some (.cells #[a',b',c',d'] t (0,0)):=by
 have:=aL (aL (aL (aL h 0 a') 1 b') 2 c') 3 d'
 simpa using this
theorem zB {W w : World} {B : Nat} (h : Below W.heap.size W w) (hB : W.heap.size ≤ B) (a b c d : Value) : Below W.heap.size W ((((w.setCell ⟨B,0,none⟩ a).setCell ⟨B,1,none⟩ b).setCell ⟨B,2,none⟩ c).setCell ⟨B,3,none⟩ d) :=
 (((h.setCell (p:=⟨B,0,none⟩) hB _).setCell (p:=⟨B,1,none⟩) hB _).setCell (p:=⟨B,2,none⟩) hB _).setCell (p:=⟨B,3,none⟩) hB _
set_option maxRecDepth 100000 in
set_option maxHeartbeats 1000000 in
theorem wE (y : Lay) (lo : List Lay) (pl : Option Addr) (cl : Nat) (pc : Option Addr) (n cc : Nat) (W : World) (hU : UnOK W y lo pl cl) (hg : Gl W.heap.size W) (h0 : ¬ (aA (y.es :: lo.map (·.es))).1 = 0) :
  Calls Tryz.prog 16 #[.agg #[.slice y.ad y.es.length y.cap,.slice pl lo.length cl],.slice pc n cc] W (ql (aA (y.es :: lo.map (·.es))).1 W):=by
 obtain ⟨X,hX⟩ : ∃ X,(W.alloc (.cells #[.slice y.ad y.es.length y.cap,.slice pl lo.length cl] 26)).alloc (.cells #[.slice none 0 0,.slice none 0 0,.slice none 0 0,.int .i64 0] 29) = X:=⟨_,rfl⟩
 have hBX : Below W.heap.size W X:=by rw [← hX];exact ((Below.refl _ _).alloc (Nat.le_refl _) _).alloc (by simp) _
 have br:=cZ hX
 obtain ⟨m,hm⟩:=(hg.kept hBX).2
 have hsn:=mo y lo m pl cl X (hU.kept hBX) hm
 have HX : Aside ((W.alloc (.cells #[.slice y.ad y.es.length y.cap,.slice pl lo.length cl] 26)).alloc (.cells #[.slice none 0 0,.slice none 0 0,.slice none 0 0,.int .i64 0] 29) = X ∧ Below W.heap.size W X ∧ X.heap[W.heap.size + 1]? = some (.cells #[.slice none 0 0,.slice none 0 0,.slice none 0 0,.int .i64 0] 29)):=⟨hX,hBX,br⟩
 rw [← hX] at hsn
 generalize (aA (y.es :: lo.map (·.es))).1 = e at hsn h0 ⊢
 generalize (aD (y.es :: lo.map (·.es))) = sl at hsn
 generalize y.es.length = yn at *
 generalize lo.length = ln at *
 have hne : (e != 0) = true:=by simpa using h0
 clear hU hg hBX br hm hX
 go_enter Tryz.func16,Tryz.ntmps16
 go_wp2_with (go_at_call 21;refine hsn.mono ?_;clear hsn;rintro r w3 ⟨p,c,rfl,_,_,_,hB3,_⟩;rw [HX.out.1] at hB3;have k3 : w3.heap[W.heap.size + 1]? = some (.cells #[.slice none 0 0,.slice none 0 0,.slice none 0 0,.int .i64 0] 29):=(hB3.block _ (Array.getElem?_eq_some_iff.1 HX.out.2.2).1).trans HX.out.2.2;obtain ⟨⟨d0,d1,d2,d3⟩,z0,z1,z2,z3⟩:=bX k3;have H3 : Aside (Below W.heap.size W w3 ∧ w3.heap[W.heap.size + 1]? = some (.cells #[.slice none 0 0,.slice none 0 0,.slice none 0 0,.int .i64 0] 29)):=⟨Below.onto HX.out.2.1 hB3,k3⟩;clear k3 hB3)
 obtain ⟨⟨x0,x1,x2,x3⟩,_⟩:=bX (yY H3.out.2 (.slice none 0 0) (.slice none 0 0) (.slice none 0 0) (.int .i64 0))
 refine bodyPost_ret (v:=.tuple #[.agg #[.slice none 0 0,.slice none 0 0,.slice none 0 0,.int .i64 0],.slice none 0 0,.int .i64 e]) (by simp [results,Tryz.results16,go_sem,x0,x1,x2,x3]) rfl ?_
 exact ⟨rfl,zB H3.out.1 (by omega) _ _ _ _⟩
set_option maxRecDepth 100000 in
set_option maxHeartbeats 1000000 in
theorem oQ (y : Lay) (lo : List Lay) (pl : Option Addr) (cl : Nat) (pc : Option Addr) (n cc : Nat) (W : World) (hU : UnOK W y lo pl cl) (hg : Gl W.heap.size W) (h0 : (aA (y.es :: lo.map (·.es))).1 = 0) (hn : 80 < n) :
  Calls Tryz.prog 16 #[.agg #[.slice y.ad y.es.length y.cap,.slice pl lo.length cl],.slice pc n cc] W (ql 5 W):=by
 obtain ⟨X,hX⟩ : ∃ X,(W.alloc (.cells #[.slice y.ad y.es.length y.cap,.slice pl lo.length cl] 26)).alloc (.cells #[.slice none 0 0,.slice none 0 0,.slice none 0 0,.int .i64 0] 29) = X:=⟨_,rfl⟩
 have hBX : Below W.heap.size W X:=by rw [← hX];exact ((Below.refl _ _).alloc (Nat.le_refl _) _).alloc (by simp) _
 have br:=cZ hX
 obtain ⟨m,hm⟩:=(hg.kept hBX).2
 have hsn:=mo y lo m pl cl X (hU.kept hBX) hm
 have HX : Aside ((W.alloc (.cells #[.slice y.ad y.es.length y.cap,.slice pl lo.length cl] 26)).alloc (.cells #[.slice none 0 0,.slice none 0 0,.slice none 0 0,.int .i64 0] 29) = X ∧ Below W.heap.size W X ∧ X.heap[W.heap.size + 1]? = some (.cells #[.slice none 0 0,.slice none 0 0,.slice none 0 0,.int .i64 0] 29)):=⟨hX,hBX,br⟩
 rw [← hX,h0] at hsn
 generalize (aD (y.es :: lo.map (·.es))) = sl at hsn
 generalize y.es.length = yn at *
 generalize lo.length = ln at *
 have hnz : (80 : Int) < (n : Int):=by omega
 clear hU hg hBX br hm hX h0
 go_enter Tryz.func16,Tryz.ntmps16
 go_wp2_with (go_at_call 21;refine hsn.mono ?_;clear hsn;rintro r w3 ⟨p,c,rfl,_,_,_,hB3,_⟩;rw [HX.out.1] at hB3;have k3 : w3.heap[W.heap.size + 1]? = some (.cells #[.slice none 0 0,.slice none 0 0,.slice none 0 0,.int .i64 0] 29):=(hB3.block _ (Array.getElem?_eq_some_iff.1 HX.out.2.2).1).trans HX.out.2.2;obtain ⟨⟨d0,d1,d2,d3⟩,z0,z1,z2,z3⟩:=bX k3;have H3 : Aside (Below W.heap.size W w3 ∧ w3.heap[W.heap.size + 1]? = some (.cells #[.slice none 0 0,.slice none 0 0,.slice none 0 0,.int .i64 0] 29)):=⟨Below.onto HX.out.2.1 hB3,k3⟩;clear k3 hB3)
 obtain ⟨⟨x0,x1,x2,x3⟩,_⟩:=bX (yY H3.out.2 (.slice none 0 0) (.slice none 0 0) (.slice none 0 0) (.int .i64 0))
 refine bodyPost_ret (v:=.tuple #[.agg #[.slice none 0 0,.slice none 0 0,.slice none 0 0,.int .i64 0],.slice none 0 0,.int .i64 5]) (by simp [results,Tryz.results16,go_sem,x0,x1,x2,x3]) rfl ?_
 exact ⟨rfl,zB H3.out.1 (by omega) _ _ _ _⟩
end Go.Proofs.YthfeoiffoeagkaaGreatDoor
