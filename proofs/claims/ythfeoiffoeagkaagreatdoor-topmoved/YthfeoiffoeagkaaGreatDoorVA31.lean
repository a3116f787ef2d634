/-
  Closing.
-/
import Derived.Test.YthfeoiffoeagkaaGreatDoorVA30
namespace Go.Proofs.YthfeoiffoeagkaaGreatDoor
open Go.RowKit PM Go.Sort
set_option linter.unusedVariables false
theorem closeEnd {base : Nat} {Z w3 : World} {S : Nat} {s : Sy} {L1 : Lay6} {i fb g c : Nat} {f : Fl} {l : List LK.Lk} (h : SysAt base Z S s L1) (hf : s.files[i]? = some f) (hfb : fb = L1.fb i) (hB : Below Z.heap.size Z w3) (hg : Z.heap.size ≤ g) (hO : LK.Own w3 g c l) : ∃ L3,SysAt base (w3.setCell ⟨fb,2,none⟩ (.slice (some ⟨g,0,none⟩) l.length c)) S (s.setF i { f with locks:=l }) L3 ∧ L3.ex = L1.ex ∧ L3.ob = L1.ob ∧ L3.fb = L1.fb:=by
 subst hfb
 have h3:=h.kept hB
 have hb:=(heap_set2 (h3.fil i f hf) (.slice (some ⟨g,0,none⟩) l.length c)).2.2
 refine ⟨_,h3.file (f':={ f with locks:=l }) hf (some ⟨g,0,none⟩,c) (Keep.set (sp:=(· = L1.fb i)) rfl _ 2 _) hb (St.on (LLies.st hO.lies (fun b off s' e hsp => ?_)) (Keep.set (.inr (.inr ⟨i,(List.getElem?_eq_some_iff.1 hf).1,rfl⟩)) _ 2 _)) hO.len nofun,rfl,rfl,rfl⟩
 cases e
 have:=(h.spBase hsp).2
 omega
theorem closeNe {base : Nat} {Z : World} {S : Nat} {s : Sy} {L1 : Lay6} {i B : Nat} {f : Fl} {a : Array Value} (h : SysAt base Z S s L1) (hf : s.files[i]? = some f) (hb : Z.heap[B]? = some (.cells a 38)) (e : B = L1.fb i) : False:=by
 have:=h.fil i f hf
 rw [← e,hb] at this
 simp at this
set_option maxRecDepth 100000 in
set_option maxHeartbeats 1000000 in
theorem closeDo {base : Nat} {X : World} {S : Nat} {s : Sy} {L : Lay6} (h : SysAt base X S s L) (B0 B1 B2 B3 o k i : Nat) (q : Int) (f : Fl) (ho4 : o < 4) (hk8 : k < 8) (hf : s.files[i]? = some f) (hlk : f.locks.length ≤ 1000) (hb0 : X.cell? ⟨B0,0,none⟩ = some (.pointer (some ⟨S,3 + o * 8,none⟩))) (hb1 : X.cell? ⟨B1,0,none⟩ = some (.int .i64 k)) (hb2 : X.cell? ⟨B2,0,none⟩ = some (.pointer (some ⟨L.fb i,0,none⟩))) (hb3 : X.cell? ⟨B3,0,none⟩ = some (.int .i64 q)) (hN0 : ¬ Sp S s L B0) (hN1 : ¬ Sp S s L B1) (hN2 : ¬ Sp S s L B2) (hN3 : ¬ Sp S s L B3) :
  Calls Tryz.prog 187 #[.pointer (some ⟨B0,0,none⟩),.pointer (some ⟨B1,0,none⟩),.pointer (some ⟨B2,0,none⟩),.pointer (some ⟨B3,0,none⟩)] X (DoPost base S s L ((s.setFd (o * 8 + k) none).setF i { f with locks:=LK.KM.leaveL f.locks q }) (ans 0 ⟨#[]⟩) X):=by
 have a0:=Lib.cell?_alloc_some (.cells #[.int .i64 0,.int .i64 0,.string ⟨#[]⟩,.slice none 0 0] 38) hb0
 have a1:=Lib.cell?_alloc_some (.cells #[.int .i64 0,.int .i64 0,.string ⟨#[]⟩,.slice none 0 0] 38) hb1
 have hkz : (k : Int) < 8:=by omega
 have c3:=h.fd (k:=o * 8 + k) (by omega)
 have c3 : X.cell? ⟨S,3 + o * 8 + k,none⟩ = some (.pointer ((s.fds (o * 8 + k)).map fun j => ⟨L.ob j,0,none⟩)):=by rw [Nat.add_assoc];exact c3
 have f3:=h.frz (3 + o * 8 + k)
 have a3:=Lib.cell?_alloc_some (.cells #[.int .i64 0,.int .i64 0,.string ⟨#[]⟩,.slice none 0 0] 38) c3
 have hlt:=h.lt
 have n1 : ¬ S = X.heap.size:=by omega
 have n2 : ¬ X.heap.size = S:=by omega
 have n3 : ¬ S = B0:=fun e => hN0 (.inl (.inl e.symm))
 have n4 : ¬ S = B1:=fun e => hN1 (.inl (.inl e.symm))
 have HS : Aside (SysAt base X S s L):=h
 go_enter Tryz.func187,Tryz.ntmps187
 go_wp2
 go_region
 have h1:=h.number (k:=o * 8 + k) (by omega) none nofun (.pointer none) rfl
 rw [← Nat.add_assoc] at h1
 have hz1 : (X.setCell ⟨S,3 + o * 8 + k,none⟩ (.pointer none)).heap.size = X.heap.size:=by simp [World.setCell]
 have h2:=(h1.aside (.cells #[.int .i64 0,.int .i64 0,.string ⟨#[]⟩,.slice none 0 0] 38)).kept (Below.refl _ _).drew
 rw [hz1] at h2
 obtain ⟨L1,hL1⟩ : ∃ L1 : Lay6,L1 = { L with ex:=fun b => b = X.heap.size ∨ L.ex b }:=⟨_,rfl⟩
 rw [← hL1] at h2
 have hx1 : L1.ex = (fun b => b = X.heap.size ∨ L.ex b):=by rw [hL1]
 have hfb : L1.fb = L.fb:=by rw [hL1]
 have hlp : L1.lp = L.lp:=by rw [hL1]
 have HOB : Aside (L1.ob = L.ob):=by show L1.ob = L.ob;rw [hL1]
 have HB2 : Aside (Below base X ((X.setCell ⟨S,3 + o * 8 + k,none⟩ (.pointer none)).alloc (.cells #[.int .i64 0,.int .i64 0,.string ⟨#[]⟩,.slice none 0 0] 38)).drew):=by
  have h1:=(Below.refl base X).setCell (p:=⟨S,3 + o * 8 + k,none⟩) HS.out.base.1 (.pointer none)
  exact (h1.alloc (Nat.le_trans (Nat.le_trans HS.out.base.1 (Nat.le_of_lt hlt)) h1.size) _).drew
 have HKZ : Aside (Keep (Mine S s L) X ((X.setCell ⟨S,3 + o * 8 + k,none⟩ (.pointer none)).alloc (.cells #[.int .i64 0,.int .i64 0,.string ⟨#[]⟩,.slice none 0 0] 38)).drew):=(Keep.set (.inl rfl) _ _ _).trans (Keep.of_below _ (((Grown.refl _).alloc _).below.drew))
 have hbk : (((X.setCell ⟨S,3 + o * 8 + k,none⟩ (.pointer none)).alloc (.cells #[.int .i64 0,.int .i64 0,.string ⟨#[]⟩,.slice none 0 0] 38)).drew).heap[X.heap.size]? = some (.cells #[.int .i64 0,.int .i64 0,.string ⟨#[]⟩,.slice none 0 0] 38):=by
  have:=heap_alloc_last (X.setCell ⟨S,3 + o * 8 + k,none⟩ (.pointer none)) (.cells #[.int .i64 0,.int .i64 0,.string ⟨#[]⟩,.slice none 0 0] 38)
  rwa [hz1] at this
 have bk : ∀ b,b < X.heap.size → ¬ Sp S s L b → (((X.setCell ⟨S,3 + o * 8 + k,none⟩ (.pointer none)).alloc (.cells #[.int .i64 0,.int .i64 0,.string ⟨#[]⟩,.slice none 0 0] 38)).drew).heap[b]? = X.heap[b]?:=fun b hb hn =>
  (((Grown.refl _).alloc _).below.block b (by rw [hz1];exact hb)).trans (Below.heap_setCell _ _ _ _ (fun e => hn (.inl (.inl e))))
 have l2:=block_lt_of_cell hb2
 have l3:=block_lt_of_cell hb3
 simp only at l2 l3
 have t2:=(cell_eq (bk B2 l2 hN2) 0).trans hb2
 have t3:=(cell_eq (bk B3 l3 hN3) 0).trans hb3
 generalize ((X.setCell ⟨S,3 + o * 8 + k,none⟩ (.pointer none)).alloc (.cells #[.int .i64 0,.int .i64 0,.string ⟨#[]⟩,.slice none 0 0] 38)).drew = Z at *
 clear bk a0 a1 a3 c3 f3 hb0 hb1 hb2 hb3 h1 hz1
 obtain ⟨⟨_,_,g2⟩,_,_,fz2⟩:=h2.fcells (i:=i) (f:=f) hf
 rw [hfb,hlp] at g2
 rw [hfb] at fz2
 have hd:=h2.data.now.locks i f hf
 rw [hlp] at hd
 have hlv:=fun Y (hY : Below Z.heap.size Z Y) => LK.leave_any f.locks q (L.lp i).1 (L.lp i).2 Y (hd.1.kept hY) hd.2.2 (by have:=hlk;omega)
 obtain ⟨n,hn⟩ : ∃ n,n = f.locks.length:=⟨_,rfl⟩
 have HN : Aside (n = f.locks.length):=hn
 rw [← hn] at g2 hlv
 have H2 : Aside (SysAt base Z S (s.setFd (o * 8 + k) none) L1 ∧ L1.ex = (fun b => b = X.heap.size ∨ L.ex b) ∧ L1.fb = L.fb ∧ L1.lp = L.lp ∧ Z.heap[X.heap.size]? = some (.cells #[.int .i64 0,.int .i64 0,.string ⟨#[]⟩,.slice none 0 0] 38) ∧ s.files[i]? = some f):=⟨h2,hx1,hfb,hlp,hbk,hf⟩
 obtain ⟨fb,hfbe⟩ : ∃ fb,fb = L.fb i:=⟨_,rfl⟩
 have HFB : Aside (fb = L.fb i):=hfbe
 rw [← hfbe] at t2 g2 fz2
 generalize (L.lp i).1 = lp1 at g2 hlv
 generalize (L.lp i).2 = lp2 at g2 hlv
 clear h2 hx1 hfb hlp hbk hd hn h hf hL1 hN0 hN1 hN2 hN3 hfbe l2 l3 hlk
 have lf:=block_lt_of_cell g2
 have lb:=block_lt_of_cell t2
 simp only at lf lb
 go_wp2
 go_region_with (first | (go_at_call 188;refine (hlv _ (Below.refl _ _).drew).mono ?_;clear hlv;rintro r w3 ⟨g,c,rfl,hg,hO,hB3⟩;have HO : Aside (Z.heap.size ≤ g ∧ LK.Own w3 g c (LK.KM.leaveL f.locks q) ∧ Below Z.heap.size Z w3):=⟨hg,hO,((Below.refl _ _).drew).trans hB3⟩;have u2:=(HO.out.2.2.cell (p:=⟨fb,2,none⟩) lf).trans g2;have u3:=(HO.out.2.2.frozen (p:=⟨fb,2,none⟩) lf).trans fz2;have u4:=(HO.out.2.2.cell (p:=⟨B2,0,none⟩) lb).trans t2;clear hO hg hB3))
 all_goals
  have H3 : Aside (∃ L3,SysAt base (w3.setCell ⟨fb,2,none⟩ (.slice (some ⟨g,0,none⟩) (LK.KM.leaveL f.locks q).length c)) S ((s.setFd (o * 8 + k) none).setF i { f with locks:=LK.KM.leaveL f.locks q }) L3 ∧ L3.ex = L1.ex ∧ L3.ob = L1.ob ∧ L3.fb = L1.fb):=closeEnd H2.out.1 H2.out.2.2.2.2.2 (HFB.out.trans (by rw [H2.out.2.2.1])) HO.out.2.2 HO.out.1 HO.out.2.1
  have hbk : (w3.setCell ⟨fb,2,none⟩ (.slice (some ⟨g,0,none⟩) (LK.KM.leaveL f.locks q).length c)).heap[X.heap.size]? = some (.cells #[.int .i64 0,.int .i64 0,.string ⟨#[]⟩,.slice none 0 0] 38):=(Below.heap_setCell _ _ _ _ (fun e => closeNe H2.out.1 H2.out.2.2.2.2.2 H2.out.2.2.2.2.1 (e.trans (HFB.out.trans (by rw [H2.out.2.2.1]))))).trans ((HO.out.2.2.block _ (Array.getElem?_eq_some_iff.1 H2.out.2.2.2.2.1).1).trans H2.out.2.2.2.2.1)
  have HB4 : Aside (Below base X (w3.setCell ⟨fb,2,none⟩ (.slice (some ⟨g,0,none⟩) (LK.KM.leaveL f.locks q).length c))):=(HB2.out.trans (HO.out.2.2.mono (Nat.le_trans H2.out.1.base.1 (Nat.le_of_lt H2.out.1.lt)))).setCell (p:=⟨fb,2,none⟩) (by show base ≤ fb;rw [HFB.out,← H2.out.2.2.1];exact H2.out.1.base.2.2 i (List.getElem?_eq_some_iff.1 H2.out.2.2.2.2.2).1) _
  have HKY : Aside (Keep (Mine S s L) X (w3.setCell ⟨fb,2,none⟩ (.slice (some ⟨g,0,none⟩) (LK.KM.leaveL f.locks q).length c))):=(HKZ.out.trans (Keep.of_below _ HO.out.2.2)).trans (Keep.set (.inr (.inr ⟨i,(List.getElem?_eq_some_iff.1 H2.out.2.2.2.2.2).1,HFB.out⟩)) _ 2 _)
  generalize w3.setCell ⟨fb,2,none⟩ (.slice (some ⟨g,0,none⟩) (LK.KM.leaveL f.locks q).length c) = Y at *
  obtain ⟨⟨d0,d1,d2,d3⟩,z0,z1,z2,z3⟩:=cells4 hbk
  have HK : Aside (Y.heap[X.heap.size]? = some (.cells #[.int .i64 0,.int .i64 0,.string ⟨#[]⟩,.slice none 0 0] 38)):=hbk
  clear hbk u2 u3 u4 g2 fz2 t2 t3 HO
  go_wp2
  refine bodyPost_ret (v:=.agg #[.int .i64 0,.int .i64 0,.string ⟨#[]⟩,.slice none 0 0]) (by simp [results,Tryz.results187,go_sem,d0,d1,d2,d3]) rfl ?_
  obtain ⟨L3,q1,q2,q3,q4⟩:=H3.out
  exact Mid.fin (L':=L3) ⟨q1,⟨q3.trans HOB.out,q4.trans H2.out.2.2.1,fun b => (by rw [q2,H2.out.2.1])⟩,HB4.out,HKY.out,HK.out⟩ ⟨rfl,by simp [Sy.setF,Sy.setFd]⟩ _ _ _ _ (fun W => ans_at _ _ _ _)
theorem box3_new {W X : World} {a b c : Obj} (h : ((W.alloc a).alloc b).alloc c = X) : X.heap[W.heap.size]? = some a ∧ X.heap[W.heap.size + 1]? = some b ∧ X.heap[W.heap.size + 2]? = some c:=by
 have h2 : Below ((W.alloc a).alloc b).heap.size ((W.alloc a).alloc b) X:=by rw [← h];exact ((Grown.refl _).alloc c).below
 have hs : ((W.alloc a).alloc b).heap.size = W.heap.size + 2:=by simp
 refine ⟨(h2.block _ (by omega)).trans (box1_new rfl),(h2.block _ (by omega)).trans (box2_new rfl),?_⟩
 rw [← h]
 have:=heap_alloc_last ((W.alloc a).alloc b) c
 rwa [hs] at this
def OnlyPost (base S : Nat) (s : Sy) (L : Lay6) (s' : Sy) (an : An) (W : World) (r : Ending) (W' : World) : Prop:=∃ g cap,r = .returned (.func (.func g) #[] cap) ∧ Below W.heap.size W W' ∧ (∀ args w,(callFunc g args).run Tryz.prog w = .ok (.enter g args) w) ∧ Calls Tryz.prog g cap W' (DoPost base S s L s' an W')
set_option maxRecDepth 100000 in
set_option maxHeartbeats 1000000 in
theorem close_any {base : Nat} {W : World} {S : Nat} {s : Sy} {L : Lay6} (h : SysAt base W S s L) (o k j : Nat) (q : Int) (op : Opn) (f : Fl) (ho4 : o < 4) (hk8 : k < 8) (hfd : s.fds (o * 8 + k) = some j) (hop : s.opens[j]? = some op) (hf : s.files[op.file]? = some f) (hlk : f.locks.length ≤ 1000) :
  Calls Tryz.prog 137 #[.pointer (some ⟨S,3 + o * 8,none⟩),.int .i64 k,.int .i64 q] W (OnlyPost base S s L ((s.setFd (o * 8 + k) none).setF op.file { f with locks:=LK.KM.leaveL f.locks q }) (ans 0 ⟨#[]⟩) W):=by
 obtain ⟨X,hX⟩ : ∃ X,((W.alloc (.cells #[.pointer (some ⟨S,3 + o * 8,none⟩)] 166)).alloc (.cells #[.int .i64 k] 3)).alloc (.cells #[.int .i64 q] 3) = X:=⟨_,rfl⟩
 have hB : Below W.heap.size W X:=by rw [← hX];exact (((Below.refl _ _).alloc (Nat.le_refl _) _).alloc (by simp) _).alloc (by simp;omega) _
 have hsX : X.heap.size = W.heap.size + 3:=by rw [← hX];simp
 obtain ⟨k0,k1,k2⟩:=box3_new hX
 have b0 : X.cell? ⟨W.heap.size,0,none⟩ = some (.pointer (some ⟨S,3 + o * 8,none⟩)):=by simp [World.cell?,k0]
 have b1 : X.cell? ⟨W.heap.size + 1,0,none⟩ = some (.int .i64 k):=by simp [World.cell?,k1]
 have b2 : X.cell? ⟨W.heap.size + 2,0,none⟩ = some (.int .i64 q):=by simp [World.cell?,k2]
 clear k0 k1 k2
 have hk:=h.kept hB
 have hkz : (k : Int) < 8:=by omega
 have c3:=hk.fd (k:=o * 8 + k) (by omega)
 have c3 : X.cell? ⟨S,3 + o * 8 + k,none⟩ = some (.pointer (some ⟨L.ob j,0,none⟩)):=by rw [Nat.add_assoc];rw [hfd] at c3;exact c3
 obtain ⟨⟨c4,_,_⟩,_⟩:=hk.ocells hop
 have n1:=World.new_ne X ⟨S,3 + o * 8 + k,none⟩ c3
 have n2:=World.new_ne X ⟨L.ob j,0,none⟩ c4
 have n3:=World.new_ne X ⟨W.heap.size,0,none⟩ b0
 have n4:=World.new_ne X ⟨W.heap.size + 1,0,none⟩ b1
 have HA : Aside (SysAt base W S s L ∧ Below W.heap.size W X ∧ s.files[op.file]? = some f ∧ f.locks.length ≤ 1000 ∧ X.cell? ⟨W.heap.size + 2,0,none⟩ = some (.int .i64 q) ∧ X.cell? ⟨W.heap.size,0,none⟩ = some (.pointer (some ⟨S,3 + o * 8,none⟩)) ∧ X.cell? ⟨W.heap.size + 1,0,none⟩ = some (.int .i64 k) ∧ X.heap.size = W.heap.size + 3):=⟨h,hB,hf,hlk,b2,b0,b1,hsX⟩
 have HX : Aside (((W.alloc (.cells #[.pointer (some ⟨S,3 + o * 8,none⟩)] 166)).alloc (.cells #[.int .i64 k] 3)).alloc (.cells #[.int .i64 q] 3) = X):=hX
 clear h hB hf hlk hk hfd hop b2 hX
 go_enter Tryz.func137,Tryz.ntmps137
 go_wp2
 rw [HX.out]
 go_region_held3 (fun w' => w'.cell? ⟨W.heap.size,0,none⟩ = some (.pointer (some ⟨S,3 + o * 8,none⟩)) ∧ w'.cell? ⟨W.heap.size + 1,0,none⟩ = some (.int .i64 k) ∧ w'.cell? ⟨S,3 + o * 8 + k,none⟩ = some (.pointer (some ⟨L.ob j,0,none⟩)) ∧ w'.cell? ⟨L.ob j,0,none⟩ = some (.pointer (some ⟨L.fb op.file,0,none⟩))) (go_keep) (fail)
 go_wp2
 go_ret
 obtain ⟨h,hB,hf,hlk,d2,d0,d1,hs⟩:=HA.out
 have hBn : Below X.heap.size X (X.alloc (.cells #[.pointer (some ⟨L.fb op.file,0,none⟩)] 114)).drew:=(((Grown.refl X).alloc _).below).drew
 have hBf:=Below.onto hB hBn
 refine ⟨_,_,rfl,hBf,enters_of Tryz.func187 (by kernel_rfl) rfl,?_⟩
 have hnew : (X.alloc (.cells #[.pointer (some ⟨L.fb op.file,0,none⟩)] 114)).drew.heap[W.heap.size + 3]? = some (.cells #[.pointer (some ⟨L.fb op.file,0,none⟩)] 114):=by
  have:=heap_alloc_last X (.cells #[.pointer (some ⟨L.fb op.file,0,none⟩)] 114)
  rwa [hs] at this
 exact closeDo (h.kept hBf) W.heap.size (W.heap.size + 1) (W.heap.size + 3) (W.heap.size + 2) o k op.file q f ho4 hk8 hf hlk ((hBn.cell (p:=⟨W.heap.size,0,none⟩) (by show W.heap.size < _;omega)).trans d0) ((hBn.cell (p:=⟨W.heap.size + 1,0,none⟩) (by show W.heap.size + 1 < _;omega)).trans d1) (by simp [World.cell?,hnew]) ((hBn.cell (p:=⟨W.heap.size + 2,0,none⟩) (by show W.heap.size + 2 < _;omega)).trans d2) (h.exNe (by omega)) (h.exNe (by omega)) (h.exNe (by omega)) (h.exNe (by omega))
def KpPost (base S : Nat) (s s' : Sy) (L : Lay6) (X : World) (r : Ending) (X' : World) : Prop:=r = .returned (.tuple #[]) ∧ ∃ L' : Lay6,SysAt base X' S s' L' ∧ L'.ob = L.ob ∧ L'.fb = L.fb ∧ L'.ex = L.ex ∧ Below base X X' ∧ Keep (fun b => b = S ∨ Fb s L b) X X'
theorem keep1 {base : Nat} {X : World} {S : Nat} {s : Sy} {L : Lay6} (h : SysAt base X S s L) : Calls Tryz.prog 233 #[] X (KpPost base S s s L X):=by
 have HS : Aside (SysAt base X S s L):=h
 clear h
 go_enter Tryz.func233,Tryz.ntmps233
 go_wp2
 refine bodyPost_end (results_none rfl _ _ _) rfl ?_
 exact ⟨rfl,L,HS.out,rfl,rfl,rfl,Below.refl _ _,Keep.refl _ _⟩
theorem keep2 {base : Nat} {X : World} {S : Nat} {s : Sy} {L : Lay6} (h : SysAt base X S s L) (Bt Bf i : Nat) (t : ByteArray) (f : Fl) (hf : s.files[i]? = some f) (hbt : X.cell? ⟨Bt,0,none⟩ = some (.string t)) (hbf : X.cell? ⟨Bf,0,none⟩ = some (.pointer (some ⟨L.fb i,0,none⟩))) :
  Calls Tryz.prog 234 #[.pointer (some ⟨Bt,0,none⟩),.pointer (some ⟨Bf,0,none⟩)] X (KpPost base S s (s.setF i { f with text:=t }) L X):=by
 have HS : Aside (SysAt base X S s L ∧ s.files[i]? = some f):=⟨h,hf⟩
 obtain ⟨⟨_,c1,_⟩,_,g1,_⟩:=h.fcells hf
 clear h hf
 go_enter Tryz.func234,Tryz.ntmps234
 go_wp2
 refine bodyPost_end (results_none rfl _ _ _) rfl ?_
 obtain ⟨h,hf⟩:=HS.out
 have hi:=(List.getElem?_eq_some_iff.1 hf).1
 have hb:=(heap_set2 (h.fil i f hf) (.string t)).1
 exact ⟨rfl,L,h.file0 (f':={ f with text:=t }) hf rfl (Keep.set (sp:=(· = L.fb i)) rfl _ 1 _) hb,rfl,rfl,rfl,(Below.refl _ _).setCell (p:=⟨L.fb i,1,none⟩) (h.base.2.2 i hi) _,Keep.set (.inr ⟨i,hi,rfl⟩) _ 1 _⟩
theorem keep3 {base : Nat} {X : World} {S : Nat} {s : Sy} {L : Lay6} (h : SysAt base X S s L) (hg : Gl base X) (B0 B1 : Nat) (hb0 : X.cell? ⟨B0,0,none⟩ = some (.pointer (some ⟨S,0,none⟩))) (y : Lay) (lo : List Lay) (pl : Option Addr) (cl : Nat) (hb1 : UnBox X B1 y lo pl cl) (hU : St (Sp S s L) X (fun X => UnOK X y lo pl cl)) (h0 : (wrongU (y.es :: lo.map (·.es))).1 = 0) :
  Calls Tryz.prog 235 #[.pointer (some ⟨B0,0,none⟩),.pointer (some ⟨B1,0,none⟩)] X (KpPost base S s (s.withU y.es (lo.map (·.es))) L X):=by
 have hst:=settle_any h hg y lo pl cl hU h0
 obtain ⟨c0,c1⟩:=hb1
 generalize y.es.length = yn at c0 hst
 generalize lo.length = ln at c1 hst
 clear h hg hU h0
 go_enter Tryz.func235,Tryz.ntmps235
 go_wp2_with (go_at_call 124;refine hst.mono ?_;clear hst;rintro r X2 ⟨rfl,hS⟩;have HS : Aside (SetPost base S (s.withU y.es (lo.map (·.es))) L X X2):=hS;clear hS)
 refine bodyPost_end (results_none rfl _ _ _) rfl ?_
 obtain ⟨L2,hA,e1,e2,e3,hB,hk⟩:=HS.out
 exact ⟨rfl,L2,hA,e1,e2,e3,hB,hk.weak fun b hb => .inl hb⟩
set_option maxHeartbeats 1000000 in
theorem lockDo {base : Nat} {X : World} {S : Nat} {s : Sy} {L : Lay6} (h : SysAt base X S s L) (Bl Bo j : Nat) (o : Opn) (f : Fl) (ho : s.opens[j]? = some o) (hf : s.files[o.file]? = some f) (l : List LK.Lk) (p : Option Addr) (n c : Nat) (hn : n = l.length) (hbl : X.cell? ⟨Bl,0,none⟩ = some (.slice p n c)) (hbo : X.cell? ⟨Bo,0,none⟩ = some (.pointer (some ⟨L.ob j,0,none⟩))) (hl : St (Sp S s L) X (fun Y => LK.Lies Y p l)) (hc : l.length ≤ c) (hp : p = none → c = 0) (hNl : ¬ L.fb o.file = Bl) (hNo : ¬ L.fb o.file = Bo) :
  Calls Tryz.prog 191 #[.pointer (some ⟨Bl,0,none⟩),.pointer (some ⟨Bo,0,none⟩)] X (DoPost base S s L (s.setF o.file { f with locks:=l }) (ans 0 ⟨#[]⟩) X):=by
 have a0:=Lib.cell?_alloc_some (.cells #[.int .i64 0,.int .i64 0,.string ⟨#[]⟩,.slice none 0 0] 38) hbl
 have a1:=Lib.cell?_alloc_some (.cells #[.int .i64 0,.int .i64 0,.string ⟨#[]⟩,.slice none 0 0] 38) hbo
 obtain ⟨⟨c0,_,_⟩,_⟩:=h.ocells ho
 obtain ⟨⟨_,_,g2⟩,_,_,fz⟩:=h.fcells hf
 have hi:=(List.getElem?_eq_some_iff.1 hf).1
 have hj:=(List.getElem?_eq_some_iff.1 ho).1
 have hlt:=h.flt hi
 have hlo:=h.olt hj
 have hbs:=h.base.2.2 o.file hi
 have n5 : ¬ L.fb o.file = L.ob j:=fun e => h.ofne hi hj e.symm
 obtain ⟨fb,hfb⟩ : ∃ fb,fb = L.fb o.file:=⟨_,rfl⟩
 have HF : Aside (fb = L.fb o.file ∧ SysAt base X S s L ∧ s.opens[j]? = some o ∧ s.files[o.file]? = some f ∧ St (Sp S s L) X (fun Y => LK.Lies Y p l) ∧ l.length ≤ c ∧ (p = none → c = 0) ∧ n = l.length):=⟨hfb,h,ho,hf,hl,hc,hp,hn⟩
 rw [← hfb] at c0 g2 fz hlt hbs n5 hNl hNo
 have a2:=Lib.cell?_alloc_some (.cells #[.int .i64 0,.int .i64 0,.string ⟨#[]⟩,.slice none 0 0] 38) c0
 have a3:=Lib.cell?_alloc_some (.cells #[.int .i64 0,.int .i64 0,.string ⟨#[]⟩,.slice none 0 0] 38) g2
 have n1 : ¬ fb = X.heap.size:=by omega
 have n2 : ¬ X.heap.size = fb:=by omega
 have n3 : ¬ L.ob j = fb:=fun e => n5 e.symm
 clear h ho hf hl hc hp hn hfb
 go_enter Tryz.func191,Tryz.ntmps191
 go_wp2
 go_region_held3 (fun w' => w'.cell? ⟨Bl,0,none⟩ = some (.slice p n c) ∧ w'.cell? ⟨Bo,0,none⟩ = some (.pointer (some ⟨L.ob j,0,none⟩)) ∧ w'.cell? ⟨L.ob j,0,none⟩ = some (.pointer (some ⟨fb,0,none⟩))) (go_keep) (fail)
 have H2 : Aside (∃ L2,SysAt base ((X.setCell ⟨fb,2,none⟩ (.slice p n c)).alloc (.cells #[.int .i64 0,.int .i64 0,.string ⟨#[]⟩,.slice none 0 0] 38)).drew S (s.setF o.file { f with locks:=l }) L2 ∧ SameL L L2 X.heap.size):=by
  obtain ⟨e,h,ho,hf,hl,hc,hp,hn⟩:=HF.out
  subst e hn
  have hb:=(heap_set2 (h.fil _ f hf) (.slice p l.length c)).2.2
  have h1:=h.file (f':={ f with locks:=l }) hf (p,c) (Keep.set (sp:=(· = L.fb o.file)) rfl _ 2 (.slice p l.length c)) hb (St.on hl (Keep.set (.inr (.inr ⟨_,(List.getElem?_eq_some_iff.1 hf).1,rfl⟩)) _ 2 _)) hc hp
  exact ⟨_,(h1.aside (.cells #[.int .i64 0,.int .i64 0,.string ⟨#[]⟩,.slice none 0 0] 38)).kept (Below.refl _ _).drew,⟨rfl,rfl,fun b => by simp [World.setCell]⟩⟩
 have HB2 : Aside (Below base X ((X.setCell ⟨fb,2,none⟩ (.slice p n c)).alloc (.cells #[.int .i64 0,.int .i64 0,.string ⟨#[]⟩,.slice none 0 0] 38)).drew):=by
  have h1:=(Below.refl base X).setCell (p:=⟨fb,2,none⟩) hbs (.slice p n c)
  exact (h1.alloc (Nat.le_trans (Nat.le_trans hbs (Nat.le_of_lt hlt)) h1.size) _).drew
 have HKZ : Aside (Keep (Mine S s L) X ((X.setCell ⟨fb,2,none⟩ (.slice p n c)).alloc (.cells #[.int .i64 0,.int .i64 0,.string ⟨#[]⟩,.slice none 0 0] 38)).drew):=(Keep.set (.inr (.inr ⟨o.file,(List.getElem?_eq_some_iff.1 HF.out.2.2.2.1).1,HF.out.1⟩)) _ _ _).trans (Keep.of_below _ (((Grown.refl _).alloc _).below.drew))
 have hbk : (((X.setCell ⟨fb,2,none⟩ (.slice p n c)).alloc (.cells #[.int .i64 0,.int .i64 0,.string ⟨#[]⟩,.slice none 0 0] 38)).drew).heap[X.heap.size]? = some (.cells #[.int .i64 0,.int .i64 0,.string ⟨#[]⟩,.slice none 0 0] 38):=by
  have:=heap_alloc_last (X.setCell ⟨fb,2,none⟩ (.slice p n c)) (.cells #[.int .i64 0,.int .i64 0,.string ⟨#[]⟩,.slice none 0 0] 38)
  rwa [show (X.setCell ⟨fb,2,none⟩ (.slice p n c)).heap.size = X.heap.size from by simp [World.setCell]] at this
 generalize ((X.setCell ⟨fb,2,none⟩ (.slice p n c)).alloc (.cells #[.int .i64 0,.int .i64 0,.string ⟨#[]⟩,.slice none 0 0] 38)).drew = Z at *
 obtain ⟨⟨d0,d1,d2,d3⟩,z0,z1,z2,z3⟩:=cells4 hbk
 have HK : Aside (Z.heap[X.heap.size]? = some (.cells #[.int .i64 0,.int .i64 0,.string ⟨#[]⟩,.slice none 0 0] 38)):=hbk
 clear hbk a0 a1 a2 a3 hbl hbo c0 g2 fz
 go_wp2
 refine bodyPost_ret (v:=.agg #[.int .i64 0,.int .i64 0,.string ⟨#[]⟩,.slice none 0 0]) (by simp [results,Tryz.results191,go_sem,d0,d1,d2,d3]) rfl ?_
 obtain ⟨L2,q1,q2⟩:=H2.out
 exact Mid.fin (L':=L2) ⟨q1,q2,HB2.out,HKZ.out,HK.out⟩ ⟨rfl,by simp [Sy.setF]⟩ _ _ _ _ (fun W => ans_at _ _ _ _)
set_option maxHeartbeats 1000000 in
theorem cutDo {base : Nat} {X : World} {S : Nat} {s s' : Sy} {L : Lay6} (h : SysAt base X S s L) (hn : SameN s s') (Bk : Nat) (g : FuncId) (cap : Array Value) (eg : ∀ args w,(callFunc g args).run Tryz.prog w = .ok (.enter g args) w) (hbk : X.cell? ⟨Bk,0,none⟩ = some (.func (.func g) #[] cap)) (hkp : Calls Tryz.prog g cap (X.alloc (.cells #[.int .i64 0,.int .i64 0,.string ⟨#[]⟩,.slice none 0 0] 38)) (KpPost base S s s' { L with ex:=fun b => b = X.heap.size ∨ L.ex b } (X.alloc (.cells #[.int .i64 0,.int .i64 0,.string ⟨#[]⟩,.slice none 0 0] 38)))) :
  Calls Tryz.prog 201 #[.pointer (some ⟨Bk,0,none⟩)] X (DoPost base S s L s' (ans 0 ⟨#[]⟩) X):=by
 have a0:=Lib.cell?_alloc_some (.cells #[.int .i64 0,.int .i64 0,.string ⟨#[]⟩,.slice none 0 0] 38) hbk
 have hbase : base ≤ X.heap.size:=Nat.le_trans h.base.1 (Nat.le_of_lt h.lt)
 have HX : Aside (S < X.heap.size ∧ ¬ Fb s { L with ex:=fun b => b = X.heap.size ∨ L.ex b } X.heap.size ∧ Below base X (X.alloc (.cells #[.int .i64 0,.int .i64 0,.string ⟨#[]⟩,.slice none 0 0] 38)) ∧ (X.alloc (.cells #[.int .i64 0,.int .i64 0,.string ⟨#[]⟩,.slice none 0 0] 38)).heap[X.heap.size]? = some (.cells #[.int .i64 0,.int .i64 0,.string ⟨#[]⟩,.slice none 0 0] 38)):=⟨h.lt,fun ⟨i,hi,e⟩ => by have e : X.heap.size = L.fb i:=e;have:=h.flt hi;omega,(((Grown.refl X).alloc _).below).mono hbase,heap_alloc_last X _⟩
 clear h hbk
 go_enter Tryz.func201,Tryz.ntmps201
 go_wp2_with (go_at_fn g;refine (Calls.mono (by simpa using hkp) ?_);clear hkp;rintro r X2 ⟨rfl,L2,hA2,ho2,hf2,hx2,hB2,hk2⟩;have hbk2 : X2.heap[X.heap.size]? = some (.cells #[.int .i64 0,.int .i64 0,.string ⟨#[]⟩,.slice none 0 0] 38):=(hk2.block _ (Array.getElem?_eq_some_iff.1 HX.out.2.2.2).1 (by rintro (e | e);(have:=HX.out.1;omega);exact HX.out.2.1 e)).trans HX.out.2.2.2;have H2 : Aside (Mid base S s L s' L2 X X2):=⟨hA2,⟨ho2,hf2,fun b => (by rw [hx2])⟩,HX.out.2.2.1.trans hB2,Keep.mine (((Grown.refl X).alloc _).below) hk2 (fun b hb => hb.imp id .inr),hbk2⟩;obtain ⟨⟨d0,d1,d2,d3⟩,z0,z1,z2,z3⟩:=cells4 hbk2;clear hA2 hx2 hB2 hk2 hbk2)
 refine bodyPost_ret (v:=.agg #[.int .i64 0,.int .i64 0,.string ⟨#[]⟩,.slice none 0 0]) (by simp [results,Tryz.results201,go_sem,d0,d1,d2,d3]) rfl ?_
 exact H2.out.fin hn _ _ _ _ (fun W => ans_at _ _ _ _)
set_option maxHeartbeats 1000000 in
theorem writeDo {base : Nat} {X : World} {S : Nat} {s s' : Sy} {L : Lay6} (h : SysAt base X S s L) (hn : SameN s s') (Bk Be Bo Bt j : Nat) (o : Opn) (e : Int) (t : ByteArray) (g : FuncId) (cap : Array Value) (eg : ∀ args w,(callFunc g args).run Tryz.prog w = .ok (.enter g args) w) (ho : s.opens[j]? = some o) (ho' : s'.opens[j]? = some o) (hbk : X.cell? ⟨Bk,0,none⟩ = some (.func (.func g) #[] cap)) (hbe : X.cell? ⟨Be,0,none⟩ = some (.int .i64 e)) (hbo : X.cell? ⟨Bo,0,none⟩ = some (.pointer (some ⟨L.ob j,0,none⟩))) (hbt : X.cell? ⟨Bt,0,none⟩ = some (.string t)) (hNe : ¬ Sp S s L Be) (hNo : ¬ Sp S s L Bo) (hNt : ¬ Sp S s L Bt)
  (hkp : Calls Tryz.prog g cap (X.alloc (.cells #[.int .i64 0,.int .i64 0,.string ⟨#[]⟩,.slice none 0 0] 38)) (KpPost base S s s' { L with ex:=fun b => b = X.heap.size ∨ L.ex b } (X.alloc (.cells #[.int .i64 0,.int .i64 0,.string ⟨#[]⟩,.slice none 0 0] 38)))) :
  Calls Tryz.prog 200 #[.pointer (some ⟨Bk,0,none⟩),.pointer (some ⟨Be,0,none⟩),.pointer (some ⟨Bo,0,none⟩),.pointer (some ⟨Bt,0,none⟩)] X (DoPost base S s L (s'.setO j { o with pos:=e }) (ans t.size ⟨#[]⟩) X):=by
 have a0:=Lib.cell?_alloc_some (.cells #[.int .i64 0,.int .i64 0,.string ⟨#[]⟩,.slice none 0 0] 38) hbk
 have hbase : base ≤ X.heap.size:=Nat.le_trans h.base.1 (Nat.le_of_lt h.lt)
 have HX : Aside (S < X.heap.size ∧ ¬ Fb s { L with ex:=fun b => b = X.heap.size ∨ L.ex b } X.heap.size ∧ Below base X (X.alloc (.cells #[.int .i64 0,.int .i64 0,.string ⟨#[]⟩,.slice none 0 0] 38)) ∧ (X.alloc (.cells #[.int .i64 0,.int .i64 0,.string ⟨#[]⟩,.slice none 0 0] 38)).heap[X.heap.size]? = some (.cells #[.int .i64 0,.int .i64 0,.string ⟨#[]⟩,.slice none 0 0] 38) ∧ s'.opens[j]? = some o ∧ L.ob j < X.heap.size ∧ s.opens[j]? = some o):=⟨h.lt,fun ⟨i,hi,e⟩ => by have e : X.heap.size = L.fb i:=e;have:=h.flt hi;omega,(((Grown.refl X).alloc _).below).mono hbase,heap_alloc_last X _,ho',h.olt (List.getElem?_eq_some_iff.1 ho).1,ho⟩
 have HK : Aside (∀ X2,Keep (fun b => b = S ∨ Fb s { L with ex:=fun b => b = X.heap.size ∨ L.ex b } b) (X.alloc (.cells #[.int .i64 0,.int .i64 0,.string ⟨#[]⟩,.slice none 0 0] 38)) X2 → X2.cell? ⟨Be,0,none⟩ = some (.int .i64 e) ∧ X2.cell? ⟨Bo,0,none⟩ = some (.pointer (some ⟨L.ob j,0,none⟩)) ∧ X2.cell? ⟨Bt,0,none⟩ = some (.string t)):=by
  show ∀ X2,_
  intro X2 hk
  have go : ∀ B v,X.cell? ⟨B,0,none⟩ = some v → ¬ Sp S s L B → X2.cell? ⟨B,0,none⟩ = some v:=fun B v hv hn => by
   have hl:=block_lt_of_cell hv
   simp only at hl
   have hB:=((Grown.refl X).alloc (.cells #[.int .i64 0,.int .i64 0,.string ⟨#[]⟩,.slice none 0 0] 38)).below
   refine (cell_eq ((hk.block B (Nat.lt_of_lt_of_le hl hB.size) ?_).trans (hB.block B hl)) 0).trans hv
   rintro (e | ⟨i,hi,e⟩)
   ·exact hn (.inl (.inl e))
   ·exact hn (.inr (.inr ⟨i,hi,e⟩))
  exact ⟨go _ _ hbe hNe,go _ _ hbo hNo,go _ _ hbt hNt⟩
 clear h hbk hbe hbo hbt hNe hNo hNt ho ho'
 go_enter Tryz.func200,Tryz.ntmps200
 go_wp2_with (go_at_fn g;refine (Calls.mono (by simpa using hkp) ?_);clear hkp;rintro r X2 ⟨rfl,L2,hA2,hob,hf2,hx2,hB2,hk2⟩;obtain ⟨t0,t1,t2⟩:=HK.out X2 hk2;have hob : L2.ob = L.ob:=hob;obtain ⟨⟨_,_,y2⟩,y3⟩:=hA2.ocells HX.out.2.2.2.2.1;rw [hob] at y2 y3;have hbk2 : X2.heap[X.heap.size]? = some (.cells #[.int .i64 0,.int .i64 0,.string ⟨#[]⟩,.slice none 0 0] 38):=(hk2.block _ (Array.getElem?_eq_some_iff.1 HX.out.2.2.2.1).1 (by rintro (e | e);(have:=HX.out.1;omega);exact HX.out.2.1 e)).trans HX.out.2.2.2.1;have n1 : ¬ L.ob j = X.heap.size:=(by have:=HX.out.2.2.2.2.2.1;omega);have n2 : ¬ X.heap.size = L.ob j:=(fun e => n1 e.symm);have n3 : ¬ L.ob j = Bt:=(fun e => by (rw [← e] at t2;obtain ⟨⟨y1,_,_⟩,_⟩:=hA2.ocells HX.out.2.2.2.2.1;rw [hob,t2] at y1;cases y1));have H2 : Aside (SysAt base X2 S s' L2 ∧ L2.ob = L.ob ∧ SameL L L2 X.heap.size ∧ Below base X X2 ∧ X2.heap[X.heap.size]? = some (.cells #[.int .i64 0,.int .i64 0,.string ⟨#[]⟩,.slice none 0 0] 38) ∧ Keep (Mine S s L) X X2):=⟨hA2,hob,⟨hob,hf2,fun b => (by rw [hx2])⟩,HX.out.2.2.1.trans hB2,hbk2,Keep.mine (((Grown.refl X).alloc _).below) hk2 (fun b hb => hb.imp id .inr)⟩;obtain ⟨⟨d0,d1,d2,d3⟩,z0,z1,z2,z3⟩:=cells4 hbk2;clear hA2 hx2 hB2 hk2 hbk2)
 refine bodyPost_ret (v:=.agg #[.int .i64 0,.int .i64 t.size,.string ⟨#[]⟩,.slice none 0 0]) (by simp [results,Tryz.results200,go_sem,d0,d1,d2,d3]) rfl ?_
 obtain ⟨q1,q0,q2,q3,q4,q5⟩:=H2.out
 have hop:=HX.out.2.2.2.2.1
 have hb:=(heap_set2 (q1.opn j o hop) (.int .i64 e)).2.2
 rw [q0] at hb
 have r1 : SysAt base (X2.setCell ⟨L.ob j,2,none⟩ (.int .i64 e)) S (s'.setO j { o with pos:=e }) L2:=q1.opening (o':={ o with pos:=e }) hop rfl (by rw [q0];exact Keep.set (sp:=(· = L.ob j)) rfl _ 2 (.int .i64 e)) (by rw [q0];exact hb)
 have r4 : ((X2.setCell ⟨L.ob j,2,none⟩ (.int .i64 e))).heap[X.heap.size]? = some (.cells #[.int .i64 0,.int .i64 0,.string ⟨#[]⟩,.slice none 0 0] 38):=(Below.heap_setCell _ _ _ _ n2).trans q4
 have hbs : base ≤ L.ob j:=by rw [← q0];exact q1.base.2.1 j (List.getElem?_eq_some_iff.1 hop).1
 exact Mid.fin (L':=L2) ⟨r1,q2,q3.setCell (p:=⟨L.ob j,2,none⟩) hbs _,q5.trans (Keep.set (.inr (.inl ⟨j,(List.getElem?_eq_some_iff.1 HX.out.2.2.2.2.2.2).1,rfl⟩)) _ 2 _),r4⟩ (hn.trans ⟨by simp [Sy.setO],rfl⟩) _ _ _ _ (fun W => ans_at _ _ _ _)
end Go.Proofs.YthfeoiffoeagkaaGreatDoor
