/-
  Another number for what is open.
-/
import Derived.Test.YthfeoiffoeagkaaGreatDoorZA24
namespace Go.Proofs.YthfeoiffoeagkaaGreatDoor
open Go.RowKit PM Go.Sort
set_option linter.unusedVariables false
theorem F9 {base:Nat} {X:World} {S:Nat} {s:Sy} {L:Lay6} (h:aj base X S s L) (Bo Bp Bf o k j:Nat) (ho4:o<4) (hk8:k<8) (hj:j<s.opens.length) (hbo:X.cell? ⟨Bo,0,none⟩=some (.pointer (some ⟨L.ob j,0,none⟩))) (hbp:X.cell? ⟨Bp,0,none⟩=some (.pointer (some ⟨S,3+o*8,none⟩))) (hbf:X.cell? ⟨Bf,0,none⟩=some (.int .i64 k)) (hNo:¬ S=Bo) (hNp:¬ S=Bp) (hNf:¬ S=Bf) :
  Calls Tryz.prog 189 #[.pointer (some ⟨Bo,0,none⟩),.pointer (some ⟨Bp,0,none⟩),.pointer (some ⟨Bf,0,none⟩)] X (dN base S s L (s.dS (o*8+k) (some j)) (ans k ⟨#[]⟩) X):=by
 have a0:=Lib.cell?_alloc_some (.cells #[.int .i64 0,.int .i64 0,.string ⟨#[]⟩,.slice none 0 0] 38) hbo
 have a1:=Lib.cell?_alloc_some (.cells #[.int .i64 0,.int .i64 0,.string ⟨#[]⟩,.slice none 0 0] 38) hbp
 have a2:=Lib.cell?_alloc_some (.cells #[.int .i64 0,.int .i64 0,.string ⟨#[]⟩,.slice none 0 0] 38) hbf
 have hkz:(k:Int)<8:=by omega
 have c3:=h.fd (k:=o*8+k) (by omega)
 have c3:X.cell? ⟨S,3+o*8+k,none⟩=some (.pointer ((s.fds (o*8+k)).map fun j=>⟨L.ob j,0,none⟩)):=by rw [Nat.add_assoc];exact c3
 have f3:=h.frz (3+o*8+k)
 have a3:=Lib.cell?_alloc_some (.cells #[.int .i64 0,.int .i64 0,.string ⟨#[]⟩,.slice none 0 0] 38) c3
 have hlt:=h.lt
 have n1:¬ S=X.heap.size:=by omega
 have n2:¬ X.heap.size=S:=by omega
 have HS:Aside (aj base X S s L):=h
 clear h
 go_enter Tryz.func189,Tryz.ntmps189
 go_wp2
 go_region_held3 (fun w'=>w'.cell? ⟨Bo,0,none⟩=some (.pointer (some ⟨L.ob j,0,none⟩))∧w'.cell? ⟨Bp,0,none⟩=some (.pointer (some ⟨S,3+o*8,none⟩))∧w'.cell? ⟨Bf,0,none⟩=some (.int .i64 k)) (go_keep) (fail)
 have hlf:=block_lt_of_cell hbf
 simp only at hlf
 have H2:Aside (∃ L2,aj base ((X.setCell ⟨S,3+o*8+k,none⟩ (.pointer (some ⟨L.ob j,0,none⟩))).alloc (.cells #[.int .i64 0,.int .i64 0,.string ⟨#[]⟩,.slice none 0 0] 38)).drew S (s.dS (o*8+k) (some j)) L2∧pW L L2 X.heap.size):=by
  have h1:=HS.out.number (k:=o*8+k) (by omega) (some j) (fun x hx=>by cases hx;exact hj) (.pointer (some ⟨L.ob j,0,none⟩)) rfl
  rw [← Nat.add_assoc] at h1
  have h2:=h1.aside (.cells #[.int .i64 0,.int .i64 0,.string ⟨#[]⟩,.slice none 0 0] 38)
  exact ⟨_,h2.kept (Below.refl _ _).drew,⟨rfl,rfl,fun b=>by simp [World.setCell]⟩⟩
 have hB2:Aside (Below base X ((X.setCell ⟨S,3+o*8+k,none⟩ (.pointer (some ⟨L.ob j,0,none⟩))).alloc (.cells #[.int .i64 0,.int .i64 0,.string ⟨#[]⟩,.slice none 0 0] 38)).drew):=by
  have h1:=(Below.refl base X).setCell (p:=⟨S,3+o*8+k,none⟩) HS.out.base.1 (.pointer (some ⟨L.ob j,0,none⟩))
  exact (h1.alloc (Nat.le_trans (Nat.le_trans HS.out.base.1 (Nat.le_of_lt hlt)) h1.size) _).drew
 have HKZ:Aside (Keep (Mine S s L) X ((X.setCell ⟨S,3+o*8+k,none⟩ (.pointer (some ⟨L.ob j,0,none⟩))).alloc (.cells #[.int .i64 0,.int .i64 0,.string ⟨#[]⟩,.slice none 0 0] 38)).drew):=(Keep.set (.inl rfl) _ _ _).trans (Keep.of_below _ (((Grown.refl _).alloc _).below.drew))
 have hbk:((X.setCell ⟨S,3+o*8+k,none⟩ (.pointer (some ⟨L.ob j,0,none⟩))).alloc (.cells #[.int .i64 0,.int .i64 0,.string ⟨#[]⟩,.slice none 0 0] 38)).drew.heap[X.heap.size]?=some (.cells #[.int .i64 0,.int .i64 0,.string ⟨#[]⟩,.slice none 0 0] 38):=by
  have:=heap_alloc_last (X.setCell ⟨S,3+o*8+k,none⟩ (.pointer (some ⟨L.ob j,0,none⟩))) (.cells #[.int .i64 0,.int .i64 0,.string ⟨#[]⟩,.slice none 0 0] 38)
  rwa [show (X.setCell ⟨S,3+o*8+k,none⟩ (.pointer (some ⟨L.ob j,0,none⟩))).heap.size=X.heap.size from by simp [World.setCell]] at this
 have hbf2:((X.setCell ⟨S,3+o*8+k,none⟩ (.pointer (some ⟨L.ob j,0,none⟩))).alloc (.cells #[.int .i64 0,.int .i64 0,.string ⟨#[]⟩,.slice none 0 0] 38)).drew.cell? ⟨Bf,0,none⟩=some (.int .i64 k):=by
  refine (bR ?_ 0).trans hbf
  exact (((Grown.refl _).alloc _).below.block Bf (by simp [World.setCell];exact hlf)).trans (Below.heap_setCell _ _ _ _ (fun e=>hNf e.symm))
 generalize ((X.setCell ⟨S,3+o*8+k,none⟩ (.pointer (some ⟨L.ob j,0,none⟩))).alloc (.cells #[.int .i64 0,.int .i64 0,.string ⟨#[]⟩,.slice none 0 0] 38)).drew=Z at *
 obtain ⟨⟨d0,d1,d2,d3⟩,z0,z1,z2,z3⟩:=bK hbk
 have HK:Aside (Z.heap[X.heap.size]?=some (.cells #[.int .i64 0,.int .i64 0,.string ⟨#[]⟩,.slice none 0 0] 38)):=hbk
 clear hbk a0 a1 a2 a3 hbo hbp hbf c3 f3
 go_wp2
 refine bodyPost_ret (v:=.agg #[.int .i64 0,.int .i64 k,.string ⟨#[]⟩,.slice none 0 0]) (by simp [results,Tryz.results189,go_sem,d0,d1,d2,d3]) rfl ?_
 obtain ⟨L2,q1,q2⟩:=H2.out
 exact Mid.fin (L':=L2) ⟨q1,q2,hB2.out,HKZ.out,HK.out⟩ ⟨rfl,rfl⟩ _ _ _ _ (fun W=>iR _ _ _ _)
theorem Cc {base:Nat} {W:World} {S:Nat} {s:Sy} {L:Lay6} (h:aj base W S s L) (o j:Nat) (ho4:o<4) (hj:j<s.opens.length) :
  Calls Tryz.prog 138 #[.pointer (some ⟨S,3+o*8,none⟩),.pointer (some ⟨L.ob j,0,none⟩)] W (yE base S s L (if s.aV o<0 then 5 else 0) (s.dS (o*8+(s.aV o).toNat) (some j)) (ans (s.aV o) ⟨#[]⟩) W):=by
 obtain ⟨W2,hW2⟩:∃ W2,(W.alloc (.cells #[.pointer (some ⟨S,3+o*8,none⟩)] 166)).alloc (.cells #[.pointer (some ⟨L.ob j,0,none⟩)] 78)=W2:=⟨_,rfl⟩
 have hB2:Below W.heap.size W W2:=by rw [← hW2];exact ((Below.refl _ _).alloc (Nat.le_refl _) _).alloc (by simp) _
 have hs2:W2.heap.size=W.heap.size+2:=by rw [← hW2];simp
 have hfr:=oh (h.kept hB2) o ho4
 have hp:=iI hW2
 have ho:=dY hW2
 have HA:Aside (aj base W S s L∧Below W.heap.size W W2∧W2.heap[W.heap.size]?=some (.cells #[.pointer (some ⟨S,3+o*8,none⟩)] 166)∧W2.heap[W.heap.size+1]?=some (.cells #[.pointer (some ⟨L.ob j,0,none⟩)] 78)∧(W.alloc (.cells #[.pointer (some ⟨S,3+o*8,none⟩)] 166)).alloc (.cells #[.pointer (some ⟨L.ob j,0,none⟩)] 78)=W2):=⟨h,hB2,hp,ho,hW2⟩
 have HF:=lU s o
 have HF:Aside (s.aV o = -1∨∃ k:Nat,k<8∧s.aV o=k∧s.fds (o*8+k)=none):=HF
 rw [← hW2] at hfr
 clear h hB2 hp ho hW2
 generalize s.aV o=R at hfr HF ⊢
 by_cases hR:R<0
 ·rw [if_pos hR,if_pos hR] at hfr
  rw [if_pos hR]
  go_enter Tryz.func138,Tryz.ntmps138
  go_wp2_with (go_at_call 120;refine hfr.mono ?_;clear hfr;rintro r w3 ⟨rfl,hB3⟩;rw [HA.out.2.2.2.2] at hB3)
  go_ret2
  have hB:=Below.onto HA.out.2.1 hB3
  exact yE.no _ (by decide) (hB.alloc hB.size _)
 ·rw [if_neg hR,if_neg hR] at hfr
  rw [if_neg hR]
  go_enter Tryz.func138,Tryz.ntmps138
  go_wp2_with (go_at_call 120;refine hfr.mono ?_;clear hfr;rintro r w3 ⟨rfl,hB3⟩;rw [HA.out.2.2.2.2] at hB3)
  go_ret2
  have hB:=Below.onto HA.out.2.1 hB3
  have hB4:=hB.alloc hB.size (.cells #[.int .i64 R] 3)
  obtain ⟨h,_,hp,ho,_⟩:=HA.out
  rcases HF.out with e | ⟨k,hk,e,_⟩
  ·omega
  have hlt:=h.lt
  have hs3:=hB3.size
  have bk:∀ b,b<w3.heap.size→(w3.alloc (.cells #[.int .i64 R] 3)).heap[b]?=w3.heap[b]?:=fun b hb=>((Grown.refl w3).alloc _).below.block b hb
  refine ⟨_,rfl,hB4,fun _=>⟨_,_,rfl,enters_of Tryz.func189 (by kernel_rfl) rfl,?_⟩⟩
  have:=F9 (h.kept hB4) (W.heap.size+1) W.heap.size w3.heap.size o k j ho4 hk hj (by
   have:=(bk _ (by omega)).trans ((hB3.block _ (by omega)).trans ho)
   simp [World.cell?,this]) (by
   have:=(bk _ (by omega)).trans ((hB3.block _ (by omega)).trans hp)
   simp [World.cell?,this]) (by rw [← e];simp) (by omega) (by omega) (by omega)
  rw [show R.toNat=k by omega,show ans R ⟨#[]⟩=ans k ⟨#[]⟩ from by rw [e]]
  exact this
theorem Jw {base:Nat} {X:World} {S:Nat} {s:Sy} {L:Lay6} (h:aj base X S s L) (Bo Bt j:Nat) (o:Opn) (t:ByteArray) (ho:s.opens[j]?=some o) (hp0:0≤o.pos) (hp1:o.pos≤1000) (ht:t.size≤1000) (hbo:X.cell? ⟨Bo,0,none⟩=some (.pointer (some ⟨L.ob j,0,none⟩))) (hbt:X.cell? ⟨Bt,0,none⟩=some (.string t)) (hNo:¬ L.ob j=Bo) (hNt:¬ L.ob j=Bt) :
  Calls Tryz.prog 197 #[.pointer (some ⟨Bo,0,none⟩),.pointer (some ⟨Bt,0,none⟩)] X (dN base S s L (s.setO j { o with pos:=o.pos+t.size }) (ans t.size t) X):=by
 have a0:=Lib.cell?_alloc_some (.cells #[.int .i64 0,.int .i64 0,.string ⟨#[]⟩,.slice none 0 0] 38) hbo
 have a1:=Lib.cell?_alloc_some (.cells #[.int .i64 0,.int .i64 0,.string ⟨#[]⟩,.slice none 0 0] 38) hbt
 obtain ⟨⟨_,_,c2⟩,f2⟩:=h.iB ho
 have a2:=Lib.cell?_alloc_some (.cells #[.int .i64 0,.int .i64 0,.string ⟨#[]⟩,.slice none 0 0] 38) c2
 have hlt:=h.olt (List.getElem?_eq_some_iff.1 ho).1
 have hbs:=h.base.2.1 j (List.getElem?_eq_some_iff.1 ho).1
 have n1:¬ L.ob j=X.heap.size:=by omega
 have n2:¬ X.heap.size=L.ob j:=by omega
 have HS:Aside (aj base X S s L∧s.opens[j]?=some o):=⟨h,ho⟩
 clear h ho
 go_enter Tryz.func197,Tryz.ntmps197
 go_wp2
 go_region
 have hlt2:=block_lt_of_cell hbt
 simp only at hlt2
 have H2:Aside (∃ L2,aj base ((X.setCell ⟨L.ob j,2,none⟩ (.int .i64 (o.pos+t.size))).alloc (.cells #[.int .i64 0,.int .i64 0,.string ⟨#[]⟩,.slice none 0 0] 38)).drew S (s.setO j { o with pos:=o.pos+t.size }) L2∧pW L L2 X.heap.size):=by
  obtain ⟨h,ho⟩:=HS.out
  have hb:=(iw (h.opn j o ho) (.int .i64 (o.pos+t.size))).2.2
  have h1:=h.opening (o':={ o with pos:=o.pos+t.size }) ho rfl (Keep.set (sp:=(·=L.ob j)) rfl _ 2 (.int .i64 (o.pos+t.size))) hb
  exact ⟨_,(h1.aside (.cells #[.int .i64 0,.int .i64 0,.string ⟨#[]⟩,.slice none 0 0] 38)).kept (Below.refl _ _).drew,⟨rfl,rfl,fun b=>by simp [World.setCell]⟩⟩
 have HB2:Aside (Below base X ((X.setCell ⟨L.ob j,2,none⟩ (.int .i64 (o.pos+t.size))).alloc (.cells #[.int .i64 0,.int .i64 0,.string ⟨#[]⟩,.slice none 0 0] 38)).drew):=by
  have h1:=(Below.refl base X).setCell (p:=⟨L.ob j,2,none⟩) hbs (.int .i64 (o.pos+t.size))
  exact (h1.alloc (Nat.le_trans (Nat.le_trans hbs (Nat.le_of_lt hlt)) h1.size) _).drew
 have HKZ:Aside (Keep (Mine S s L) X ((X.setCell ⟨L.ob j,2,none⟩ (.int .i64 (o.pos+t.size))).alloc (.cells #[.int .i64 0,.int .i64 0,.string ⟨#[]⟩,.slice none 0 0] 38)).drew):=(Keep.set (.inr (.inl ⟨j,(List.getElem?_eq_some_iff.1 HS.out.2).1,rfl⟩)) _ _ _).trans (Keep.of_below _ (((Grown.refl _).alloc _).below.drew))
 have hbk:(((X.setCell ⟨L.ob j,2,none⟩ (.int .i64 (o.pos+t.size))).alloc (.cells #[.int .i64 0,.int .i64 0,.string ⟨#[]⟩,.slice none 0 0] 38)).drew).heap[X.heap.size]?=some (.cells #[.int .i64 0,.int .i64 0,.string ⟨#[]⟩,.slice none 0 0] 38):=by
  have:=heap_alloc_last (X.setCell ⟨L.ob j,2,none⟩ (.int .i64 (o.pos+t.size))) (.cells #[.int .i64 0,.int .i64 0,.string ⟨#[]⟩,.slice none 0 0] 38)
  rwa [show (X.setCell ⟨L.ob j,2,none⟩ (.int .i64 (o.pos+t.size))).heap.size=X.heap.size from by simp [World.setCell]] at this
 have hbt2:(((X.setCell ⟨L.ob j,2,none⟩ (.int .i64 (o.pos+t.size))).alloc (.cells #[.int .i64 0,.int .i64 0,.string ⟨#[]⟩,.slice none 0 0] 38)).drew).cell? ⟨Bt,0,none⟩=some (.string t):=by
  refine (bR ?_ 0).trans hbt
  exact (((Grown.refl _).alloc _).below.block Bt (by simp [World.setCell];exact hlt2)).trans (Below.heap_setCell _ _ _ _ (fun e=>hNt e.symm))
 generalize ((X.setCell ⟨L.ob j,2,none⟩ (.int .i64 (o.pos+t.size))).alloc (.cells #[.int .i64 0,.int .i64 0,.string ⟨#[]⟩,.slice none 0 0] 38)).drew=Z at *
 obtain ⟨⟨d0,d1,d2,d3⟩,z0,z1,z2,z3⟩:=bK hbk
 have HK:Aside (Z.heap[X.heap.size]?=some (.cells #[.int .i64 0,.int .i64 0,.string ⟨#[]⟩,.slice none 0 0] 38)):=hbk
 clear hbk a0 a1 a2 hbo hbt c2 f2
 go_wp2
 refine bodyPost_ret (v:=.agg #[.int .i64 0,.int .i64 t.size,.string t,.slice none 0 0]) (by simp [results,Tryz.results197,go_sem,d0,d1,d2,d3]) rfl ?_
 obtain ⟨L2,q1,q2⟩:=H2.out
 exact Mid.fin (L':=L2) ⟨q1,q2,HB2.out,HKZ.out,HK.out⟩ ⟨by simp [Sy.setO],rfl⟩ _ _ _ _ (fun W=>iR _ _ _ _)
namespace PM
def gI (t:ByteArray) (pos n:Int):ByteArray:=(t.extract (min pos t.size).toNat t.size).extract 0 (min n (t.extract (min pos t.size).toNat t.size).size).toNat
def wI (o:Opn) (n:Int):Int:=if (bits BinOp.and IntKind.i64 o.use 1 == 0)=true then 8 else if n<0∨1000<n then 3 else 0
theorem Dj (t:ByteArray) (pos n:Int):(gI t pos n).size≤t.size:=by
 unfold gI
 simp only [ByteArray.size_extract]
 omega
end PM
set_option maxHeartbeats 1000000 in
theorem IY {base:Nat} {W:World} {S:Nat} {s:Sy} {L:Lay6} (h:aj base W S s L) (j:Nat) (o:Opn) (f:Fl) (n:Int) (ho:s.opens[j]?=some o) (hf:s.files[o.file]?=some f) (hp0:0≤o.pos) (hp1:o.pos≤1000) (hfp:f.path.size≤80) (hft:(s.textOf f).size≤100) (hu:(bits BinOp.and IntKind.i64 o.use 1 == 0)=false) (hn0:¬ n<0) (hn1:¬ 1000<n) :
  Calls Tryz.prog 143 #[.pointer (some ⟨S,0,none⟩),.pointer (some ⟨L.ob j,0,none⟩),.int .i64 n] W (yE base S s L 0 (s.setO j { o with pos:=o.pos+(gI (s.textOf f) o.pos n).size }) (ans (gI (s.textOf f) o.pos n).size (gI (s.textOf f) o.pos n)) W):=by
 obtain ⟨W1,hW1⟩:∃ W1,W.alloc (.cells #[.pointer (some ⟨L.ob j,0,none⟩)] 78)=W1:=⟨_,rfl⟩
 have hB1:Below W.heap.size W W1:=by rw [← hW1];exact ((Grown.refl W).alloc _).below
 have h1:=h.kept hB1
 obtain ⟨⟨c0,c1,c2⟩,f2⟩:=h1.iB ho
 have htx:=nR h1 hf hfp W1 (Below.refl _ _)
 have hlt:=h1.olt (List.getElem?_eq_some_iff.1 ho).1
 have hs1:W1.heap.size=W.heap.size+1:=by rw [← hW1];simp
 have HA:Aside (aj base W S s L∧Below W.heap.size W W1∧W.alloc (.cells #[.pointer (some ⟨L.ob j,0,none⟩)] 78)=W1∧s.opens[j]?=some o∧W1.cell? ⟨W.heap.size,0,none⟩=some (.pointer (some ⟨L.ob j,0,none⟩))∧W1.cell? ⟨L.ob j,2,none⟩=some (.int .i64 o.pos)):=⟨h,hB1,hW1,ho,by rw [← hW1];simp,c2⟩
 rw [← hW1] at c0 c1 c2 htx
 obtain ⟨t,ht⟩:∃ t,t=s.textOf f:=⟨_,rfl⟩
 rw [← ht] at htx hft ⊢
 clear ht
 clear h h1 ho hf hB1 hW1
 go_enter Tryz.func143,Tryz.ntmps143
 go_wp2_with (go_at_call 181;refine htx.mono ?_;clear htx;rintro r w3 ⟨rfl,hB3⟩;rw [HA.out.2.2.1] at hB3;have p0:=(hB3.cell (p:=⟨W.heap.size,0,none⟩) (by show W.heap.size<_;omega)).trans HA.out.2.2.2.2.1;have p2:=(hB3.cell (p:=⟨L.ob j,2,none⟩) hlt).trans HA.out.2.2.2.2.2)
 have q0:=Lib.cell?_alloc_some (.cells #[.string t] 9) p0
 have q2:=Lib.cell?_alloc_some (.cells #[.string t] 9) p2
 have hl3:L.ob j<w3.heap.size:=Nat.lt_of_lt_of_le hlt hB3.size
 have hw3:W.heap.size<w3.heap.size:=by have:=hB3.size;omega
 have n1:¬ L.ob j=w3.heap.size:=by omega
 have n2:¬ W.heap.size=w3.heap.size:=by omega
 have n3:¬ w3.heap.size=L.ob j:=by omega
 have n4:¬ w3.heap.size=W.heap.size:=by omega
 have HB3:Aside (Below W1.heap.size W1 w3):=hB3
 go_region
 have hz:(t.extract (min o.pos t.size).toNat t.size).size≤100:=by simp only [ByteArray.size_extract];omega
 have HT:Aside (gI t o.pos n=(t.extract (min o.pos t.size).toNat t.size).extract 0 (min n (t.extract (min o.pos t.size).toNat t.size).size).toNat):=rfl
 have HTS:Aside ((gI t o.pos n).size≤100):=Nat.le_trans (Dj _ _ _) hft
 generalize t.extract (min o.pos t.size).toNat t.size=t1 at hz HT ⊢
 clear q0 q2
 go_wp2
 go_ret2
 rw [HT.out]
 have hTS:=HTS.out
 rw [HT.out] at hTS
 generalize t1.extract 0 (min n t1.size).toNat=T at hTS ⊢
 have hBa:=Below.onto HA.out.2.1 HB3.out
 have hBn:=((Grown.refl w3).alloc (.cells #[.string T] 9)).below
 have hB5:Below W.heap.size W (w3.alloc (.cells #[.string T] 9)).drew:=(Below.onto hBa hBn).drew
 obtain ⟨h,_,_,ho,_,_⟩:=HA.out
 exact ⟨_,rfl,hB5,fun _=>⟨_,_,rfl,enters_of Tryz.func197 (by kernel_rfl) rfl,Jw (h.kept hB5) W.heap.size w3.heap.size j o T ho hp0 hp1 (by omega) ((hBn.cell (p:=⟨W.heap.size,0,none⟩) hw3).trans p0) (by simp) (by have:=h.olt (List.getElem?_eq_some_iff.1 ho).1;omega) n1⟩⟩
theorem GQ {base:Nat} {W:World} {S:Nat} {s:Sy} {L:Lay6} (h:aj base W S s L) (j:Nat) (o:Opn) (f:Fl) (n:Int) (ho:s.opens[j]?=some o) (hf:s.files[o.file]?=some f) (hp0:0≤o.pos) (hp1:o.pos≤1000) (hfp:f.path.size≤80) (hft:(s.textOf f).size≤100) :
  Calls Tryz.prog 143 #[.pointer (some ⟨S,0,none⟩),.pointer (some ⟨L.ob j,0,none⟩),.int .i64 n] W (yE base S s L (wI o n) (s.setO j { o with pos:=o.pos+(gI (s.textOf f) o.pos n).size }) (ans (gI (s.textOf f) o.pos n).size (gI (s.textOf f) o.pos n)) W):=by
 unfold wI
 have HB:Aside (Below W.heap.size W (W.alloc (.cells #[.pointer (some ⟨L.ob j,0,none⟩)] 78))):=((Grown.refl W).alloc _).below
 obtain ⟨⟨c0,c1,c2⟩,f2⟩:=(h.kept HB.out).iB ho
 cases hu:(bits BinOp.and IntKind.i64 o.use 1 == 0) with
 | true =>
  rw [if_pos rfl]
  clear h ho hf
  go_enter Tryz.func143,Tryz.ntmps143
  go_wp2
  go_ret2
  exact yE.no _ (by decide) HB.out
 | false =>
  rw [if_neg (by simp)]
  by_cases h1:n<0
  ·rw [if_pos (.inl h1)]
   clear h ho hf
   go_enter Tryz.func143,Tryz.ntmps143
   go_wp2
   go_ret2
   exact yE.no _ (by decide) HB.out
  by_cases h2:1000<n
  ·rw [if_pos (.inr h2)]
   clear h ho hf
   go_enter Tryz.func143,Tryz.ntmps143
   go_wp2
   go_ret2
   exact yE.no _ (by decide) HB.out
  rw [if_neg (by omega)]
  exact IY h j o f n ho hf hp0 hp1 hfp hft hu h1 h2
theorem F5 {base:Nat} {Z w3:World} {S:Nat} {s:Sy} {L1:Lay6} {i fb g c:Nat} {f:Fl} {l:List LK.Lk} (h:aj base Z S s L1) (hf:s.files[i]?=some f) (hfb:fb=L1.fb i) (hB:Below Z.heap.size Z w3) (hg:Z.heap.size≤g) (hO:LK.Own w3 g c l):∃ L3,aj base (w3.setCell ⟨fb,2,none⟩ (.slice (some ⟨g,0,none⟩) l.length c)) S (s.setF i { f with locks:=l }) L3∧L3.ex=L1.ex∧L3.ob=L1.ob∧L3.fb=L1.fb:=by
 subst hfb
 have h3:=h.kept hB
 have hb:=(iw (h3.fil i f hf) (.slice (some ⟨g,0,none⟩) l.length c)).2.2
 refine ⟨_,h3.file (f':={ f with locks:=l }) hf (some ⟨g,0,none⟩,c) (Keep.set (sp:=(·=L1.fb i)) rfl _ 2 _) hb (St.on (LLies.st hO.lies (fun b off s' e hsp=>?_)) (Keep.set (.inr (.inr ⟨i,(List.getElem?_eq_some_iff.1 hf).1,rfl⟩)) _ 2 _)) hO.len nofun,rfl,rfl,rfl⟩
 cases e
 have:=(h.cK hsp).2
 omega
theorem Io {base:Nat} {Z:World} {S:Nat} {s:Sy} {L1:Lay6} {i B:Nat} {f:Fl} {a:Array Value} (h:aj base Z S s L1) (hf:s.files[i]?=some f) (hb:Z.heap[B]?=some (.cells a 38)) (e:B=L1.fb i):False:=by
 have:=h.fil i f hf
 rw [← e,hb] at this
 simp at this
set_option maxRecDepth 100000 in
set_option maxHeartbeats 1000000 in
theorem Im {base:Nat} {X:World} {S:Nat} {s:Sy} {L:Lay6} (h:aj base X S s L) (B0 B1 B2 B3 o k i:Nat) (q:Int) (f:Fl) (ho4:o<4) (hk8:k<8) (hf:s.files[i]?=some f) (hlk:f.locks.length≤1000) (hb0:X.cell? ⟨B0,0,none⟩=some (.pointer (some ⟨S,3+o*8,none⟩))) (hb1:X.cell? ⟨B1,0,none⟩=some (.int .i64 k)) (hb2:X.cell? ⟨B2,0,none⟩=some (.pointer (some ⟨L.fb i,0,none⟩))) (hb3:X.cell? ⟨B3,0,none⟩=some (.int .i64 q)) (hN0:¬ Sp S s L B0) (hN1:¬ Sp S s L B1) (hN2:¬ Sp S s L B2) (hN3:¬ Sp S s L B3) :
  Calls Tryz.prog 187 #[.pointer (some ⟨B0,0,none⟩),.pointer (some ⟨B1,0,none⟩),.pointer (some ⟨B2,0,none⟩),.pointer (some ⟨B3,0,none⟩)] X (dN base S s L ((s.dS (o*8+k) none).setF i { f with locks:=LK.KM.dI f.locks q }) (ans 0 ⟨#[]⟩) X):=by
 have a0:=Lib.cell?_alloc_some (.cells #[.int .i64 0,.int .i64 0,.string ⟨#[]⟩,.slice none 0 0] 38) hb0
 have a1:=Lib.cell?_alloc_some (.cells #[.int .i64 0,.int .i64 0,.string ⟨#[]⟩,.slice none 0 0] 38) hb1
 have hkz:(k:Int)<8:=by omega
 have c3:=h.fd (k:=o*8+k) (by omega)
 have c3:X.cell? ⟨S,3+o*8+k,none⟩=some (.pointer ((s.fds (o*8+k)).map fun j=>⟨L.ob j,0,none⟩)):=by rw [Nat.add_assoc];exact c3
 have f3:=h.frz (3+o*8+k)
 have a3:=Lib.cell?_alloc_some (.cells #[.int .i64 0,.int .i64 0,.string ⟨#[]⟩,.slice none 0 0] 38) c3
 have hlt:=h.lt
 have n1:¬ S=X.heap.size:=by omega
 have n2:¬ X.heap.size=S:=by omega
 have n3:¬ S=B0:=fun e=>hN0 (.inl (.inl e.symm))
 have n4:¬ S=B1:=fun e=>hN1 (.inl (.inl e.symm))
 have HS:Aside (aj base X S s L):=h
 go_enter Tryz.func187,Tryz.ntmps187
 go_wp2
 go_region
 have h1:=h.number (k:=o*8+k) (by omega) none nofun (.pointer none) rfl
 rw [← Nat.add_assoc] at h1
 have hz1:(X.setCell ⟨S,3+o*8+k,none⟩ (.pointer none)).heap.size=X.heap.size:=by simp [World.setCell]
 have h2:=(h1.aside (.cells #[.int .i64 0,.int .i64 0,.string ⟨#[]⟩,.slice none 0 0] 38)).kept (Below.refl _ _).drew
 rw [hz1] at h2
 obtain ⟨L1,hL1⟩:∃ L1:Lay6,L1={ L with ex:=fun b=>b=X.heap.size∨L.ex b }:=⟨_,rfl⟩
 rw [← hL1] at h2
 have hx1:L1.ex=(fun b=>b=X.heap.size∨L.ex b):=by rw [hL1]
 have hfb:L1.fb=L.fb:=by rw [hL1]
 have hlp:L1.lp=L.lp:=by rw [hL1]
 have HOB:Aside (L1.ob=L.ob):=by show L1.ob=L.ob;rw [hL1]
 have HB2:Aside (Below base X ((X.setCell ⟨S,3+o*8+k,none⟩ (.pointer none)).alloc (.cells #[.int .i64 0,.int .i64 0,.string ⟨#[]⟩,.slice none 0 0] 38)).drew):=by
  have h1:=(Below.refl base X).setCell (p:=⟨S,3+o*8+k,none⟩) HS.out.base.1 (.pointer none)
  exact (h1.alloc (Nat.le_trans (Nat.le_trans HS.out.base.1 (Nat.le_of_lt hlt)) h1.size) _).drew
 have HKZ:Aside (Keep (Mine S s L) X ((X.setCell ⟨S,3+o*8+k,none⟩ (.pointer none)).alloc (.cells #[.int .i64 0,.int .i64 0,.string ⟨#[]⟩,.slice none 0 0] 38)).drew):=(Keep.set (.inl rfl) _ _ _).trans (Keep.of_below _ (((Grown.refl _).alloc _).below.drew))
 have hbk:(((X.setCell ⟨S,3+o*8+k,none⟩ (.pointer none)).alloc (.cells #[.int .i64 0,.int .i64 0,.string ⟨#[]⟩,.slice none 0 0] 38)).drew).heap[X.heap.size]?=some (.cells #[.int .i64 0,.int .i64 0,.string ⟨#[]⟩,.slice none 0 0] 38):=by
  have:=heap_alloc_last (X.setCell ⟨S,3+o*8+k,none⟩ (.pointer none)) (.cells #[.int .i64 0,.int .i64 0,.string ⟨#[]⟩,.slice none 0 0] 38)
  rwa [hz1] at this
 have bk:∀ b,b<X.heap.size→¬ Sp S s L b→(((X.setCell ⟨S,3+o*8+k,none⟩ (.pointer none)).alloc (.cells #[.int .i64 0,.int .i64 0,.string ⟨#[]⟩,.slice none 0 0] 38)).drew).heap[b]?=X.heap[b]?:=fun b hb hn =>
  (((Grown.refl _).alloc _).below.block b (by rw [hz1];exact hb)).trans (Below.heap_setCell _ _ _ _ (fun e=>hn (.inl (.inl e))))
 have l2:=block_lt_of_cell hb2
 have l3:=block_lt_of_cell hb3
 simp only at l2 l3
 have t2:=(bR (bk B2 l2 hN2) 0).trans hb2
 have t3:=(bR (bk B3 l3 hN3) 0).trans hb3
 generalize ((X.setCell ⟨S,3+o*8+k,none⟩ (.pointer none)).alloc (.cells #[.int .i64 0,.int .i64 0,.string ⟨#[]⟩,.slice none 0 0] 38)).drew=Z at *
 clear bk a0 a1 a3 c3 f3 hb0 hb1 hb2 hb3 h1 hz1
 obtain ⟨⟨_,_,g2⟩,_,_,fz2⟩:=h2.kT (i:=i) (f:=f) hf
 rw [hfb,hlp] at g2
 rw [hfb] at fz2
 have hd:=h2.data.now.locks i f hf
 rw [hlp] at hd
 have hlv:=fun Y (hY:Below Z.heap.size Z Y)=>LK.EC f.locks q (L.lp i).1 (L.lp i).2 Y (hd.1.kept hY) hd.2.2 (by have:=hlk;omega)
 obtain ⟨n,hn⟩:∃ n,n=f.locks.length:=⟨_,rfl⟩
 have HN:Aside (n=f.locks.length):=hn
 rw [← hn] at g2 hlv
 have H2:Aside (aj base Z S (s.dS (o*8+k) none) L1∧L1.ex=(fun b=>b=X.heap.size∨L.ex b)∧L1.fb=L.fb∧L1.lp=L.lp∧Z.heap[X.heap.size]?=some (.cells #[.int .i64 0,.int .i64 0,.string ⟨#[]⟩,.slice none 0 0] 38)∧s.files[i]?=some f):=⟨h2,hx1,hfb,hlp,hbk,hf⟩
 obtain ⟨fb,hfbe⟩:∃ fb,fb=L.fb i:=⟨_,rfl⟩
 have HFB:Aside (fb=L.fb i):=hfbe
 rw [← hfbe] at t2 g2 fz2
 generalize (L.lp i).1=lp1 at g2 hlv
 generalize (L.lp i).2=lp2 at g2 hlv
 clear h2 hx1 hfb hlp hbk hd hn h hf hL1 hN0 hN1 hN2 hN3 hfbe l2 l3 hlk
 have lf:=block_lt_of_cell g2
 have lb:=block_lt_of_cell t2
 simp only at lf lb
 go_wp2
 go_region_with (first | (go_at_call 188;refine (hlv _ (Below.refl _ _).drew).mono ?_;clear hlv;rintro r w3 ⟨g,c,rfl,hg,hO,hB3⟩;have HO:Aside (Z.heap.size≤g∧LK.Own w3 g c (LK.KM.dI f.locks q)∧Below Z.heap.size Z w3):=⟨hg,hO,((Below.refl _ _).drew).trans hB3⟩;have u2:=(HO.out.2.2.cell (p:=⟨fb,2,none⟩) lf).trans g2;have u3:=(HO.out.2.2.frozen (p:=⟨fb,2,none⟩) lf).trans fz2;have u4:=(HO.out.2.2.cell (p:=⟨B2,0,none⟩) lb).trans t2;clear hO hg hB3))
 all_goals
  have H3:Aside (∃ L3,aj base (w3.setCell ⟨fb,2,none⟩ (.slice (some ⟨g,0,none⟩) (LK.KM.dI f.locks q).length c)) S ((s.dS (o*8+k) none).setF i { f with locks:=LK.KM.dI f.locks q }) L3∧L3.ex=L1.ex∧L3.ob=L1.ob∧L3.fb=L1.fb):=F5 H2.out.1 H2.out.2.2.2.2.2 (HFB.out.trans (by rw [H2.out.2.2.1])) HO.out.2.2 HO.out.1 HO.out.2.1
  have hbk:(w3.setCell ⟨fb,2,none⟩ (.slice (some ⟨g,0,none⟩) (LK.KM.dI f.locks q).length c)).heap[X.heap.size]?=some (.cells #[.int .i64 0,.int .i64 0,.string ⟨#[]⟩,.slice none 0 0] 38):=(Below.heap_setCell _ _ _ _ (fun e=>Io H2.out.1 H2.out.2.2.2.2.2 H2.out.2.2.2.2.1 (e.trans (HFB.out.trans (by rw [H2.out.2.2.1]))))).trans ((HO.out.2.2.block _ (Array.getElem?_eq_some_iff.1 H2.out.2.2.2.2.1).1).trans H2.out.2.2.2.2.1)
  have HB4:Aside (Below base X (w3.setCell ⟨fb,2,none⟩ (.slice (some ⟨g,0,none⟩) (LK.KM.dI f.locks q).length c))):=(HB2.out.trans (HO.out.2.2.mono (Nat.le_trans H2.out.1.base.1 (Nat.le_of_lt H2.out.1.lt)))).setCell (p:=⟨fb,2,none⟩) (by show base≤fb;rw [HFB.out,← H2.out.2.2.1];exact H2.out.1.base.2.2 i (List.getElem?_eq_some_iff.1 H2.out.2.2.2.2.2).1) _
  have HKY:Aside (Keep (Mine S s L) X (w3.setCell ⟨fb,2,none⟩ (.slice (some ⟨g,0,none⟩) (LK.KM.dI f.locks q).length c))):=(HKZ.out.trans (Keep.of_below _ HO.out.2.2)).trans (Keep.set (.inr (.inr ⟨i,(List.getElem?_eq_some_iff.1 H2.out.2.2.2.2.2).1,HFB.out⟩)) _ 2 _)
  generalize w3.setCell ⟨fb,2,none⟩ (.slice (some ⟨g,0,none⟩) (LK.KM.dI f.locks q).length c)=Y at *
  obtain ⟨⟨d0,d1,d2,d3⟩,z0,z1,z2,z3⟩:=bK hbk
  have HK:Aside (Y.heap[X.heap.size]?=some (.cells #[.int .i64 0,.int .i64 0,.string ⟨#[]⟩,.slice none 0 0] 38)):=hbk
  clear hbk u2 u3 u4 g2 fz2 t2 t3 HO
  go_wp2
  refine bodyPost_ret (v:=.agg #[.int .i64 0,.int .i64 0,.string ⟨#[]⟩,.slice none 0 0]) (by simp [results,Tryz.results187,go_sem,d0,d1,d2,d3]) rfl ?_
  obtain ⟨L3,q1,q2,q3,q4⟩:=H3.out
  exact Mid.fin (L':=L3) ⟨q1,⟨q3.trans HOB.out,q4.trans H2.out.2.2.1,fun b=>(by rw [q2,H2.out.2.1])⟩,HB4.out,HKY.out,HK.out⟩ ⟨rfl,by simp [Sy.setF,Sy.dS]⟩ _ _ _ _ (fun W=>iR _ _ _ _)
theorem yD {W X:World} {a b c:Obj} (h:((W.alloc a).alloc b).alloc c=X):X.heap[W.heap.size]?=some a∧X.heap[W.heap.size+1]?=some b∧X.heap[W.heap.size+2]?=some c:=by
 have h2:Below ((W.alloc a).alloc b).heap.size ((W.alloc a).alloc b) X:=by rw [← h];exact ((Grown.refl _).alloc c).below
 have hs:((W.alloc a).alloc b).heap.size=W.heap.size+2:=by simp
 refine ⟨(h2.block _ (by omega)).trans (iI rfl),(h2.block _ (by omega)).trans (dY rfl),?_⟩
 rw [← h]
 have:=heap_alloc_last ((W.alloc a).alloc b) c
 rwa [hs] at this
def uG (base S:Nat) (s:Sy) (L:Lay6) (s':Sy) (an:An) (W:World) (r:Ending) (W':World):Prop:=∃ g cap,r=.returned (.func (.func g) #[] cap)∧Below W.heap.size W W'∧(∀ args w,(callFunc g args).run Tryz.prog w=.ok (.enter g args) w)∧Calls Tryz.prog g cap W' (dN base S s L s' an W')
set_option maxRecDepth 100000 in
set_option maxHeartbeats 1000000 in
theorem D5 {base:Nat} {W:World} {S:Nat} {s:Sy} {L:Lay6} (h:aj base W S s L) (o k j:Nat) (q:Int) (op:Opn) (f:Fl) (ho4:o<4) (hk8:k<8) (hfd:s.fds (o*8+k)=some j) (hop:s.opens[j]?=some op) (hf:s.files[op.file]?=some f) (hlk:f.locks.length≤1000) :
  Calls Tryz.prog 137 #[.pointer (some ⟨S,3+o*8,none⟩),.int .i64 k,.int .i64 q] W (uG base S s L ((s.dS (o*8+k) none).setF op.file { f with locks:=LK.KM.dI f.locks q }) (ans 0 ⟨#[]⟩) W):=by
 obtain ⟨X,hX⟩:∃ X,((W.alloc (.cells #[.pointer (some ⟨S,3+o*8,none⟩)] 166)).alloc (.cells #[.int .i64 k] 3)).alloc (.cells #[.int .i64 q] 3)=X:=⟨_,rfl⟩
 have hB:Below W.heap.size W X:=by rw [← hX];exact (((Below.refl _ _).alloc (Nat.le_refl _) _).alloc (by simp) _).alloc (by simp;omega) _
 have hsX:X.heap.size=W.heap.size+3:=by rw [← hX];simp
 obtain ⟨k0,k1,k2⟩:=yD hX
 have b0:X.cell? ⟨W.heap.size,0,none⟩=some (.pointer (some ⟨S,3+o*8,none⟩)):=by simp [World.cell?,k0]
 have b1:X.cell? ⟨W.heap.size+1,0,none⟩=some (.int .i64 k):=by simp [World.cell?,k1]
 have b2:X.cell? ⟨W.heap.size+2,0,none⟩=some (.int .i64 q):=by simp [World.cell?,k2]
 clear k0 k1 k2
 have hk:=h.kept hB
 have hkz:(k:Int)<8:=by omega
 have c3:=hk.fd (k:=o*8+k) (by omega)
 have c3:X.cell? ⟨S,3+o*8+k,none⟩=some (.pointer (some ⟨L.ob j,0,none⟩)):=by rw [Nat.add_assoc];rw [hfd] at c3;exact c3
 obtain ⟨⟨c4,_,_⟩,_⟩:=hk.iB hop
 have n1:=World.new_ne X ⟨S,3+o*8+k,none⟩ c3
 have n2:=World.new_ne X ⟨L.ob j,0,none⟩ c4
 have n3:=World.new_ne X ⟨W.heap.size,0,none⟩ b0
 have n4:=World.new_ne X ⟨W.heap.size+1,0,none⟩ b1
 have HA:Aside (aj base W S s L∧Below W.heap.size W X∧s.files[op.file]?=some f∧f.locks.length≤1000∧X.cell? ⟨W.heap.size+2,0,none⟩=some (.int .i64 q)∧X.cell? ⟨W.heap.size,0,none⟩=some (.pointer (some ⟨S,3+o*8,none⟩))∧X.cell? ⟨W.heap.size+1,0,none⟩=some (.int .i64 k)∧X.heap.size=W.heap.size+3):=⟨h,hB,hf,hlk,b2,b0,b1,hsX⟩
 have HX:Aside (((W.alloc (.cells #[.pointer (some ⟨S,3+o*8,none⟩)] 166)).alloc (.cells #[.int .i64 k] 3)).alloc (.cells #[.int .i64 q] 3)=X):=hX
 clear h hB hf hlk hk hfd hop b2 hX
 go_enter Tryz.func137,Tryz.ntmps137
 go_wp2
 rw [HX.out]
 go_region_held3 (fun w'=>w'.cell? ⟨W.heap.size,0,none⟩=some (.pointer (some ⟨S,3+o*8,none⟩))∧w'.cell? ⟨W.heap.size+1,0,none⟩=some (.int .i64 k)∧w'.cell? ⟨S,3+o*8+k,none⟩=some (.pointer (some ⟨L.ob j,0,none⟩))∧w'.cell? ⟨L.ob j,0,none⟩=some (.pointer (some ⟨L.fb op.file,0,none⟩))) (go_keep) (fail)
 go_wp2
 go_ret
 obtain ⟨h,hB,hf,hlk,d2,d0,d1,hs⟩:=HA.out
 have hBn:Below X.heap.size X (X.alloc (.cells #[.pointer (some ⟨L.fb op.file,0,none⟩)] 114)).drew:=(((Grown.refl X).alloc _).below).drew
 have hBf:=Below.onto hB hBn
 refine ⟨_,_,rfl,hBf,enters_of Tryz.func187 (by kernel_rfl) rfl,?_⟩
 have hnew:(X.alloc (.cells #[.pointer (some ⟨L.fb op.file,0,none⟩)] 114)).drew.heap[W.heap.size+3]?=some (.cells #[.pointer (some ⟨L.fb op.file,0,none⟩)] 114):=by
  have:=heap_alloc_last X (.cells #[.pointer (some ⟨L.fb op.file,0,none⟩)] 114)
  rwa [hs] at this
 exact Im (h.kept hBf) W.heap.size (W.heap.size+1) (W.heap.size+3) (W.heap.size+2) o k op.file q f ho4 hk8 hf hlk ((hBn.cell (p:=⟨W.heap.size,0,none⟩) (by show W.heap.size<_;omega)).trans d0) ((hBn.cell (p:=⟨W.heap.size+1,0,none⟩) (by show W.heap.size+1<_;omega)).trans d1) (by simp [World.cell?,hnew]) ((hBn.cell (p:=⟨W.heap.size+2,0,none⟩) (by show W.heap.size+2<_;omega)).trans d2) (h.exNe (by omega)) (h.exNe (by omega)) (h.exNe (by omega)) (h.exNe (by omega))
def oV (base S:Nat) (s s':Sy) (L:Lay6) (X:World) (r:Ending) (X':World):Prop:=r=.returned (.tuple #[])∧∃ L':Lay6,aj base X' S s' L'∧L'.ob=L.ob∧L'.fb=L.fb∧L'.ex=L.ex∧Below base X X'∧Keep (fun b=>b=S∨Fb s L b) X X'
theorem JO {base:Nat} {X:World} {S:Nat} {s:Sy} {L:Lay6} (h:aj base X S s L):Calls Tryz.prog 233 #[] X (oV base S s s L X):=by
 have HS:Aside (aj base X S s L):=h
 clear h
 go_enter Tryz.func233,Tryz.ntmps233
 go_wp2
 refine bodyPost_end (results_none rfl _ _ _) rfl ?_
 exact ⟨rfl,L,HS.out,rfl,rfl,rfl,Below.refl _ _,Keep.refl _ _⟩
theorem JQ {base:Nat} {X:World} {S:Nat} {s:Sy} {L:Lay6} (h:aj base X S s L) (Bt Bf i:Nat) (t:ByteArray) (f:Fl) (hf:s.files[i]?=some f) (hbt:X.cell? ⟨Bt,0,none⟩=some (.string t)) (hbf:X.cell? ⟨Bf,0,none⟩=some (.pointer (some ⟨L.fb i,0,none⟩))) :
  Calls Tryz.prog 234 #[.pointer (some ⟨Bt,0,none⟩),.pointer (some ⟨Bf,0,none⟩)] X (oV base S s (s.setF i { f with text:=t }) L X):=by
 have HS:Aside (aj base X S s L∧s.files[i]?=some f):=⟨h,hf⟩
 obtain ⟨⟨_,c1,_⟩,_,g1,_⟩:=h.kT hf
 clear h hf
 go_enter Tryz.func234,Tryz.ntmps234
 go_wp2
 refine bodyPost_end (results_none rfl _ _ _) rfl ?_
 obtain ⟨h,hf⟩:=HS.out
 have hi:=(List.getElem?_eq_some_iff.1 hf).1
 have hb:=(iw (h.fil i f hf) (.string t)).1
 exact ⟨rfl,L,h.Ci (f':={ f with text:=t }) hf rfl (Keep.set (sp:=(·=L.fb i)) rfl _ 1 _) hb,rfl,rfl,rfl,(Below.refl _ _).setCell (p:=⟨L.fb i,1,none⟩) (h.base.2.2 i hi) _,Keep.set (.inr ⟨i,hi,rfl⟩) _ 1 _⟩
theorem JR {base:Nat} {X:World} {S:Nat} {s:Sy} {L:Lay6} (h:aj base X S s L) (hg:Gl base X) (B0 B1:Nat) (hb0:X.cell? ⟨B0,0,none⟩=some (.pointer (some ⟨S,0,none⟩))) (y:Lay) (lo:List Lay) (pl:Option Addr) (cl:Nat) (hb1:fD X B1 y lo pl cl) (hU:St (Sp S s L) X (fun X=>UnOK X y lo pl cl)) (h0:(ay (y.es::lo.map (·.es))).1=0) :
  Calls Tryz.prog 235 #[.pointer (some ⟨B0,0,none⟩),.pointer (some ⟨B1,0,none⟩)] X (oV base S s (s.aJ y.es (lo.map (·.es))) L X):=by
 have hst:=jV h hg y lo pl cl hU h0
 obtain ⟨c0,c1⟩:=hb1
 generalize y.es.length=yn at c0 hst
 generalize lo.length=ln at c1 hst
 clear h hg hU h0
 go_enter Tryz.func235,Tryz.ntmps235
 go_wp2_with (go_at_call 124;refine hst.mono ?_;clear hst;rintro r X2 ⟨rfl,hS⟩;have HS:Aside (AV base S (s.aJ y.es (lo.map (·.es))) L X X2):=hS;clear hS)
 refine bodyPost_end (results_none rfl _ _ _) rfl ?_
 obtain ⟨L2,hA,e1,e2,e3,hB,hk⟩:=HS.out
 exact ⟨rfl,L2,hA,e1,e2,e3,hB,hk.weak fun b hb=>.inl hb⟩
set_option maxHeartbeats 1000000 in
theorem EF {base:Nat} {X:World} {S:Nat} {s:Sy} {L:Lay6} (h:aj base X S s L) (Bl Bo j:Nat) (o:Opn) (f:Fl) (ho:s.opens[j]?=some o) (hf:s.files[o.file]?=some f) (l:List LK.Lk) (p:Option Addr) (n c:Nat) (hn:n=l.length) (hbl:X.cell? ⟨Bl,0,none⟩=some (.slice p n c)) (hbo:X.cell? ⟨Bo,0,none⟩=some (.pointer (some ⟨L.ob j,0,none⟩))) (hl:St (Sp S s L) X (fun Y=>LK.Lies Y p l)) (hc:l.length≤c) (hp:p=none→c=0) (hNl:¬ L.fb o.file=Bl) (hNo:¬ L.fb o.file=Bo) :
  Calls Tryz.prog 191 #[.pointer (some ⟨Bl,0,none⟩),.pointer (some ⟨Bo,0,none⟩)] X (dN base S s L (s.setF o.file { f with locks:=l }) (ans 0 ⟨#[]⟩) X):=by
 have a0:=Lib.cell?_alloc_some (.cells #[.int .i64 0,.int .i64 0,.string ⟨#[]⟩,.slice none 0 0] 38) hbl
 have a1:=Lib.cell?_alloc_some (.cells #[.int .i64 0,.int .i64 0,.string ⟨#[]⟩,.slice none 0 0] 38) hbo
 obtain ⟨⟨c0,_,_⟩,_⟩:=h.iB ho
 obtain ⟨⟨_,_,g2⟩,_,_,fz⟩:=h.kT hf
 have hi:=(List.getElem?_eq_some_iff.1 hf).1
 have hj:=(List.getElem?_eq_some_iff.1 ho).1
 have hlt:=h.flt hi
 have hlo:=h.olt hj
 have hbs:=h.base.2.2 o.file hi
 have n5:¬ L.fb o.file=L.ob j:=fun e=>h.ofne hi hj e.symm
 obtain ⟨fb,hfb⟩:∃ fb,fb=L.fb o.file:=⟨_,rfl⟩
 have HF:Aside (fb=L.fb o.file∧aj base X S s L∧s.opens[j]?=some o∧s.files[o.file]?=some f∧St (Sp S s L) X (fun Y=>LK.Lies Y p l)∧l.length≤c∧(p=none→c=0)∧n=l.length):=⟨hfb,h,ho,hf,hl,hc,hp,hn⟩
 rw [← hfb] at c0 g2 fz hlt hbs n5 hNl hNo
 have a2:=Lib.cell?_alloc_some (.cells #[.int .i64 0,.int .i64 0,.string ⟨#[]⟩,.slice none 0 0] 38) c0
 have a3:=Lib.cell?_alloc_some (.cells #[.int .i64 0,.int .i64 0,.string ⟨#[]⟩,.slice none 0 0] 38) g2
 have n1:¬ fb=X.heap.size:=by omega
 have n2:¬ X.heap.size=fb:=by omega
 have n3:¬ L.ob j=fb:=fun e=>n5 e.symm
 clear h ho hf hl hc hp hn hfb
 go_enter Tryz.func191,Tryz.ntmps191
 go_wp2
 go_region_held3 (fun w'=>w'.cell? ⟨Bl,0,none⟩=some (.slice p n c)∧w'.cell? ⟨Bo,0,none⟩=some (.pointer (some ⟨L.ob j,0,none⟩))∧w'.cell? ⟨L.ob j,0,none⟩=some (.pointer (some ⟨fb,0,none⟩))) (go_keep) (fail)
 have H2:Aside (∃ L2,aj base ((X.setCell ⟨fb,2,none⟩ (.slice p n c)).alloc (.cells #[.int .i64 0,.int .i64 0,.string ⟨#[]⟩,.slice none 0 0] 38)).drew S (s.setF o.file { f with locks:=l }) L2∧pW L L2 X.heap.size):=by
  obtain ⟨e,h,ho,hf,hl,hc,hp,hn⟩:=HF.out
  subst e hn
  have hb:=(iw (h.fil _ f hf) (.slice p l.length c)).2.2
  have h1:=h.file (f':={ f with locks:=l }) hf (p,c) (Keep.set (sp:=(·=L.fb o.file)) rfl _ 2 (.slice p l.length c)) hb (St.on hl (Keep.set (.inr (.inr ⟨_,(List.getElem?_eq_some_iff.1 hf).1,rfl⟩)) _ 2 _)) hc hp
  exact ⟨_,(h1.aside (.cells #[.int .i64 0,.int .i64 0,.string ⟨#[]⟩,.slice none 0 0] 38)).kept (Below.refl _ _).drew,⟨rfl,rfl,fun b=>by simp [World.setCell]⟩⟩
 have HB2:Aside (Below base X ((X.setCell ⟨fb,2,none⟩ (.slice p n c)).alloc (.cells #[.int .i64 0,.int .i64 0,.string ⟨#[]⟩,.slice none 0 0] 38)).drew):=by
  have h1:=(Below.refl base X).setCell (p:=⟨fb,2,none⟩) hbs (.slice p n c)
  exact (h1.alloc (Nat.le_trans (Nat.le_trans hbs (Nat.le_of_lt hlt)) h1.size) _).drew
 have HKZ:Aside (Keep (Mine S s L) X ((X.setCell ⟨fb,2,none⟩ (.slice p n c)).alloc (.cells #[.int .i64 0,.int .i64 0,.string ⟨#[]⟩,.slice none 0 0] 38)).drew):=(Keep.set (.inr (.inr ⟨o.file,(List.getElem?_eq_some_iff.1 HF.out.2.2.2.1).1,HF.out.1⟩)) _ _ _).trans (Keep.of_below _ (((Grown.refl _).alloc _).below.drew))
 have hbk:(((X.setCell ⟨fb,2,none⟩ (.slice p n c)).alloc (.cells #[.int .i64 0,.int .i64 0,.string ⟨#[]⟩,.slice none 0 0] 38)).drew).heap[X.heap.size]?=some (.cells #[.int .i64 0,.int .i64 0,.string ⟨#[]⟩,.slice none 0 0] 38):=by
  have:=heap_alloc_last (X.setCell ⟨fb,2,none⟩ (.slice p n c)) (.cells #[.int .i64 0,.int .i64 0,.string ⟨#[]⟩,.slice none 0 0] 38)
  rwa [show (X.setCell ⟨fb,2,none⟩ (.slice p n c)).heap.size=X.heap.size from by simp [World.setCell]] at this
 generalize ((X.setCell ⟨fb,2,none⟩ (.slice p n c)).alloc (.cells #[.int .i64 0,.int .i64 0,.string ⟨#[]⟩,.slice none 0 0] 38)).drew=Z at *
 obtain ⟨⟨d0,d1,d2,d3⟩,z0,z1,z2,z3⟩:=bK hbk
 have HK:Aside (Z.heap[X.heap.size]?=some (.cells #[.int .i64 0,.int .i64 0,.string ⟨#[]⟩,.slice none 0 0] 38)):=hbk
 clear hbk a0 a1 a2 a3 hbl hbo c0 g2 fz
 go_wp2
 refine bodyPost_ret (v:=.agg #[.int .i64 0,.int .i64 0,.string ⟨#[]⟩,.slice none 0 0]) (by simp [results,Tryz.results191,go_sem,d0,d1,d2,d3]) rfl ?_
 obtain ⟨L2,q1,q2⟩:=H2.out
 exact Mid.fin (L':=L2) ⟨q1,q2,HB2.out,HKZ.out,HK.out⟩ ⟨rfl,by simp [Sy.setF]⟩ _ _ _ _ (fun W=>iR _ _ _ _)
set_option maxHeartbeats 1000000 in
theorem JG {base:Nat} {X:World} {S:Nat} {s s':Sy} {L:Lay6} (h:aj base X S s L) (hn:dD s s') (Bk:Nat) (g:FuncId) (cap:Array Value) (eg:∀ args w,(callFunc g args).run Tryz.prog w=.ok (.enter g args) w) (hbk:X.cell? ⟨Bk,0,none⟩=some (.func (.func g) #[] cap)) (hkp:Calls Tryz.prog g cap (X.alloc (.cells #[.int .i64 0,.int .i64 0,.string ⟨#[]⟩,.slice none 0 0] 38)) (oV base S s s' { L with ex:=fun b=>b=X.heap.size∨L.ex b } (X.alloc (.cells #[.int .i64 0,.int .i64 0,.string ⟨#[]⟩,.slice none 0 0] 38)))) :
  Calls Tryz.prog 201 #[.pointer (some ⟨Bk,0,none⟩)] X (dN base S s L s' (ans 0 ⟨#[]⟩) X):=by
 have a0:=Lib.cell?_alloc_some (.cells #[.int .i64 0,.int .i64 0,.string ⟨#[]⟩,.slice none 0 0] 38) hbk
 have hbase:base≤X.heap.size:=Nat.le_trans h.base.1 (Nat.le_of_lt h.lt)
 have HX:Aside (S<X.heap.size∧¬ Fb s { L with ex:=fun b=>b=X.heap.size∨L.ex b } X.heap.size∧Below base X (X.alloc (.cells #[.int .i64 0,.int .i64 0,.string ⟨#[]⟩,.slice none 0 0] 38))∧(X.alloc (.cells #[.int .i64 0,.int .i64 0,.string ⟨#[]⟩,.slice none 0 0] 38)).heap[X.heap.size]?=some (.cells #[.int .i64 0,.int .i64 0,.string ⟨#[]⟩,.slice none 0 0] 38)):=⟨h.lt,fun ⟨i,hi,e⟩=>by have e:X.heap.size=L.fb i:=e;have:=h.flt hi;omega,(((Grown.refl X).alloc _).below).mono hbase,heap_alloc_last X _⟩
 clear h hbk
 go_enter Tryz.func201,Tryz.ntmps201
 go_wp2_with (go_at_fn g;refine (Calls.mono (by simpa using hkp) ?_);clear hkp;rintro r X2 ⟨rfl,L2,hA2,ho2,hf2,hx2,hB2,hk2⟩;have hbk2:X2.heap[X.heap.size]?=some (.cells #[.int .i64 0,.int .i64 0,.string ⟨#[]⟩,.slice none 0 0] 38):=(hk2.block _ (Array.getElem?_eq_some_iff.1 HX.out.2.2.2).1 (by rintro (e | e);(have:=HX.out.1;omega);exact HX.out.2.1 e)).trans HX.out.2.2.2;have H2:Aside (Mid base S s L s' L2 X X2):=⟨hA2,⟨ho2,hf2,fun b=>(by rw [hx2])⟩,HX.out.2.2.1.trans hB2,Keep.mine (((Grown.refl X).alloc _).below) hk2 (fun b hb=>hb.imp id .inr),hbk2⟩;obtain ⟨⟨d0,d1,d2,d3⟩,z0,z1,z2,z3⟩:=bK hbk2;clear hA2 hx2 hB2 hk2 hbk2)
 refine bodyPost_ret (v:=.agg #[.int .i64 0,.int .i64 0,.string ⟨#[]⟩,.slice none 0 0]) (by simp [results,Tryz.results201,go_sem,d0,d1,d2,d3]) rfl ?_
 exact H2.out.fin hn _ _ _ _ (fun W=>iR _ _ _ _)
set_option maxHeartbeats 1000000 in
theorem Ja {base:Nat} {X:World} {S:Nat} {s s':Sy} {L:Lay6} (h:aj base X S s L) (hn:dD s s') (Bk Be Bo Bt j:Nat) (o:Opn) (e:Int) (t:ByteArray) (g:FuncId) (cap:Array Value) (eg:∀ args w,(callFunc g args).run Tryz.prog w=.ok (.enter g args) w) (ho:s.opens[j]?=some o) (ho':s'.opens[j]?=some o) (hbk:X.cell? ⟨Bk,0,none⟩=some (.func (.func g) #[] cap)) (hbe:X.cell? ⟨Be,0,none⟩=some (.int .i64 e)) (hbo:X.cell? ⟨Bo,0,none⟩=some (.pointer (some ⟨L.ob j,0,none⟩))) (hbt:X.cell? ⟨Bt,0,none⟩=some (.string t)) (hNe:¬ Sp S s L Be) (hNo:¬ Sp S s L Bo) (hNt:¬ Sp S s L Bt)
  (hkp:Calls Tryz.prog g cap (X.alloc (.cells #[.int .i64 0,.int .i64 0,.string ⟨#[]⟩,.slice none 0 0] 38)) (oV base S s s' { L with ex:=fun b=>b=X.heap.size∨L.ex b } (X.alloc (.cells #[.int .i64 0,.int .i64 0,.string ⟨#[]⟩,.slice none 0 0] 38)))) :
  Calls Tryz.prog 200 #[.pointer (some ⟨Bk,0,none⟩),.pointer (some ⟨Be,0,none⟩),.pointer (some ⟨Bo,0,none⟩),.pointer (some ⟨Bt,0,none⟩)] X (dN base S s L (s'.setO j { o with pos:=e }) (ans t.size ⟨#[]⟩) X):=by
 have a0:=Lib.cell?_alloc_some (.cells #[.int .i64 0,.int .i64 0,.string ⟨#[]⟩,.slice none 0 0] 38) hbk
 have hbase:base≤X.heap.size:=Nat.le_trans h.base.1 (Nat.le_of_lt h.lt)
 have HX:Aside (S<X.heap.size∧¬ Fb s { L with ex:=fun b=>b=X.heap.size∨L.ex b } X.heap.size∧Below base X (X.alloc (.cells #[.int .i64 0,.int .i64 0,.string ⟨#[]⟩,.slice none 0 0] 38))∧(X.alloc (.cells #[.int .i64 0,.int .i64 0,.string ⟨#[]⟩,.slice none 0 0] 38)).heap[X.heap.size]?=some (.cells #[.int .i64 0,.int .i64 0,.string ⟨#[]⟩,.slice none 0 0] 38)∧s'.opens[j]?=some o∧L.ob j<X.heap.size∧s.opens[j]?=some o):=⟨h.lt,fun ⟨i,hi,e⟩=>by have e:X.heap.size=L.fb i:=e;have:=h.flt hi;omega,(((Grown.refl X).alloc _).below).mono hbase,heap_alloc_last X _,ho',h.olt (List.getElem?_eq_some_iff.1 ho).1,ho⟩
 have HK:Aside (∀ X2,Keep (fun b=>b=S∨Fb s { L with ex:=fun b=>b=X.heap.size∨L.ex b } b) (X.alloc (.cells #[.int .i64 0,.int .i64 0,.string ⟨#[]⟩,.slice none 0 0] 38)) X2→X2.cell? ⟨Be,0,none⟩=some (.int .i64 e)∧X2.cell? ⟨Bo,0,none⟩=some (.pointer (some ⟨L.ob j,0,none⟩))∧X2.cell? ⟨Bt,0,none⟩=some (.string t)):=by
  show ∀ X2,_
  intro X2 hk
  have go:∀ B v,X.cell? ⟨B,0,none⟩=some v→¬ Sp S s L B→X2.cell? ⟨B,0,none⟩=some v:=fun B v hv hn=>by
   have hl:=block_lt_of_cell hv
   simp only at hl
   have hB:=((Grown.refl X).alloc (.cells #[.int .i64 0,.int .i64 0,.string ⟨#[]⟩,.slice none 0 0] 38)).below
   refine (bR ((hk.block B (Nat.lt_of_lt_of_le hl hB.size) ?_).trans (hB.block B hl)) 0).trans hv
   rintro (e | ⟨i,hi,e⟩)
   ·exact hn (.inl (.inl e))
   ·exact hn (.inr (.inr ⟨i,hi,e⟩))
  exact ⟨go _ _ hbe hNe,go _ _ hbo hNo,go _ _ hbt hNt⟩
 clear h hbk hbe hbo hbt hNe hNo hNt ho ho'
 go_enter Tryz.func200,Tryz.ntmps200
 go_wp2_with (go_at_fn g;refine (Calls.mono (by simpa using hkp) ?_);clear hkp;rintro r X2 ⟨rfl,L2,hA2,hob,hf2,hx2,hB2,hk2⟩;obtain ⟨t0,t1,t2⟩:=HK.out X2 hk2;have hob:L2.ob=L.ob:=hob;obtain ⟨⟨_,_,y2⟩,y3⟩:=hA2.iB HX.out.2.2.2.2.1;rw [hob] at y2 y3;have hbk2:X2.heap[X.heap.size]?=some (.cells #[.int .i64 0,.int .i64 0,.string ⟨#[]⟩,.slice none 0 0] 38):=(hk2.block _ (Array.getElem?_eq_some_iff.1 HX.out.2.2.2.1).1 (by rintro (e | e);(have:=HX.out.1;omega);exact HX.out.2.1 e)).trans HX.out.2.2.2.1;have n1:¬ L.ob j=X.heap.size:=(by have:=HX.out.2.2.2.2.2.1;omega);have n2:¬ X.heap.size=L.ob j:=(fun e=>n1 e.symm);have n3:¬ L.ob j=Bt:=(fun e=>by (rw [← e] at t2;obtain ⟨⟨y1,_,_⟩,_⟩:=hA2.iB HX.out.2.2.2.2.1;rw [hob,t2] at y1;cases y1));have H2:Aside (aj base X2 S s' L2∧L2.ob=L.ob∧pW L L2 X.heap.size∧Below base X X2∧X2.heap[X.heap.size]?=some (.cells #[.int .i64 0,.int .i64 0,.string ⟨#[]⟩,.slice none 0 0] 38)∧Keep (Mine S s L) X X2):=⟨hA2,hob,⟨hob,hf2,fun b=>(by rw [hx2])⟩,HX.out.2.2.1.trans hB2,hbk2,Keep.mine (((Grown.refl X).alloc _).below) hk2 (fun b hb=>hb.imp id .inr)⟩;obtain ⟨⟨d0,d1,d2,d3⟩,z0,z1,z2,z3⟩:=bK hbk2;clear hA2 hx2 hB2 hk2 hbk2)
 refine bodyPost_ret (v:=.agg #[.int .i64 0,.int .i64 t.size,.string ⟨#[]⟩,.slice none 0 0]) (by simp [results,Tryz.results200,go_sem,d0,d1,d2,d3]) rfl ?_
 obtain ⟨q1,q0,q2,q3,q4,q5⟩:=H2.out
 have hop:=HX.out.2.2.2.2.1
 have hb:=(iw (q1.opn j o hop) (.int .i64 e)).2.2
 rw [q0] at hb
 have r1:aj base (X2.setCell ⟨L.ob j,2,none⟩ (.int .i64 e)) S (s'.setO j { o with pos:=e }) L2:=q1.opening (o':={ o with pos:=e }) hop rfl (by rw [q0];exact Keep.set (sp:=(·=L.ob j)) rfl _ 2 (.int .i64 e)) (by rw [q0];exact hb)
 have r4:((X2.setCell ⟨L.ob j,2,none⟩ (.int .i64 e))).heap[X.heap.size]?=some (.cells #[.int .i64 0,.int .i64 0,.string ⟨#[]⟩,.slice none 0 0] 38):=(Below.heap_setCell _ _ _ _ n2).trans q4
 have hbs:base≤L.ob j:=by rw [← q0];exact q1.base.2.1 j (List.getElem?_eq_some_iff.1 hop).1
 exact Mid.fin (L':=L2) ⟨r1,q2,q3.setCell (p:=⟨L.ob j,2,none⟩) hbs _,q5.trans (Keep.set (.inr (.inl ⟨j,(List.getElem?_eq_some_iff.1 HX.out.2.2.2.2.2.2).1,rfl⟩)) _ 2 _),r4⟩ (hn.trans ⟨by simp [Sy.setO],rfl⟩) _ _ _ _ (fun W=>iR _ _ _ _)
end Go.Proofs.YthfeoiffoeagkaaGreatDoor
