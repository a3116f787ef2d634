/-
  (*sys.system).write.
-/
import Derived.Test.YthfeoiffoeagkaaGreatDoorZA28
namespace Go.Proofs.YthfeoiffoeagkaaGreatDoor
open Go.RowKit PM Go.Sort
set_option linter.unusedVariables false
namespace PM
def Sy.wrAt (s:Sy) (o:Opn) (f:Fl):Int:=if (bits BinOp.and IntKind.i64 o.use 4 != 0)=true then ((s.textOf f).size:Int) else o.pos
def dX (now tx:ByteArray) (pos:Int):ByteArray:=if tx.data.toList=[] then now else dA now pos++tx++now.extract (min (pos+tx.size) now.size).toNat now.size
noncomputable def Sy.wu (s:Sy) (o:Opn) (f:Fl) (tx:ByteArray):Int:=if (bits BinOp.and IntKind.i64 o.use 2 == 0)=true then 8 else if ¬ tx.data.toList=[]∧100<s.wrAt o f+tx.size then 4 else s.cZ f (dX (s.textOf f) tx (s.wrAt o f))
def Sy.wrDo (s:Sy) (j:Nat) (o:Opn) (f:Fl) (tx:ByteArray):Sy:=(s.eB o.file f (dX (s.textOf f) tx (s.wrAt o f))).setO j { o with pos:=s.wrAt o f+tx.size }
theorem kV (s:Sy) (i:Nat) (f:Fl) (t:ByteArray):(s.eB i f t).opens=s.opens:=by
 unfold Sy.eB
 split
 ·rfl
 ·split <;> rfl
end PM
theorem oH {base:Nat} {W:World} {S:Nat} {s s':Sy} {L:Lay6} (h:aj base W S s L) (hg:Gl base W) (hn:dD s s') {j:Nat} {o:Opn} (ho:s.opens[j]?=some o) (ho':s'.opens=s.opens) {w4 w5 Wf:World} {Bk Be Bo Bt:Nat} {g:FuncId} {cap:Array Value} {e:Int} {tx:ByteArray} (hY:Below W.heap.size W w4) (hB5:Below w4.heap.size w4 w5) (hK:Below w5.heap.size w5 Wf) (l1:W.heap.size≤Be) (l2:W.heap.size≤Bo) (l3:W.heap.size≤Bt) (hbk:Wf.cell? ⟨Bk,0,none⟩=some (.func (.func g) #[] cap)) (hbe:Wf.cell? ⟨Be,0,none⟩=some (.int .i64 e)) (hbo:Wf.cell? ⟨Bo,0,none⟩=some (.pointer (some ⟨L.ob j,0,none⟩))) (hbt:Wf.cell? ⟨Bt,0,none⟩=some (.string tx)) (H5:(∀ args w,(callFunc g args).run Tryz.prog w=.ok (.enter g args) w)∧oU base S s s' L g cap w4.heap.size w5) :
  yE base S s L 0 (s'.setO j { o with pos:=e }) (ans tx.size ⟨#[]⟩) W (.returned (.tuple #[.func (.func 200) #[] #[.pointer (some ⟨Bk,0,none⟩),.pointer (some ⟨Be,0,none⟩),.pointer (some ⟨Bo,0,none⟩),.pointer (some ⟨Bt,0,none⟩)],.int .i64 0])) Wf:=by
 obtain ⟨eg,hkf⟩:=H5
 have hBf:Below W.heap.size W Wf:=Below.onto (Below.onto hY hB5) hK
 have hf:=h.kept hBf
 have hbase:base≤W.heap.size:=Nat.le_trans h.base.1 (Nat.le_of_lt h.lt)
 have hA:∀ o,Below Wf.heap.size Wf (Wf.alloc o):=fun o=>((Grown.refl Wf).alloc o).below
 refine ⟨_,rfl,hBf,fun _=>⟨_,_,rfl,enters_of Tryz.func200 (by kernel_rfl) rfl,Ja hf hn Bk Be Bo Bt j o e tx g cap eg ho (by rw [ho'];exact ho) hbk hbe hbo hbt (h.exNe l1) (h.exNe l2) (h.exNe l3) (hkf _ _ (hf.aside _) ((Keep.of_below _ hK).trans (Keep.of_below _ (hA _))) rfl rfl (fun b hb=>?_) (hg.kept ((Below.onto hBf (hA _)).mono hbase)))⟩⟩
 have hz:=hK.size
 rcases hb with (e | (e | hx)) | hs
 ·have:=h.lt;have:=hY.size;left;omega
 ·right;rw [e];exact hz
 ·have:=(h.exb b hx).2;have:=hY.size;left;omega
 ·have:=(h.cK (.inr hs)).2;have:=hY.size;left;omega
set_option maxRecDepth 100000 in
set_option maxHeartbeats 4000000 in
theorem Hw {base:Nat} {W:World} {S:Nat} {s:Sy} {L:Lay6} (h:aj base W S s L) (hg:Gl base W) (j:Nat) (o:Opn) (f:Fl) (tx:ByteArray) (htx62:tx.size≤140737488355328) (ho:s.opens[j]?=some o) (hf:s.files[o.file]?=some f) (hp0:0≤o.pos) (hp1:o.pos≤1000) (hfp:f.path.size≤80) (hft:(s.textOf f).size≤100) (hu:(bits BinOp.and IntKind.i64 o.use 2 == 0)=false) :
  Calls Tryz.prog 144 #[.pointer (some ⟨S,0,none⟩),.pointer (some ⟨L.ob j,0,none⟩),.string tx] W (yE base S s L (if ¬ tx.data.toList=[]∧100<s.wrAt o f+tx.size then 4 else s.cZ f (dX (s.textOf f) tx (s.wrAt o f))) (s.wrDo j o f tx) (ans tx.size ⟨#[]⟩) W):=by
 obtain ⟨X,hX⟩:∃ X,(W.alloc (.cells #[.pointer (some ⟨L.ob j,0,none⟩)] 78)).alloc (.cells #[.string tx] 9)=X:=⟨_,rfl⟩
 have hBX:Below W.heap.size W X:=by rw [← hX];exact ((Below.refl _ _).alloc (Nat.le_refl _) _).alloc (by simp) _
 have hsX:X.heap.size=W.heap.size+2:=by rw [← hX];simp
 have b0:X.cell? ⟨W.heap.size,0,none⟩=some (.pointer (some ⟨L.ob j,0,none⟩)):=by simp [World.cell?,iI hX]
 have b1:X.cell? ⟨W.heap.size+1,0,none⟩=some (.string tx):=by simp [World.cell?,dY hX]
 have hbase:base≤W.heap.size:=Nat.le_trans h.base.1 (Nat.le_of_lt h.lt)
 have hk:=h.kept hBX
 obtain ⟨⟨c0,c1,c2⟩,_⟩:=hk.iB ho
 have lO:=hk.olt (List.getElem?_eq_some_iff.1 ho).1
 have l0:W.heap.size<X.heap.size:=by omega
 have l1:W.heap.size+1<X.heap.size:=by omega
 have htx:=fun Y (hY:Below X.heap.size X Y)=>nR hk hf hfp Y hY
 have hsd:=fun Y (n:Int) (h0:0≤n) (h1:n≤1000)=>xG (s.textOf f) n h0 h1 (by omega) Y
 have hkp:=fun Y (hY:Below W.heap.size W Y) (t:ByteArray) (ht:t.size≤maxLen)=>tO (h.kept hY) (hg.kept (hY.mono hbase)) o.file f hf hfp t ht
 have HX:Aside ((W.alloc (.cells #[.pointer (some ⟨L.ob j,0,none⟩)] 78)).alloc (.cells #[.string tx] 9)=X):=hX
 have HA:Aside (aj base W S s L∧Gl base W∧Below W.heap.size W X∧s.opens[j]?=some o):=⟨h,hg,hBX,ho⟩
 obtain ⟨T,hT⟩:∃ T,T=s.textOf f:=⟨_,rfl⟩
 have HD:Aside (s.wrDo j o f tx=(s.eB o.file f (dX T tx (s.wrAt o f))).setO j { o with pos:=s.wrAt o f+tx.size }):=by rw [hT];exact rfl
 have HAt:Aside (s.wrAt o f=if (bits BinOp.and IntKind.i64 o.use 4 != 0)=true then (T.size:Int) else o.pos):=by rw [hT];exact rfl
 rw [← hT] at htx hsd hft
 have HER:Aside ((if ¬ tx.data.toList=[]∧100<s.wrAt o f+tx.size then 4 else s.cZ f (dX (s.textOf f) tx (s.wrAt o f)))=(if ¬ tx.data.toList=[]∧100<s.wrAt o f+tx.size then 4 else s.cZ f (dX T tx (s.wrAt o f)))):=by rw [hT];exact rfl
 generalize (if ¬ tx.data.toList=[]∧100<s.wrAt o f+tx.size then 4 else s.cZ f (dX (s.textOf f) tx (s.wrAt o f)))=er at HER ⊢
 have hsf:=fun w a m f b c=>BI Tryz.prog w a m f b c
 have c1':=c1
 rw [← hX] at c1'
 clear hX h hg hf hBX hT hk ho
 go_enter Tryz.func144,Tryz.ntmps144
 go_wp2
 all_goals
  rw [HX.out]
  go_region_held3 (fun w'=>w'.cell? ⟨W.heap.size,0,none⟩=some (.pointer (some ⟨L.ob j,0,none⟩))∧w'.cell? ⟨L.ob j,0,none⟩=some (.pointer (some ⟨L.fb o.file,0,none⟩))∧w'.cell? ⟨L.ob j,2,none⟩=some (.int .i64 o.pos)) (go_keep) (first | (go_at_call 181;refine (htx _ (Below.refl _ _).drew).mono ?_;clear htx;rintro r w3 ⟨rfl,hB3⟩;have hB3:Below X.heap.size X w3:=((Below.refl _ _).drew).trans hB3;have z0:=(hB3.cell (p:=⟨W.heap.size,0,none⟩) l0).trans b0;have z1:=(hB3.cell (p:=⟨L.ob j,0,none⟩) lO).trans c0;have z2:=(hB3.cell (p:=⟨L.ob j,2,none⟩) lO).trans c2))
  have b1:=(hB3.cell (p:=⟨W.heap.size+1,0,none⟩) l1).trans b1
  have c1:=(hB3.cell (p:=⟨L.ob j,1,none⟩) lO).trans c1
  have c0:=z1
  have c2:=z2
  have b0:=z0
  have hW3:Below W.heap.size W w3:=Below.onto HA.out.2.2.1 hB3
  have h3s:W.heap.size+2≤w3.heap.size:=by have:=hB3.size;omega
  have lO3:L.ob j<w3.heap.size:=Nat.lt_of_lt_of_le lO hB3.size
  clear z0 z1 z2 hB3 lO l0 l1
  obtain ⟨at0,hat⟩:∃ at0,at0=s.wrAt o f:=⟨_,rfl⟩
  have hat0:0≤at0∧at0≤1000:=by
   rw [hat,HAt.out];split <;> omega
  rw [← hat] at HD HAt HER
  have HAT:Aside (at0=s.wrAt o f):=hat
  clear hat
  cases ha:(bits BinOp.and IntKind.i64 o.use 4 != 0) with
  | true =>
   have hA:at0=(T.size:Int):=by rw [HAt.out,ha];simp
   subst hA
   have hXE:Below W.heap.size W (w3.alloc (.cells #[.int .i64 ((T.size:Int)+tx.size)] 3)):=Below.onto hW3 ((Grown.refl w3).alloc _).below
   have d0:(w3.alloc (.cells #[.int .i64 ((T.size:Int)+tx.size)] 3)).cell? ⟨w3.heap.size,0,none⟩=some (.int .i64 ((T.size:Int)+tx.size)):=by simp
   have d1:=Lib.cell?_alloc_some (.cells #[.int .i64 ((T.size:Int)+tx.size)] 3) b0
   have d2:=Lib.cell?_alloc_some (.cells #[.int .i64 ((T.size:Int)+tx.size)] 3) b1
   have d3:=Lib.cell?_alloc_some (.cells #[.int .i64 ((T.size:Int)+tx.size)] 3) c0
   by_cases he:tx.data.toList=[]
   ·have hte:tx=⟨#[]⟩:=dz he
    have hbe:tx.toList.isEmpty=true:=by rw [hte,Lib.toList_data];rfl
    have HER2:Aside (er=s.cZ f (dX T tx (T.size:Int))):=by show er=_;rw [HER.out,if_neg (by simp [he])]
    have hwt:dX T tx (T.size:Int)=T:=by rw [dX,if_pos he]
    have HT2:Aside (T.size≤maxLen):=by show T.size≤maxLen;unfold maxLen;omega
    rw [hwt] at HER2
    clear hte he hsd
    have hkp2:=fun Y hY=>hkp Y hY T HT2.out
    clear hkp
    generalize s.cZ f T=ke at hkp2 HER2
    by_cases hz:ke=0
    ·subst hz
     go_wp2_with (go_at_call 199;refine (hkp2 _ hXE).mono ?_;clear hkp2;rintro r w5 ⟨g,cap,rfl,hB5,H5'⟩;have H5:=(show Aside _ from H5');clear H5')
     have hKf:Below w5.heap.size w5 (w5.alloc (.cells #[.func (.func g) #[] cap] 1)):=((Grown.refl w5).alloc _).below
     have lw:=hXE.size
     go_ret2
     rw [HER2.out,HD.out,hwt]
     exact oH HA.out.1 HA.out.2.1 (dD.keep _ _ _ _) HA.out.2.2.2 (kV _ _ _ _) hXE hB5 hKf (by omega) (Nat.le_refl _) (by omega) (by simp) ((hKf.cell (p:=⟨w3.heap.size,0,none⟩) (Nat.lt_of_lt_of_le (block_lt_of_cell d0) hB5.size)).trans ((hB5.cell (p:=⟨w3.heap.size,0,none⟩) (block_lt_of_cell d0)).trans d0)) ((hKf.cell (p:=⟨W.heap.size,0,none⟩) (Nat.lt_of_lt_of_le (block_lt_of_cell d1) hB5.size)).trans ((hB5.cell (p:=⟨W.heap.size,0,none⟩) (block_lt_of_cell d1)).trans d1)) ((hKf.cell (p:=⟨W.heap.size+1,0,none⟩) (Nat.lt_of_lt_of_le (block_lt_of_cell d2) hB5.size)).trans ((hB5.cell (p:=⟨W.heap.size+1,0,none⟩) (block_lt_of_cell d2)).trans d2)) (H5.out (by trivial))
    ·have hne:(ke != 0)=true:=by simpa using hz
     go_wp2_with (go_at_call 199;refine (hkp2 _ hXE).mono ?_;clear hkp2;rintro r w5 ⟨g,cap,rfl,hB5,H5'⟩;have H5:=(show Aside _ from H5');clear H5')
     go_ret2
     rw [HER2.out]
     exact yE.no _ hz (Below.onto (Below.onto hXE hB5) ((Grown.refl w5).alloc _).below)
   ·have hbe:tx.toList.isEmpty=false:=by rw [Lib.toList_data];simpa using he
    by_cases hm:100<(T.size:Int)+tx.size
    ·have HER2:Aside (er=4):=by show er=_;rw [HER.out,if_pos ⟨he,hm⟩]
     clear hsd hkp
     go_wp2
     go_ret2
     rw [HER2.out]
     exact yE.no _ (by decide) hXE
    ·have HER2:Aside (er=s.cZ f (dX T tx ((T.size:Int)))):=by show er=_;rw [HER.out,if_neg (by simp [hm])]
     have hsd1:=fun Y=>hsd Y ((T.size:Int)) (by omega) (by omega)
     clear hsd
     have hwt:dX T tx ((T.size:Int))=dA T ((T.size:Int))++tx++T.extract (min ((T.size:Int)+tx.size) T.size).toNat T.size:=by rw [dX,if_neg he]
     have HT2:Aside ((dA T ((T.size:Int))++tx++T.extract (min ((T.size:Int)+tx.size) T.size).toNat T.size).size≤maxLen):=by
      have h1:=iO T ((T.size:Int)) (by omega)
      show (dA T ((T.size:Int))++tx++T.extract (min ((T.size:Int)+tx.size) T.size).toNat T.size).size≤maxLen
      rw [ByteArray.size_append,ByteArray.size_append,ByteArray.size_extract];unfold maxLen;omega
     rw [hwt] at HER2
     have l0:W.heap.size<(w3.alloc (.cells #[.int .i64 ((T.size:Int)+tx.size)] 3)).heap.size:=block_lt_of_cell d1
     have l1:W.heap.size+1<(w3.alloc (.cells #[.int .i64 ((T.size:Int)+tx.size)] 3)).heap.size:=block_lt_of_cell d2
     have l2:w3.heap.size<(w3.alloc (.cells #[.int .i64 ((T.size:Int)+tx.size)] 3)).heap.size:=block_lt_of_cell d0
     have l3:L.ob j<(w3.alloc (.cells #[.int .i64 ((T.size:Int)+tx.size)] 3)).heap.size:=block_lt_of_cell d3
     obtain ⟨Z1,hZ1⟩:∃ Z1,dA T ((T.size:Int))=Z1:=⟨_,rfl⟩
     obtain ⟨Z2,hZ2⟩:∃ Z2,T.extract (min ((T.size:Int)+tx.size) T.size).toNat T.size=Z2:=⟨_,rfl⟩
     have hz1:Z1.size≤1000:=by have:=iO T ((T.size:Int)) (by omega);rw [hZ1] at this;omega
     have hz2:Z2.size≤1000:=by rw [← hZ2,ByteArray.size_extract];omega
     have hz3:(Z1++tx).size≤2000000:=by rw [ByteArray.size_append];omega
     rw [hZ1,hZ2] at hwt HT2 HER2
     rw [hZ1] at hsd1
     have q1:(9223372036854775807<Z1.size+tx.size)=False:=eq_false (by omega)
     have q2:(9223372036854775807<(Z1++tx).size+Z2.size)=False:=eq_false (by omega)
     have q3:(9223372036854775807<Z1.size+tx.size+Z2.size)=False:=eq_false (by omega)
     have q4:(0:Int)≤min ((T.size:Int)+tx.size) T.size:=by omega
     have q5:min ((T.size:Int)+tx.size) (T.size:Int)≤T.size:=by omega
     go_wp2
     go_region_held3 (fun w'=>w'.cell? ⟨W.heap.size+1,0,none⟩=some (.string tx)∧w'.cell? ⟨w3.heap.size,0,none⟩=some (.int .i64 ((T.size:Int)+tx.size))) (go_keep) (first | (go_at_call 198;refine (hsd1 _).mono ?_;clear hsd1;rintro r w4 ⟨rfl,hB4⟩;have hB4:Below (w3.alloc (.cells #[.int .i64 ((T.size:Int)+tx.size)] 3)).heap.size (w3.alloc (.cells #[.int .i64 ((T.size:Int)+tx.size)] 3)) w4:=((Below.refl _ _).drew).trans hB4;have z0:=(hB4.cell (p:=⟨W.heap.size+1,0,none⟩) l1).trans d2;have z1:=(hB4.cell (p:=⟨w3.heap.size,0,none⟩) l2).trans d0))
     all_goals
      have z2:=(hB4.cell (p:=⟨W.heap.size,0,none⟩) l0).trans d1
      have z3:=(hB4.cell (p:=⟨L.ob j,0,none⟩) l3).trans d3
      have hW4:=Below.onto hXE hB4
      clear d0 d1 d2 d3 b0 b1 c0 c1 c2 l0 l1 l2 l3
      generalize Z1++tx++Z2=T2 at hwt HT2 HER2 ⊢
      have hkp2:=fun Y hY=>hkp Y hY T2 HT2.out
      clear hkp
      generalize s.cZ f T2=ke at hkp2 HER2
      by_cases hz:ke=0
      ·subst hz
       go_wp2_with (go_at_call 199;refine (hkp2 _ hW4).mono ?_;clear hkp2;rintro r w5 ⟨g,cap,rfl,hB5,H5'⟩;have H5:=(show Aside _ from H5');clear H5')
       have hKf:Below w5.heap.size w5 (w5.alloc (.cells #[.func (.func g) #[] cap] 1)):=((Grown.refl w5).alloc _).below
       have lw:=hW4.size
       go_ret2
       rw [HER2.out,HD.out,hwt]
       exact oH HA.out.1 HA.out.2.1 (dD.keep _ _ _ _) HA.out.2.2.2 (kV _ _ _ _) hW4 hB5 hKf (by omega) (Nat.le_refl _) (by omega) (by simp) ((hKf.cell (p:=⟨w3.heap.size,0,none⟩) (Nat.lt_of_lt_of_le (block_lt_of_cell z1) hB5.size)).trans ((hB5.cell (p:=⟨w3.heap.size,0,none⟩) (block_lt_of_cell z1)).trans z1)) ((hKf.cell (p:=⟨W.heap.size,0,none⟩) (Nat.lt_of_lt_of_le (block_lt_of_cell z2) hB5.size)).trans ((hB5.cell (p:=⟨W.heap.size,0,none⟩) (block_lt_of_cell z2)).trans z2)) ((hKf.cell (p:=⟨W.heap.size+1,0,none⟩) (Nat.lt_of_lt_of_le (block_lt_of_cell z0) hB5.size)).trans ((hB5.cell (p:=⟨W.heap.size+1,0,none⟩) (block_lt_of_cell z0)).trans z0)) (H5.out (by trivial))
      ·have hne:(ke != 0)=true:=by simpa using hz
       go_wp2_with (go_at_call 199;refine (hkp2 _ hW4).mono ?_;clear hkp2;rintro r w5 ⟨g,cap,rfl,hB5,H5'⟩;have H5:=(show Aside _ from H5');clear H5')
       go_ret2
       rw [HER2.out]
       exact yE.no _ hz (Below.onto (Below.onto hW4 hB5) ((Grown.refl w5).alloc _).below)
  | false =>
   have hA:at0=o.pos:=by rw [HAt.out,ha];simp
   subst hA
   have hXE:Below W.heap.size W (w3.alloc (.cells #[.int .i64 (o.pos+tx.size)] 3)):=Below.onto hW3 ((Grown.refl w3).alloc _).below
   have d0:(w3.alloc (.cells #[.int .i64 (o.pos+tx.size)] 3)).cell? ⟨w3.heap.size,0,none⟩=some (.int .i64 (o.pos+tx.size)):=by simp
   have d1:=Lib.cell?_alloc_some (.cells #[.int .i64 (o.pos+tx.size)] 3) b0
   have d2:=Lib.cell?_alloc_some (.cells #[.int .i64 (o.pos+tx.size)] 3) b1
   have d3:=Lib.cell?_alloc_some (.cells #[.int .i64 (o.pos+tx.size)] 3) c0
   by_cases he:tx.data.toList=[]
   ·have hte:tx=⟨#[]⟩:=dz he
    have hbe:tx.toList.isEmpty=true:=by rw [hte,Lib.toList_data];rfl
    have HER2:Aside (er=s.cZ f (dX T tx o.pos)):=by show er=_;rw [HER.out,if_neg (by simp [he])]
    have hwt:dX T tx o.pos=T:=by rw [dX,if_pos he]
    have HT2:Aside (T.size≤maxLen):=by show T.size≤maxLen;unfold maxLen;omega
    rw [hwt] at HER2
    clear hte he hsd
    have hkp2:=fun Y hY=>hkp Y hY T HT2.out
    clear hkp
    generalize s.cZ f T=ke at hkp2 HER2
    by_cases hz:ke=0
    ·subst hz
     go_wp2_with (go_at_call 199;refine (hkp2 _ hXE).mono ?_;clear hkp2;rintro r w5 ⟨g,cap,rfl,hB5,H5'⟩;have H5:=(show Aside _ from H5');clear H5')
     have hKf:Below w5.heap.size w5 (w5.alloc (.cells #[.func (.func g) #[] cap] 1)):=((Grown.refl w5).alloc _).below
     have lw:=hXE.size
     go_ret2
     rw [HER2.out,HD.out,hwt]
     exact oH HA.out.1 HA.out.2.1 (dD.keep _ _ _ _) HA.out.2.2.2 (kV _ _ _ _) hXE hB5 hKf (by omega) (Nat.le_refl _) (by omega) (by simp) ((hKf.cell (p:=⟨w3.heap.size,0,none⟩) (Nat.lt_of_lt_of_le (block_lt_of_cell d0) hB5.size)).trans ((hB5.cell (p:=⟨w3.heap.size,0,none⟩) (block_lt_of_cell d0)).trans d0)) ((hKf.cell (p:=⟨W.heap.size,0,none⟩) (Nat.lt_of_lt_of_le (block_lt_of_cell d1) hB5.size)).trans ((hB5.cell (p:=⟨W.heap.size,0,none⟩) (block_lt_of_cell d1)).trans d1)) ((hKf.cell (p:=⟨W.heap.size+1,0,none⟩) (Nat.lt_of_lt_of_le (block_lt_of_cell d2) hB5.size)).trans ((hB5.cell (p:=⟨W.heap.size+1,0,none⟩) (block_lt_of_cell d2)).trans d2)) (H5.out (by trivial))
    ·have hne:(ke != 0)=true:=by simpa using hz
     go_wp2_with (go_at_call 199;refine (hkp2 _ hXE).mono ?_;clear hkp2;rintro r w5 ⟨g,cap,rfl,hB5,H5'⟩;have H5:=(show Aside _ from H5');clear H5')
     go_ret2
     rw [HER2.out]
     exact yE.no _ hz (Below.onto (Below.onto hXE hB5) ((Grown.refl w5).alloc _).below)
   ·have hbe:tx.toList.isEmpty=false:=by rw [Lib.toList_data];simpa using he
    by_cases hm:100<o.pos+tx.size
    ·have HER2:Aside (er=4):=by show er=_;rw [HER.out,if_pos ⟨he,hm⟩]
     clear hsd hkp
     go_wp2
     go_ret2
     rw [HER2.out]
     exact yE.no _ (by decide) hXE
    ·have HER2:Aside (er=s.cZ f (dX T tx (o.pos))):=by show er=_;rw [HER.out,if_neg (by simp [hm])]
     have hsd1:=fun Y=>hsd Y (o.pos) (by omega) (by omega)
     clear hsd
     have hwt:dX T tx (o.pos)=dA T (o.pos)++tx++T.extract (min (o.pos+tx.size) T.size).toNat T.size:=by rw [dX,if_neg he]
     have HT2:Aside ((dA T (o.pos)++tx++T.extract (min (o.pos+tx.size) T.size).toNat T.size).size≤maxLen):=by
      have h1:=iO T (o.pos) (by omega)
      show (dA T (o.pos)++tx++T.extract (min (o.pos+tx.size) T.size).toNat T.size).size≤maxLen
      rw [ByteArray.size_append,ByteArray.size_append,ByteArray.size_extract];unfold maxLen;omega
     rw [hwt] at HER2
     have l0:W.heap.size<(w3.alloc (.cells #[.int .i64 (o.pos+tx.size)] 3)).heap.size:=block_lt_of_cell d1
     have l1:W.heap.size+1<(w3.alloc (.cells #[.int .i64 (o.pos+tx.size)] 3)).heap.size:=block_lt_of_cell d2
     have l2:w3.heap.size<(w3.alloc (.cells #[.int .i64 (o.pos+tx.size)] 3)).heap.size:=block_lt_of_cell d0
     have l3:L.ob j<(w3.alloc (.cells #[.int .i64 (o.pos+tx.size)] 3)).heap.size:=block_lt_of_cell d3
     obtain ⟨Z1,hZ1⟩:∃ Z1,dA T (o.pos)=Z1:=⟨_,rfl⟩
     obtain ⟨Z2,hZ2⟩:∃ Z2,T.extract (min (o.pos+tx.size) T.size).toNat T.size=Z2:=⟨_,rfl⟩
     have hz1:Z1.size≤1000:=by have:=iO T (o.pos) (by omega);rw [hZ1] at this;omega
     have hz2:Z2.size≤1000:=by rw [← hZ2,ByteArray.size_extract];omega
     have hz3:(Z1++tx).size≤2000000:=by rw [ByteArray.size_append];omega
     rw [hZ1,hZ2] at hwt HT2 HER2
     rw [hZ1] at hsd1
     have q1:(9223372036854775807<Z1.size+tx.size)=False:=eq_false (by omega)
     have q2:(9223372036854775807<(Z1++tx).size+Z2.size)=False:=eq_false (by omega)
     have q3:(9223372036854775807<Z1.size+tx.size+Z2.size)=False:=eq_false (by omega)
     have q4:(0:Int)≤min (o.pos+tx.size) T.size:=by omega
     have q5:min (o.pos+tx.size) (T.size:Int)≤T.size:=by omega
     go_wp2
     go_region_held3 (fun w'=>w'.cell? ⟨W.heap.size+1,0,none⟩=some (.string tx)∧w'.cell? ⟨w3.heap.size,0,none⟩=some (.int .i64 (o.pos+tx.size))) (go_keep) (first | (go_at_call 198;refine (hsd1 _).mono ?_;clear hsd1;rintro r w4 ⟨rfl,hB4⟩;have hB4:Below (w3.alloc (.cells #[.int .i64 (o.pos+tx.size)] 3)).heap.size (w3.alloc (.cells #[.int .i64 (o.pos+tx.size)] 3)) w4:=((Below.refl _ _).drew).trans hB4;have z0:=(hB4.cell (p:=⟨W.heap.size+1,0,none⟩) l1).trans d2;have z1:=(hB4.cell (p:=⟨w3.heap.size,0,none⟩) l2).trans d0))
     all_goals
      have z2:=(hB4.cell (p:=⟨W.heap.size,0,none⟩) l0).trans d1
      have z3:=(hB4.cell (p:=⟨L.ob j,0,none⟩) l3).trans d3
      have hW4:=Below.onto hXE hB4
      clear d0 d1 d2 d3 b0 b1 c0 c1 c2 l0 l1 l2 l3
      generalize Z1++tx++Z2=T2 at hwt HT2 HER2 ⊢
      have hkp2:=fun Y hY=>hkp Y hY T2 HT2.out
      clear hkp
      generalize s.cZ f T2=ke at hkp2 HER2
      by_cases hz:ke=0
      ·subst hz
       go_wp2_with (go_at_call 199;refine (hkp2 _ hW4).mono ?_;clear hkp2;rintro r w5 ⟨g,cap,rfl,hB5,H5'⟩;have H5:=(show Aside _ from H5');clear H5')
       have hKf:Below w5.heap.size w5 (w5.alloc (.cells #[.func (.func g) #[] cap] 1)):=((Grown.refl w5).alloc _).below
       have lw:=hW4.size
       go_ret2
       rw [HER2.out,HD.out,hwt]
       exact oH HA.out.1 HA.out.2.1 (dD.keep _ _ _ _) HA.out.2.2.2 (kV _ _ _ _) hW4 hB5 hKf (by omega) (Nat.le_refl _) (by omega) (by simp) ((hKf.cell (p:=⟨w3.heap.size,0,none⟩) (Nat.lt_of_lt_of_le (block_lt_of_cell z1) hB5.size)).trans ((hB5.cell (p:=⟨w3.heap.size,0,none⟩) (block_lt_of_cell z1)).trans z1)) ((hKf.cell (p:=⟨W.heap.size,0,none⟩) (Nat.lt_of_lt_of_le (block_lt_of_cell z2) hB5.size)).trans ((hB5.cell (p:=⟨W.heap.size,0,none⟩) (block_lt_of_cell z2)).trans z2)) ((hKf.cell (p:=⟨W.heap.size+1,0,none⟩) (Nat.lt_of_lt_of_le (block_lt_of_cell z0) hB5.size)).trans ((hB5.cell (p:=⟨W.heap.size+1,0,none⟩) (block_lt_of_cell z0)).trans z0)) (H5.out (by trivial))
      ·have hne:(ke != 0)=true:=by simpa using hz
       go_wp2_with (go_at_call 199;refine (hkp2 _ hW4).mono ?_;clear hkp2;rintro r w5 ⟨g,cap,rfl,hB5,H5'⟩;have H5:=(show Aside _ from H5');clear H5')
       go_ret2
       rw [HER2.out]
       exact yE.no _ hz (Below.onto (Below.onto hW4 hB5) ((Grown.refl w5).alloc _).below)
theorem zN {base:Nat} {W:World} {S:Nat} {s:Sy} {L:Lay6} (h:aj base W S s L) (hg:Gl base W) (j:Nat) (o:Opn) (f:Fl) (tx:ByteArray) (htx62:tx.size≤140737488355328) (ho:s.opens[j]?=some o) (hf:s.files[o.file]?=some f) (hp0:0≤o.pos) (hp1:o.pos≤1000) (hfp:f.path.size≤80) (hft:(s.textOf f).size≤100) :
  Calls Tryz.prog 144 #[.pointer (some ⟨S,0,none⟩),.pointer (some ⟨L.ob j,0,none⟩),.string tx] W (yE base S s L (s.wu o f tx) (s.wrDo j o f tx) (ans tx.size ⟨#[]⟩) W):=by
 unfold Sy.wu
 cases hu:(bits BinOp.and IntKind.i64 o.use 2 == 0) with
 | true =>
  rw [if_pos rfl]
  have HB:Aside (Below W.heap.size W ((W.alloc (.cells #[.pointer (some ⟨L.ob j,0,none⟩)] 78)).alloc (.cells #[.string tx] 9))):=((Below.refl _ _).alloc (Nat.le_refl _) _).alloc (by simp) _
  obtain ⟨⟨c0,c1,c2⟩,f2⟩:=(h.kept HB.out).iB ho
  clear h hg ho hf
  go_enter Tryz.func144,Tryz.ntmps144
  go_wp2
  go_ret2
  exact yE.no _ (by decide) HB.out
 | false =>
  rw [if_neg (by simp)]
  exact Hw h hg j o f tx htx62 ho hf hp0 hp1 hfp hft hu
end Go.Proofs.YthfeoiffoeagkaaGreatDoor
