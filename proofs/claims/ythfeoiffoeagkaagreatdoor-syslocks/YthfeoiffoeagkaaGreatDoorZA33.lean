/-
  (*sys.system).stepOfNumber, whole, and stepOf.
-/
import Derived.Test.YthfeoiffoeagkaaGreatDoorZA32
import Derived.Deep.RegionLaw
namespace Go.Proofs.YthfeoiffoeagkaaGreatDoor
open Go.RowKit PM Go.Sort
set_option linter.unusedVariables false
set_option maxRecDepth 100000 in
theorem CY {base:Nat} {W:World} {S:Nat} {s s':Sy} {an:An} {L:Lay6} (h:aj base W S s L) (o:Nat) (ho4:o<4) (ck cf cn cm:Int) (cp ct cx:ByteArray) (ca:Bool) (hf:cf<0) :
  Calls Tryz.prog 91 #[.pointer (some ⟨S,0,none⟩),.agg #[.int .i64 ck,.int .i64 o,.int .i64 cf,.int .i64 cn,.int .i64 cm,.string cp,.string ct,.string cx,.bool ca]] W (yE base S s L 6 s' an W):=by
 obtain ⟨X,hX⟩:∃ X,W.alloc (.cells #[.int .i64 ck,.int .i64 o,.int .i64 cf,.int .i64 cn,.int .i64 cm,.string cp,.string ct,.string cx,.bool ca] 50)=X:=⟨_,rfl⟩
 have hBX:Below W.heap.size W X:=by rw [← hX];exact ((Grown.refl W).alloc _).below
 have hbk:X.heap[W.heap.size]?=some (.cells #[.int .i64 ck,.int .i64 o,.int .i64 cf,.int .i64 cn,.int .i64 cm,.string cp,.string ct,.string cx,.bool ca] 50):=by rw [← hX];exact heap_alloc_last W _
 have hbase:base≤W.heap.size:=Nat.le_trans h.base.1 (Nat.le_of_lt h.lt)
 have hk:=h.kept hBX
 have HX:Aside (W.alloc (.cells #[.int .i64 ck,.int .i64 o,.int .i64 cf,.int .i64 cn,.int .i64 cm,.string cp,.string ct,.string cx,.bool ca] 50)=X):=hX
 have HB:Aside (Below W.heap.size W X):=hBX
 have k0:X.cell? ⟨W.heap.size,0,none⟩=some (.int .i64 ck):=by simp [World.cell?,hbk]
 have k1:X.cell? ⟨W.heap.size,1,none⟩=some (.int .i64 o):=by simp [World.cell?,hbk]
 have k2:X.cell? ⟨W.heap.size,2,none⟩=some (.int .i64 cf):=by simp [World.cell?,hbk]
 have k3:X.cell? ⟨W.heap.size,3,none⟩=some (.int .i64 cn):=by simp [World.cell?,hbk]
 have k4:X.cell? ⟨W.heap.size,4,none⟩=some (.int .i64 cm):=by simp [World.cell?,hbk]
 have k5:X.cell? ⟨W.heap.size,5,none⟩=some (.string cp):=by simp [World.cell?,hbk]
 have k6:X.cell? ⟨W.heap.size,6,none⟩=some (.string ct):=by simp [World.cell?,hbk]
 have k7:X.cell? ⟨W.heap.size,7,none⟩=some (.string cx):=by simp [World.cell?,hbk]
 have k8:X.cell? ⟨W.heap.size,8,none⟩=some (.bool ca):=by simp [World.cell?,hbk]
 have ho4z:(o:Int)<4:=by omega
 have d1:decide (cf<0)=true:=by simpa using hf
 clear h hk hbk hX hBX
 go_enter Tryz.func91,Tryz.ntmps91
 go_wp2
 rw [HX.out]
 go_quiet (fail)
 go_wp2
 go_quiet (fail)
 go_wp2
 go_ret2
 exact yE.no _ (by decide) (Below.onto HB.out (below_drewN (below_drewN (Below.refl _ _) _) _))
set_option maxRecDepth 100000 in
theorem Ah {base:Nat} {W:World} {S:Nat} {s s':Sy} {an:An} {L:Lay6} (h:aj base W S s L) (o:Nat) (ho4:o<4) (ck cf cn cm:Int) (cp ct cx:ByteArray) (ca:Bool) (hf0:¬ cf<0) (hf:8≤cf) :
  Calls Tryz.prog 91 #[.pointer (some ⟨S,0,none⟩),.agg #[.int .i64 ck,.int .i64 o,.int .i64 cf,.int .i64 cn,.int .i64 cm,.string cp,.string ct,.string cx,.bool ca]] W (yE base S s L 6 s' an W):=by
 obtain ⟨X,hX⟩:∃ X,W.alloc (.cells #[.int .i64 ck,.int .i64 o,.int .i64 cf,.int .i64 cn,.int .i64 cm,.string cp,.string ct,.string cx,.bool ca] 50)=X:=⟨_,rfl⟩
 have hBX:Below W.heap.size W X:=by rw [← hX];exact ((Grown.refl W).alloc _).below
 have hbk:X.heap[W.heap.size]?=some (.cells #[.int .i64 ck,.int .i64 o,.int .i64 cf,.int .i64 cn,.int .i64 cm,.string cp,.string ct,.string cx,.bool ca] 50):=by rw [← hX];exact heap_alloc_last W _
 have hbase:base≤W.heap.size:=Nat.le_trans h.base.1 (Nat.le_of_lt h.lt)
 have hk:=h.kept hBX
 have HX:Aside (W.alloc (.cells #[.int .i64 ck,.int .i64 o,.int .i64 cf,.int .i64 cn,.int .i64 cm,.string cp,.string ct,.string cx,.bool ca] 50)=X):=hX
 have HB:Aside (Below W.heap.size W X):=hBX
 have k0:X.cell? ⟨W.heap.size,0,none⟩=some (.int .i64 ck):=by simp [World.cell?,hbk]
 have k1:X.cell? ⟨W.heap.size,1,none⟩=some (.int .i64 o):=by simp [World.cell?,hbk]
 have k2:X.cell? ⟨W.heap.size,2,none⟩=some (.int .i64 cf):=by simp [World.cell?,hbk]
 have k3:X.cell? ⟨W.heap.size,3,none⟩=some (.int .i64 cn):=by simp [World.cell?,hbk]
 have k4:X.cell? ⟨W.heap.size,4,none⟩=some (.int .i64 cm):=by simp [World.cell?,hbk]
 have k5:X.cell? ⟨W.heap.size,5,none⟩=some (.string cp):=by simp [World.cell?,hbk]
 have k6:X.cell? ⟨W.heap.size,6,none⟩=some (.string ct):=by simp [World.cell?,hbk]
 have k7:X.cell? ⟨W.heap.size,7,none⟩=some (.string cx):=by simp [World.cell?,hbk]
 have k8:X.cell? ⟨W.heap.size,8,none⟩=some (.bool ca):=by simp [World.cell?,hbk]
 have ho4z:(o:Int)<4:=by omega
 have d1:decide (cf<0)=false:=by simpa using hf0
 have d2:decide (8≤cf)=true:=by simpa using hf
 clear h hk hbk hX hBX
 go_enter Tryz.func91,Tryz.ntmps91
 go_wp2
 rw [HX.out]
 go_quiet (fail)
 go_wp2
 go_quiet (fail)
 go_wp2
 go_ret2
 exact yE.no _ (by decide) (Below.onto HB.out (below_drewN (below_drewN (Below.refl _ _) _) _))
set_option maxRecDepth 100000 in
theorem CZ {base:Nat} {W:World} {S:Nat} {s s':Sy} {an:An} {L:Lay6} (h:aj base W S s L) (o k:Nat) (ho4:o<4) (hk8:k<8) (ck cn cm:Int) (cp ct cx:ByteArray) (ca:Bool) (hfd:s.fds (o*8+k)=none) :
  Calls Tryz.prog 91 #[.pointer (some ⟨S,0,none⟩),.agg #[.int .i64 ck,.int .i64 o,.int .i64 k,.int .i64 cn,.int .i64 cm,.string cp,.string ct,.string cx,.bool ca]] W (yE base S s L 6 s' an W):=by
 obtain ⟨X,hX⟩:∃ X,W.alloc (.cells #[.int .i64 ck,.int .i64 o,.int .i64 k,.int .i64 cn,.int .i64 cm,.string cp,.string ct,.string cx,.bool ca] 50)=X:=⟨_,rfl⟩
 have hBX:Below W.heap.size W X:=by rw [← hX];exact ((Grown.refl W).alloc _).below
 have hbk:X.heap[W.heap.size]?=some (.cells #[.int .i64 ck,.int .i64 o,.int .i64 k,.int .i64 cn,.int .i64 cm,.string cp,.string ct,.string cx,.bool ca] 50):=by rw [← hX];exact heap_alloc_last W _
 have hbase:base≤W.heap.size:=Nat.le_trans h.base.1 (Nat.le_of_lt h.lt)
 have hk:=h.kept hBX
 have HX:Aside (W.alloc (.cells #[.int .i64 ck,.int .i64 o,.int .i64 k,.int .i64 cn,.int .i64 cm,.string cp,.string ct,.string cx,.bool ca] 50)=X):=hX
 have HB:Aside (Below W.heap.size W X):=hBX
 have k0:X.cell? ⟨W.heap.size,0,none⟩=some (.int .i64 ck):=by simp [World.cell?,hbk]
 have k1:X.cell? ⟨W.heap.size,1,none⟩=some (.int .i64 o):=by simp [World.cell?,hbk]
 have k2:X.cell? ⟨W.heap.size,2,none⟩=some (.int .i64 k):=by simp [World.cell?,hbk]
 have k3:X.cell? ⟨W.heap.size,3,none⟩=some (.int .i64 cn):=by simp [World.cell?,hbk]
 have k4:X.cell? ⟨W.heap.size,4,none⟩=some (.int .i64 cm):=by simp [World.cell?,hbk]
 have k5:X.cell? ⟨W.heap.size,5,none⟩=some (.string cp):=by simp [World.cell?,hbk]
 have k6:X.cell? ⟨W.heap.size,6,none⟩=some (.string ct):=by simp [World.cell?,hbk]
 have k7:X.cell? ⟨W.heap.size,7,none⟩=some (.string cx):=by simp [World.cell?,hbk]
 have k8:X.cell? ⟨W.heap.size,8,none⟩=some (.bool ca):=by simp [World.cell?,hbk]
 have c3:=hk.fd (k:=o*8+k) (by omega)
 have c3:X.cell? ⟨S,3+o*8+k,none⟩=some (.pointer none):=by rw [Nat.add_assoc,hfd] at *;exact c3
 have ho4z:(o:Int)<4:=by omega
 have hk8z:(k:Int)<8:=by omega
 have d1:decide ((k:Int)<0)=false:=by simp
 have d2:decide ((8:Int)≤(k:Int))=false:=by simpa using hk8z
 clear h hk hbk hX hBX hfd
 go_enter Tryz.func91,Tryz.ntmps91
 go_wp2
 rw [HX.out]
 go_quiet (fail)
 go_wp2
 go_quiet (fail)
 go_wp2
 go_ret2
 exact yE.no _ (by decide) (Below.onto HB.out (below_drewN (below_drewN (Below.refl _ _) _) _))
namespace PM
def iA:An:=ans 0 ⟨#[]⟩
noncomputable def Sy.numR (s:Sy) (ow:Nat) (ck cf cn cm:Int) (cx:ByteArray) (ca:Bool):Int × Sy × An :=
 if cf<0∨8≤cf then (6,s,iA) else match s.fds (ow*8+cf.toNat) with
  | none=>(6,s,iA)
  | some j=>match s.opens[j]? with
   | none=>(6,s,iA)
   | some op=>match s.files[op.file]? with
    | none=>(6,s,iA)
    | some f=>s.onR ow cf.toNat ck cn cm cx ca j op f
end PM
theorem CX {base:Nat} {W:World} {S:Nat} {s:Sy} {L:Lay6} (h:aj base W S s L) (hg:Gl base W) (hc:s.Calm) (o:Nat) (ho4:o<4) (ck cf cn cm:Int) (cp ct cx:ByteArray) (ca:Bool) (hx:cx.size≤140737488355328) :
  Calls Tryz.prog 91 #[.pointer (some ⟨S,0,none⟩),.agg #[.int .i64 ck,.int .i64 o,.int .i64 cf,.int .i64 cn,.int .i64 cm,.string cp,.string ct,.string cx,.bool ca]] W (fun r w'=>yE base S s L (s.numR o ck cf cn cm cx ca).1 (s.numR o ck cf cn cm cx ca).2.1 (s.numR o ck cf cn cm cx ca).2.2 W r w'):=by
 unfold Sy.numR
 by_cases h1:cf<0
 ·rw [if_pos (.inl h1)];exact CY h o ho4 ck cf cn cm cp ct cx ca h1
 by_cases h2:8≤cf
 ·rw [if_pos (.inr h2)];exact Ah h o ho4 ck cf cn cm cp ct cx ca h1 h2
 rw [if_neg (by omega)]
 obtain ⟨k,rfl⟩:∃ k:Nat,cf=k:=⟨cf.toNat,by omega⟩
 have hk8:k<8:=by omega
 rw [show ((k:Int)).toNat=k from rfl]
 cases hfd:s.fds (o*8+k) with
 | none=>exact CZ h o k ho4 hk8 ck cn cm cp ct cx ca hfd
 | some j =>
  have hj:=h.val1 _ _ hfd
  have hop:s.opens[j]?=some s.opens[j]:=List.getElem?_eq_getElem hj
  have hfl:=h.val2 _ (List.getElem_mem hj)
  have hff:s.files[s.opens[j].file]?=some s.files[s.opens[j].file]:=List.getElem?_eq_getElem hfl
  simp only [hop,hff]
  exact Ai h hg o k ho4 hk8 ck cn cm cp ct cx ca hx j _ _ ⟨hfd,hop,hff⟩ hc
namespace PM
noncomputable def Sy.eY (s:Sy) (c:Cl):Int × Sy × An :=
 if c.kind<1∨16<c.kind then (1,s,iA)
 else if c.owner<0∨4≤c.owner then (3,s,iA)
 else if c.kind=1 then (s.gV c.owner.toNat c.n c.path,s.jw c.owner.toNat c.n c.path,ans (s.aV c.owner.toNat) ⟨#[]⟩)
 else if c.kind=6 then (s.jq c.path 2 ⟨#[]⟩,s.aJ (aC s.up (s.gM c.path 2 ⟨#[]⟩)) s.lows,iA)
 else if c.kind=10 then (s.jq c.path 3 c.to,s.aJ (aC s.up (s.gM c.path 3 c.to)) s.lows,iA)
 else if c.kind=7∨c.kind=8 then (s.jm c.kind c.path,s.rmDo c.path,iA)
 else if c.kind=9 then (s.jP c.path c.to,s.lC c.path c.to,iA)
 else if c.kind=11 then (s.sN c.path,s,s.sM c.path)
 else if c.kind=12 then (s.sV c.path,s,s.sU c.path)
 else s.numR c.owner.toNat c.kind c.fd c.n c.m c.text c.alone
structure Sy.Fine (s:Sy):Prop where
 un:(ay s.all).1=0
 calm:s.Calm
 short:∀ i∈s.reach,∀ f,s.files[i]?=some f→f.path.size≤80
structure Cl.Small (c:Cl):Prop where
 path:c.path.size≤140737488355328
 dst:c.to.size≤140737488355328
 text:c.text.size≤140737488355328
end PM
theorem AB {base:Nat} {W:World} {S:Nat} {s s':Sy} {an:An} {L:Lay6} (h:aj base W S s L) (ck co cf cn cm:Int) (cp ct cx:ByteArray) (ca:Bool) (hk:ck<1∨16<ck) :
  Calls Tryz.prog 58 #[.pointer (some ⟨S,0,none⟩),.agg #[.int .i64 ck,.int .i64 co,.int .i64 cf,.int .i64 cn,.int .i64 cm,.string cp,.string ct,.string cx,.bool ca]] W (yE base S s L 1 s' an W):=by
 have HB:Aside (Below W.heap.size W (W.alloc (.cells #[.int .i64 ck,.int .i64 co,.int .i64 cf,.int .i64 cn,.int .i64 cm,.string cp,.string ct,.string cx,.bool ca] 50))):=((Grown.refl W).alloc _).below
 clear h
 rcases hk with hk | hk
 ·go_enter Tryz.func58,Tryz.ntmps58
  go_wp2
  go_ret2
  exact yE.no _ (by decide) HB.out
 ·have h2:¬ ck<1:=by omega
  go_enter Tryz.func58,Tryz.ntmps58
  go_wp2
  go_ret2
  exact yE.no _ (by decide) HB.out
theorem zK {base:Nat} {W:World} {S:Nat} {s s':Sy} {an:An} {L:Lay6} (h:aj base W S s L) (ck co cf cn cm:Int) (cp ct cx:ByteArray) (ca:Bool) (hk0:¬ ck<1) (hk1:¬ 16<ck) (hk:co<0∨4≤co) :
  Calls Tryz.prog 58 #[.pointer (some ⟨S,0,none⟩),.agg #[.int .i64 ck,.int .i64 co,.int .i64 cf,.int .i64 cn,.int .i64 cm,.string cp,.string ct,.string cx,.bool ca]] W (yE base S s L 3 s' an W):=by
 have HB:Aside (Below W.heap.size W (W.alloc (.cells #[.int .i64 ck,.int .i64 co,.int .i64 cf,.int .i64 cn,.int .i64 cm,.string cp,.string ct,.string cx,.bool ca] 50))):=((Grown.refl W).alloc _).below
 clear h
 rcases hk with hk | hk
 ·go_enter Tryz.func58,Tryz.ntmps58
  go_wp2
  go_ret2
  exact yE.no _ (by decide) HB.out
 ·have h2:¬ co<0:=by omega
  go_enter Tryz.func58,Tryz.ntmps58
  go_wp2
  go_ret2
  exact yE.no _ (by decide) HB.out
set_option maxRecDepth 100000 in
set_option maxHeartbeats 1000000 in
theorem Hg {base:Nat} {W:World} {S:Nat} {s:Sy} {L:Lay6} (h:aj base W S s L) (hg:Gl base W) (hf:s.Fine) (o:Nat) (ho4:o<4) (cf cn cm:Int) (cp ct cx:ByteArray) (ca:Bool) (hp:cp.size≤140737488355328) (ht:ct.size≤140737488355328) :
  Calls Tryz.prog 58 #[.pointer (some ⟨S,0,none⟩),.agg #[.int .i64 1,.int .i64 o,.int .i64 cf,.int .i64 cn,.int .i64 cm,.string cp,.string ct,.string cx,.bool ca]] W (yE base S s L (s.gV o cn cp) (s.jw o cn cp) (ans (s.aV o) ⟨#[]⟩) W):=by
 obtain ⟨X,hX⟩:∃ X,W.alloc (.cells #[.int .i64 1,.int .i64 o,.int .i64 cf,.int .i64 cn,.int .i64 cm,.string cp,.string ct,.string cx,.bool ca] 50)=X:=⟨_,rfl⟩
 have hBX:Below W.heap.size W X:=by rw [← hX];exact ((Grown.refl W).alloc _).below
 have hbk:X.heap[W.heap.size]?=some (.cells #[.int .i64 1,.int .i64 o,.int .i64 cf,.int .i64 cn,.int .i64 cm,.string cp,.string ct,.string cx,.bool ca] 50):=by rw [← hX];exact heap_alloc_last W _
 have hbase:base≤W.heap.size:=Nat.le_trans h.base.1 (Nat.le_of_lt h.lt)
 have hk:=h.kept hBX
 have HX:Aside (W.alloc (.cells #[.int .i64 1,.int .i64 o,.int .i64 cf,.int .i64 cn,.int .i64 cm,.string cp,.string ct,.string cx,.bool ca] 50)=X):=hX
 have HB:Aside (Below W.heap.size W X):=hBX
 have hgX:=hg.kept (hBX.mono hbase)
 have ho4z:(o:Int)<4:=by omega
 have hF:=AL hk hgX hf.un o (by omega) 1 cf cn cm cp ct cx ca (by unfold maxLen;omega)
 clear h hg hf hk hgX hbk hX hBX
 go_enter Tryz.func58,Tryz.ntmps58
 go_wp2_with (go_at_call 85;rw [HX.out];refine hF.mono ?_;clear hF;intro r w5 hS;obtain ⟨v,rfl,HS⟩:=hS.parts HB.out;clear hS)
 go_ret2
 exact HS.out
set_option maxRecDepth 100000 in
set_option maxHeartbeats 1000000 in
theorem Hl {base:Nat} {W:World} {S:Nat} {s:Sy} {L:Lay6} (h:aj base W S s L) (hg:Gl base W) (hf:s.Fine) (o:Nat) (ho4:o<4) (cf cn cm:Int) (cp ct cx:ByteArray) (ca:Bool) (hp:cp.size≤140737488355328) (ht:ct.size≤140737488355328) :
  Calls Tryz.prog 58 #[.pointer (some ⟨S,0,none⟩),.agg #[.int .i64 6,.int .i64 o,.int .i64 cf,.int .i64 cn,.int .i64 cm,.string cp,.string ct,.string cx,.bool ca]] W (yE base S s L (s.jq cp 2 ⟨#[]⟩) (s.aJ (aC s.up (s.gM cp 2 ⟨#[]⟩)) s.lows) iA W):=by
 obtain ⟨X,hX⟩:∃ X,W.alloc (.cells #[.int .i64 6,.int .i64 o,.int .i64 cf,.int .i64 cn,.int .i64 cm,.string cp,.string ct,.string cx,.bool ca] 50)=X:=⟨_,rfl⟩
 have hBX:Below W.heap.size W X:=by rw [← hX];exact ((Grown.refl W).alloc _).below
 have hbk:X.heap[W.heap.size]?=some (.cells #[.int .i64 6,.int .i64 o,.int .i64 cf,.int .i64 cn,.int .i64 cm,.string cp,.string ct,.string cx,.bool ca] 50):=by rw [← hX];exact heap_alloc_last W _
 have hbase:base≤W.heap.size:=Nat.le_trans h.base.1 (Nat.le_of_lt h.lt)
 have hk:=h.kept hBX
 have HX:Aside (W.alloc (.cells #[.int .i64 6,.int .i64 o,.int .i64 cf,.int .i64 cn,.int .i64 cm,.string cp,.string ct,.string cx,.bool ca] 50)=X):=hX
 have HB:Aside (Below W.heap.size W X):=hBX
 have hgX:=hg.kept (hBX.mono hbase)
 have ho4z:(o:Int)<4:=by omega
 have hF:=AX hk hgX cp 2 ⟨#[]⟩ (by unfold maxLen;omega) (by decide)
 clear h hg hf hk hgX hbk hX hBX
 go_enter Tryz.func58,Tryz.ntmps58
 go_wp2_with (go_at_call 86;rw [HX.out];refine hF.mono ?_;clear hF;intro r w5 hS;obtain ⟨v,rfl,HS⟩:=hS.parts HB.out;clear hS)
 go_ret2
 exact HS.out
set_option maxRecDepth 100000 in
set_option maxHeartbeats 1000000 in
theorem FI {base:Nat} {W:World} {S:Nat} {s:Sy} {L:Lay6} (h:aj base W S s L) (hg:Gl base W) (hf:s.Fine) (o:Nat) (ho4:o<4) (cf cn cm:Int) (cp ct cx:ByteArray) (ca:Bool) (hp:cp.size≤140737488355328) (ht:ct.size≤140737488355328) :
  Calls Tryz.prog 58 #[.pointer (some ⟨S,0,none⟩),.agg #[.int .i64 10,.int .i64 o,.int .i64 cf,.int .i64 cn,.int .i64 cm,.string cp,.string ct,.string cx,.bool ca]] W (yE base S s L (s.jq cp 3 ct) (s.aJ (aC s.up (s.gM cp 3 ct)) s.lows) iA W):=by
 obtain ⟨X,hX⟩:∃ X,W.alloc (.cells #[.int .i64 10,.int .i64 o,.int .i64 cf,.int .i64 cn,.int .i64 cm,.string cp,.string ct,.string cx,.bool ca] 50)=X:=⟨_,rfl⟩
 have hBX:Below W.heap.size W X:=by rw [← hX];exact ((Grown.refl W).alloc _).below
 have hbk:X.heap[W.heap.size]?=some (.cells #[.int .i64 10,.int .i64 o,.int .i64 cf,.int .i64 cn,.int .i64 cm,.string cp,.string ct,.string cx,.bool ca] 50):=by rw [← hX];exact heap_alloc_last W _
 have hbase:base≤W.heap.size:=Nat.le_trans h.base.1 (Nat.le_of_lt h.lt)
 have hk:=h.kept hBX
 have HX:Aside (W.alloc (.cells #[.int .i64 10,.int .i64 o,.int .i64 cf,.int .i64 cn,.int .i64 cm,.string cp,.string ct,.string cx,.bool ca] 50)=X):=hX
 have HB:Aside (Below W.heap.size W X):=hBX
 have hgX:=hg.kept (hBX.mono hbase)
 have ho4z:(o:Int)<4:=by omega
 have hF:=AX hk hgX cp 3 ct (by unfold maxLen;omega) (by unfold maxLen;omega)
 clear h hg hf hk hgX hbk hX hBX
 go_enter Tryz.func58,Tryz.ntmps58
 go_wp2_with (go_at_call 86;rw [HX.out];refine hF.mono ?_;clear hF;intro r w5 hS;obtain ⟨v,rfl,HS⟩:=hS.parts HB.out;clear hS)
 go_ret2
 exact HS.out
set_option maxRecDepth 100000 in
set_option maxHeartbeats 1000000 in
theorem Ho {base:Nat} {W:World} {S:Nat} {s:Sy} {L:Lay6} (h:aj base W S s L) (hg:Gl base W) (hf:s.Fine) (o:Nat) (ho4:o<4) (cf cn cm:Int) (cp ct cx:ByteArray) (ca:Bool) (hp:cp.size≤140737488355328) (ht:ct.size≤140737488355328) :
  Calls Tryz.prog 58 #[.pointer (some ⟨S,0,none⟩),.agg #[.int .i64 7,.int .i64 o,.int .i64 cf,.int .i64 cn,.int .i64 cm,.string cp,.string ct,.string cx,.bool ca]] W (yE base S s L (s.jm 7 cp) (s.rmDo cp) iA W):=by
 obtain ⟨X,hX⟩:∃ X,W.alloc (.cells #[.int .i64 7,.int .i64 o,.int .i64 cf,.int .i64 cn,.int .i64 cm,.string cp,.string ct,.string cx,.bool ca] 50)=X:=⟨_,rfl⟩
 have hBX:Below W.heap.size W X:=by rw [← hX];exact ((Grown.refl W).alloc _).below
 have hbk:X.heap[W.heap.size]?=some (.cells #[.int .i64 7,.int .i64 o,.int .i64 cf,.int .i64 cn,.int .i64 cm,.string cp,.string ct,.string cx,.bool ca] 50):=by rw [← hX];exact heap_alloc_last W _
 have hbase:base≤W.heap.size:=Nat.le_trans h.base.1 (Nat.le_of_lt h.lt)
 have hk:=h.kept hBX
 have HX:Aside (W.alloc (.cells #[.int .i64 7,.int .i64 o,.int .i64 cf,.int .i64 cn,.int .i64 cm,.string cp,.string ct,.string cx,.bool ca] 50)=X):=hX
 have HB:Aside (Below W.heap.size W X):=hBX
 have hgX:=hg.kept (hBX.mono hbase)
 have ho4z:(o:Int)<4:=by omega
 have hF:=qN hk hgX 7 o cf cn cm cp ct cx ca (by unfold maxLen;omega) hf.short (.inl rfl)
 clear h hg hf hk hgX hbk hX hBX
 go_enter Tryz.func58,Tryz.ntmps58
 go_wp2_with (go_at_call 87;rw [HX.out];refine hF.mono ?_;clear hF;intro r w5 hS;obtain ⟨v,rfl,HS⟩:=hS.parts HB.out;clear hS)
 go_ret2
 exact HS.out
set_option maxRecDepth 100000 in
set_option maxHeartbeats 1000000 in
theorem Hq {base:Nat} {W:World} {S:Nat} {s:Sy} {L:Lay6} (h:aj base W S s L) (hg:Gl base W) (hf:s.Fine) (o:Nat) (ho4:o<4) (cf cn cm:Int) (cp ct cx:ByteArray) (ca:Bool) (hp:cp.size≤140737488355328) (ht:ct.size≤140737488355328) :
  Calls Tryz.prog 58 #[.pointer (some ⟨S,0,none⟩),.agg #[.int .i64 8,.int .i64 o,.int .i64 cf,.int .i64 cn,.int .i64 cm,.string cp,.string ct,.string cx,.bool ca]] W (yE base S s L (s.jm 8 cp) (s.rmDo cp) iA W):=by
 obtain ⟨X,hX⟩:∃ X,W.alloc (.cells #[.int .i64 8,.int .i64 o,.int .i64 cf,.int .i64 cn,.int .i64 cm,.string cp,.string ct,.string cx,.bool ca] 50)=X:=⟨_,rfl⟩
 have hBX:Below W.heap.size W X:=by rw [← hX];exact ((Grown.refl W).alloc _).below
 have hbk:X.heap[W.heap.size]?=some (.cells #[.int .i64 8,.int .i64 o,.int .i64 cf,.int .i64 cn,.int .i64 cm,.string cp,.string ct,.string cx,.bool ca] 50):=by rw [← hX];exact heap_alloc_last W _
 have hbase:base≤W.heap.size:=Nat.le_trans h.base.1 (Nat.le_of_lt h.lt)
 have hk:=h.kept hBX
 have HX:Aside (W.alloc (.cells #[.int .i64 8,.int .i64 o,.int .i64 cf,.int .i64 cn,.int .i64 cm,.string cp,.string ct,.string cx,.bool ca] 50)=X):=hX
 have HB:Aside (Below W.heap.size W X):=hBX
 have hgX:=hg.kept (hBX.mono hbase)
 have ho4z:(o:Int)<4:=by omega
 have hF:=qN hk hgX 8 o cf cn cm cp ct cx ca (by unfold maxLen;omega) hf.short (.inr rfl)
 clear h hg hf hk hgX hbk hX hBX
 go_enter Tryz.func58,Tryz.ntmps58
 go_wp2_with (go_at_call 87;rw [HX.out];refine hF.mono ?_;clear hF;intro r w5 hS;obtain ⟨v,rfl,HS⟩:=hS.parts HB.out;clear hS)
 go_ret2
 exact HS.out
set_option maxRecDepth 100000 in
set_option maxHeartbeats 1000000 in
theorem Hr {base:Nat} {W:World} {S:Nat} {s:Sy} {L:Lay6} (h:aj base W S s L) (hg:Gl base W) (hf:s.Fine) (o:Nat) (ho4:o<4) (cf cn cm:Int) (cp ct cx:ByteArray) (ca:Bool) (hp:cp.size≤140737488355328) (ht:ct.size≤140737488355328) :
  Calls Tryz.prog 58 #[.pointer (some ⟨S,0,none⟩),.agg #[.int .i64 9,.int .i64 o,.int .i64 cf,.int .i64 cn,.int .i64 cm,.string cp,.string ct,.string cx,.bool ca]] W (yE base S s L (s.jP cp ct) (s.lC cp ct) iA W):=by
 obtain ⟨X,hX⟩:∃ X,W.alloc (.cells #[.int .i64 9,.int .i64 o,.int .i64 cf,.int .i64 cn,.int .i64 cm,.string cp,.string ct,.string cx,.bool ca] 50)=X:=⟨_,rfl⟩
 have hBX:Below W.heap.size W X:=by rw [← hX];exact ((Grown.refl W).alloc _).below
 have hbk:X.heap[W.heap.size]?=some (.cells #[.int .i64 9,.int .i64 o,.int .i64 cf,.int .i64 cn,.int .i64 cm,.string cp,.string ct,.string cx,.bool ca] 50):=by rw [← hX];exact heap_alloc_last W _
 have hbase:base≤W.heap.size:=Nat.le_trans h.base.1 (Nat.le_of_lt h.lt)
 have hk:=h.kept hBX
 have HX:Aside (W.alloc (.cells #[.int .i64 9,.int .i64 o,.int .i64 cf,.int .i64 cn,.int .i64 cm,.string cp,.string ct,.string cx,.bool ca] 50)=X):=hX
 have HB:Aside (Below W.heap.size W X):=hBX
 have hgX:=hg.kept (hBX.mono hbase)
 have ho4z:(o:Int)<4:=by omega
 have hF:=xU hk hgX cp ct (by unfold maxLen;omega) (by unfold maxLen;omega) hf.short
 clear h hg hf hk hgX hbk hX hBX
 go_enter Tryz.func58,Tryz.ntmps58
 go_wp2_with (go_at_call 88;rw [HX.out];refine hF.mono ?_;clear hF;intro r w5 hS;obtain ⟨v,rfl,HS⟩:=hS.parts HB.out;clear hS)
 go_ret2
 exact HS.out
set_option maxRecDepth 100000 in
set_option maxHeartbeats 1000000 in
theorem FJ {base:Nat} {W:World} {S:Nat} {s:Sy} {L:Lay6} (h:aj base W S s L) (hg:Gl base W) (hf:s.Fine) (o:Nat) (ho4:o<4) (cf cn cm:Int) (cp ct cx:ByteArray) (ca:Bool) (hp:cp.size≤140737488355328) (ht:ct.size≤140737488355328) :
  Calls Tryz.prog 58 #[.pointer (some ⟨S,0,none⟩),.agg #[.int .i64 11,.int .i64 o,.int .i64 cf,.int .i64 cn,.int .i64 cm,.string cp,.string ct,.string cx,.bool ca]] W (yE base S s L (s.sN cp) s (s.sM cp) W):=by
 obtain ⟨X,hX⟩:∃ X,W.alloc (.cells #[.int .i64 11,.int .i64 o,.int .i64 cf,.int .i64 cn,.int .i64 cm,.string cp,.string ct,.string cx,.bool ca] 50)=X:=⟨_,rfl⟩
 have hBX:Below W.heap.size W X:=by rw [← hX];exact ((Grown.refl W).alloc _).below
 have hbk:X.heap[W.heap.size]?=some (.cells #[.int .i64 11,.int .i64 o,.int .i64 cf,.int .i64 cn,.int .i64 cm,.string cp,.string ct,.string cx,.bool ca] 50):=by rw [← hX];exact heap_alloc_last W _
 have hbase:base≤W.heap.size:=Nat.le_trans h.base.1 (Nat.le_of_lt h.lt)
 have hk:=h.kept hBX
 have HX:Aside (W.alloc (.cells #[.int .i64 11,.int .i64 o,.int .i64 cf,.int .i64 cn,.int .i64 cm,.string cp,.string ct,.string cx,.bool ca] 50)=X):=hX
 have HB:Aside (Below W.heap.size W X):=hBX
 have hgX:=hg.kept (hBX.mono hbase)
 have ho4z:(o:Int)<4:=by omega
 have hF:=AJ hk hgX cp (by unfold maxLen;omega)
 clear h hg hf hk hgX hbk hX hBX
 go_enter Tryz.func58,Tryz.ntmps58
 go_wp2_with (go_at_call 89;rw [HX.out];refine hF.mono ?_;clear hF;intro r w5 hS;obtain ⟨v,rfl,HS⟩:=hS.parts HB.out;clear hS)
 go_ret2
 exact HS.out
set_option maxRecDepth 100000 in
set_option maxHeartbeats 1000000 in
theorem FK {base:Nat} {W:World} {S:Nat} {s:Sy} {L:Lay6} (h:aj base W S s L) (hg:Gl base W) (hf:s.Fine) (o:Nat) (ho4:o<4) (cf cn cm:Int) (cp ct cx:ByteArray) (ca:Bool) (hp:cp.size≤140737488355328) (ht:ct.size≤140737488355328) :
  Calls Tryz.prog 58 #[.pointer (some ⟨S,0,none⟩),.agg #[.int .i64 12,.int .i64 o,.int .i64 cf,.int .i64 cn,.int .i64 cm,.string cp,.string ct,.string cx,.bool ca]] W (yE base S s L (s.sV cp) s (s.sU cp) W):=by
 obtain ⟨X,hX⟩:∃ X,W.alloc (.cells #[.int .i64 12,.int .i64 o,.int .i64 cf,.int .i64 cn,.int .i64 cm,.string cp,.string ct,.string cx,.bool ca] 50)=X:=⟨_,rfl⟩
 have hBX:Below W.heap.size W X:=by rw [← hX];exact ((Grown.refl W).alloc _).below
 have hbk:X.heap[W.heap.size]?=some (.cells #[.int .i64 12,.int .i64 o,.int .i64 cf,.int .i64 cn,.int .i64 cm,.string cp,.string ct,.string cx,.bool ca] 50):=by rw [← hX];exact heap_alloc_last W _
 have hbase:base≤W.heap.size:=Nat.le_trans h.base.1 (Nat.le_of_lt h.lt)
 have hk:=h.kept hBX
 have HX:Aside (W.alloc (.cells #[.int .i64 12,.int .i64 o,.int .i64 cf,.int .i64 cn,.int .i64 cm,.string cp,.string ct,.string cx,.bool ca] 50)=X):=hX
 have HB:Aside (Below W.heap.size W X):=hBX
 have hgX:=hg.kept (hBX.mono hbase)
 have ho4z:(o:Int)<4:=by omega
 have hF:=Hf hk hgX cp (by unfold maxLen;omega)
 clear h hg hf hk hgX hbk hX hBX
 go_enter Tryz.func58,Tryz.ntmps58
 go_wp2_with (go_at_call 90;rw [HX.out];refine hF.mono ?_;clear hF;intro r w5 hS;obtain ⟨v,rfl,HS⟩:=hS.parts HB.out;clear hS)
 go_ret2
 exact HS.out
set_option maxRecDepth 100000 in
set_option maxHeartbeats 1000000 in
theorem Du {base:Nat} {W:World} {S:Nat} {s:Sy} {L:Lay6} (h:aj base W S s L) (hg:Gl base W) (hf:s.Fine) (o:Nat) (ho4:o<4) (ck cf cn cm:Int) (cp ct cx:ByteArray) (ca:Bool) (hx:cx.size≤140737488355328) (hk0:¬ ck<1) (hk1:¬ 16<ck) (e1:¬ ck=1) (e6:¬ ck=6) (e10:¬ ck=10) (e7:¬ ck=7) (e8:¬ ck=8) (e9:¬ ck=9) (e11:¬ ck=11) (e12:¬ ck=12) :
  Calls Tryz.prog 58 #[.pointer (some ⟨S,0,none⟩),.agg #[.int .i64 ck,.int .i64 o,.int .i64 cf,.int .i64 cn,.int .i64 cm,.string cp,.string ct,.string cx,.bool ca]] W (fun r w'=>yE base S s L (s.numR o ck cf cn cm cx ca).1 (s.numR o ck cf cn cm cx ca).2.1 (s.numR o ck cf cn cm cx ca).2.2 W r w'):=by
 obtain ⟨X,hX⟩:∃ X,W.alloc (.cells #[.int .i64 ck,.int .i64 o,.int .i64 cf,.int .i64 cn,.int .i64 cm,.string cp,.string ct,.string cx,.bool ca] 50)=X:=⟨_,rfl⟩
 have hBX:Below W.heap.size W X:=by rw [← hX];exact ((Grown.refl W).alloc _).below
 have hbk:X.heap[W.heap.size]?=some (.cells #[.int .i64 ck,.int .i64 o,.int .i64 cf,.int .i64 cn,.int .i64 cm,.string cp,.string ct,.string cx,.bool ca] 50):=by rw [← hX];exact heap_alloc_last W _
 have hbase:base≤W.heap.size:=Nat.le_trans h.base.1 (Nat.le_of_lt h.lt)
 have hk:=h.kept hBX
 have HX:Aside (W.alloc (.cells #[.int .i64 ck,.int .i64 o,.int .i64 cf,.int .i64 cn,.int .i64 cm,.string cp,.string ct,.string cx,.bool ca] 50)=X):=hX
 have HB:Aside (Below W.heap.size W X):=hBX
 have hgX:=hg.kept (hBX.mono hbase)
 have ho4z:(o:Int)<4:=by omega
 have hF:=CX hk hgX hf.calm o ho4 ck cf cn cm cp ct cx ca hx
 have q1:(ck == 1)=false:=by simpa using e1
 have q6:(ck == 6)=false:=by simpa using e6
 have q10:(ck == 10)=false:=by simpa using e10
 have q7:(ck == 7)=false:=by simpa using e7
 have q8:(ck == 8)=false:=by simpa using e8
 have q9:(ck == 9)=false:=by simpa using e9
 have q11:(ck == 11)=false:=by simpa using e11
 have q12:(ck == 12)=false:=by simpa using e12
 clear h hg hf hk hgX hbk hX hBX e1 e6 e10 e7 e8 e9 e11 e12
 generalize s.numR o ck cf cn cm cx ca=R at hF ⊢
 go_enter Tryz.func58,Tryz.ntmps58
 go_wp2_with (go_at_call 91;rw [HX.out];refine hF.mono ?_;clear hF;intro r w5 hS;obtain ⟨v,rfl,HS⟩:=hS.parts HB.out;clear hS)
 go_ret2
 exact HS.out
theorem Dt {base:Nat} {W:World} {S:Nat} {s:Sy} {L:Lay6} (h:aj base W S s L) (hg:Gl base W) (hf:s.Fine) (c:Cl) (hc:c.Small) :
  Calls Tryz.prog 58 #[.pointer (some ⟨S,0,none⟩),.agg #[.int .i64 c.kind, .int .i64 c.owner, .int .i64 c.fd, .int .i64 c.n, .int .i64 c.m, .string c.path, .string c.to, .string c.text, .bool c.alone]] W (fun r w'=>yE base S s L (s.eY c).1 (s.eY c).2.1 (s.eY c).2.2 W r w'):=by
 obtain ⟨ck,co,cf,cn,cm,cp,ct,cx,ca⟩:=c
 obtain ⟨hp,ht,hx⟩:=hc
 unfold Sy.eY
 simp only at *
 by_cases hk:ck<1∨16<ck
 ·rw [if_pos hk];exact AB h ck co cf cn cm cp ct cx ca hk
 rw [if_neg hk]
 by_cases ho:co<0∨4≤co
 ·rw [if_pos ho];exact zK h ck co cf cn cm cp ct cx ca (by omega) (by omega) ho
 rw [if_neg ho]
 obtain ⟨o,rfl⟩:∃ o:Nat,co=o:=⟨co.toNat,by omega⟩
 have ho4:o<4:=by omega
 rw [show ((o:Int)).toNat=o from rfl]
 by_cases e1:ck=1
 ·rw [if_pos e1];subst e1;exact Hg h hg hf o ho4 cf cn cm cp ct cx ca hp ht
 rw [if_neg e1]
 by_cases e6:ck=6
 ·rw [if_pos e6];subst e6;exact Hl h hg hf o ho4 cf cn cm cp ct cx ca hp ht
 rw [if_neg e6]
 by_cases e10:ck=10
 ·rw [if_pos e10];subst e10;exact FI h hg hf o ho4 cf cn cm cp ct cx ca hp ht
 rw [if_neg e10]
 by_cases e7:ck=7
 ·rw [if_pos (.inl e7)];subst e7;exact Ho h hg hf o ho4 cf cn cm cp ct cx ca hp ht
 by_cases e8:ck=8
 ·rw [if_pos (.inr e8)];subst e8;exact Hq h hg hf o ho4 cf cn cm cp ct cx ca hp ht
 rw [if_neg (by omega)]
 by_cases e9:ck=9
 ·rw [if_pos e9];subst e9;exact Hr h hg hf o ho4 cf cn cm cp ct cx ca hp ht
 rw [if_neg e9]
 by_cases e11:ck=11
 ·rw [if_pos e11];subst e11;exact FJ h hg hf o ho4 cf cn cm cp ct cx ca hp ht
 rw [if_neg e11]
 by_cases e12:ck=12
 ·rw [if_pos e12];subst e12;exact FK h hg hf o ho4 cf cn cm cp ct cx ca hp ht
 rw [if_neg e12]
 exact Du h hg hf o ho4 ck cf cn cm cp ct cx ca hx (by omega) (by omega) e1 e6 e10 e7 e8 e9 e11 e12
namespace PM
def qX (e:Int):An:=⟨e,0,⟨#[]⟩,[]⟩
noncomputable def Sy.answer (s:Sy) (c:Cl):Sy × An:=if (s.eY c).1=0 then (s.eY c).2 else (s,qX (s.eY c).1)
end PM
theorem Ei (sp:Nat→Prop) (W:World) (e:Int):lZ sp W (qX e) (.agg #[.int .i64 e,.int .i64 0,.string ⟨#[]⟩,.slice none 0 0]):=⟨none,0,[],rfl,rfl,Nat.le_refl _,fun _=>rfl,fun _ _=>.inl rfl⟩
theorem lZ.on {sp:Nat→Prop} {W W':World} {an:An} {v:Value} (h:lZ sp W an v) (hk:Keep sp W W'):lZ sp W' an v:=by
 obtain ⟨p,c,bs,e,h1,h2,h3,h4⟩:=h
 exact ⟨p,c,bs,e,h1,h2,h3,h4.on hk⟩
theorem KD {base:Nat} {W W1 w4:World} {S:Nat} {s s':Sy} {L L1 L4:Lay6} {an:An} {R:Nat} {a b c d:Value} (h:aj base W S s L) (h1:aj base W1 S s L1) (hB1:Below W.heap.size W W1) (hR:W.heap.size≤R) (hRl:R<W1.heap.size) (hx1:∀ b,L1.ex b↔b=R∨L.ex b) (ho1:L1.ob=L.ob) (hf1:L1.fb=L.fb) (hbk:W1.heap[R]?=some (.cells #[.int .i64 0,.int .i64 0,.string ⟨#[]⟩,.slice none 0 0] 38)) (h4:aj base w4 S s' L4) (hb4:Below base W1 w4) (hx4:∀ b,L1.ex b→L4.ex b) (hk4:Keep (Mine S s L1) W1 w4) (hs4:∀ b,Sp S s' L4 b→Sp S s L1 b∨W1.heap.size≤b) (hA:lZ (Sp S s' L4) w4 an (.agg #[a,b,c,d])) :
  dN base S s L s' an W (.returned (.agg #[a,b,c,d])) ((((w4.setCell ⟨R,0,none⟩ a).setCell ⟨R,1,none⟩ b).setCell ⟨R,2,none⟩ c).setCell ⟨R,3,none⟩ d):=by
 have hxR:L4.ex R:=hx4 R ((hx1 R).2 (.inl rfl))
 have hnR:¬ Mine S s L1 R:=by
  rintro (e | ⟨j,hj,e⟩ | ⟨i,hi,e⟩)
  ·have:=h.lt;omega
  ·rw [ho1] at e;have:=h.olt hj;omega
  ·rw [hf1] at e;have:=h.flt hi;omega
 have hb:=(hk4.block R hRl hnR).trans hbk
 obtain ⟨k1,k2⟩:=h4.answer hxR hb a b c d
 have hbW:base≤W.heap.size:=Nat.le_trans h.base.1 (Nat.le_of_lt h.lt)
 have hkA:Keep (Sp S s' L4) w4 ((((w4.setCell ⟨R,0,none⟩ a).setCell ⟨R,1,none⟩ b).setCell ⟨R,2,none⟩ c).setCell ⟨R,3,none⟩ d):=(((Keep.set (.inl (.inr hxR)) _ _ _).trans (Keep.set (.inl (.inr hxR)) _ _ _)).trans (Keep.set (.inl (.inr hxR)) _ _ _)).trans (Keep.set (.inl (.inr hxR)) _ _ _)
 have hs1:=hB1.size
 refine ⟨_,L4,rfl,k1,hA.on hkA,(hB1.mono hbW).trans (hb4.trans k2),fun b hb=>hx4 b ((hx1 b).2 (.inr hb)),⟨Nat.le_trans hs1 (Nat.le_trans hk4.size (by simp [World.setCell])),fun x hx hn=>?_⟩,fun b hb=>?_⟩
 ·have hne:∀ (Y:World) (i:Nat) (v:Value),(Y.setCell ⟨R,i,none⟩ v).heap[x]?=Y.heap[x]?:=fun Y i v=>Below.heap_setCell _ _ _ _ (by show x≠R;omega)
  rw [hne,hne,hne,hne]
  refine (hk4.block x (by omega) (fun hm=>hn ?_)).trans (hB1.block x hx)
  rcases hm with e | ⟨j,hj,e⟩ | ⟨i,hi,e⟩
  ·exact .inl e
  ·rw [ho1] at e;exact .inr (.inl ⟨j,hj,e⟩)
  ·rw [hf1] at e;exact .inr (.inr ⟨i,hi,e⟩)
 ·rcases hs4 b hb with ((e | hx) | ⟨j,hj,e⟩ | ⟨i,hi,e⟩) | hl
  ·exact .inl (.inl (.inl e))
  ·rcases (hx1 b).1 hx with e | hx
   ·right;omega
   ·exact .inl (.inl (.inr hx))
  ·rw [ho1] at e;exact .inl (.inr (.inl ⟨j,hj,e⟩))
  ·rw [hf1] at e;exact .inl (.inr (.inr ⟨i,hi,e⟩))
  ·right;omega
theorem xR {base S:Nat} {s:Sy} {L:Lay6} {err:Int} {s':Sy} {an:An} {W W':World} {r:Ending} (h:yE base S s L err s' an W r W') (he:err=0):∃ g cap,r=.returned (.tuple #[.func (.func g) #[] cap,.int .i64 0])∧Below W.heap.size W W'∧(∀ args w,(callFunc g args).run Tryz.prog w=.ok (.enter g args) w)∧Calls Tryz.prog g cap W' (dN base S s L s' an W'):=by
 obtain ⟨v,e,hB,h2⟩:=h
 obtain ⟨g,cap,rfl,h3,h4⟩:=h2 he
 subst he
 exact ⟨g,cap,e,hB,h3,h4⟩
theorem yM {base S:Nat} {s:Sy} {L:Lay6} {s':Sy} {an:An} {W W':World} {r:Ending} (h:dN base S s L s' an W r W'):∃ (p:Option Addr) (c n:Nat),r=.returned (.agg #[.int .i64 an.err,.int .i64 an.n,.string an.text,.slice p n c])∧Aside (dN base S s L s' an W (.returned (.agg #[.int .i64 an.err,.int .i64 an.n,.string an.text,.slice p n c])) W'):=by
 obtain ⟨v,L',e,h1,h2,h3⟩:=h
 obtain ⟨p,c,bs,e2,h4⟩:=h2
 subst e2
 exact ⟨p,c,bs.length,e,_,L',rfl,h1,⟨p,c,bs,rfl,h4⟩,h3⟩
set_option maxRecDepth 100000 in
set_option maxHeartbeats 1000000 in
theorem BO {base:Nat} {W:World} {S:Nat} {s:Sy} {L:Lay6} (h:aj base W S s L) (hg:Gl base W) (hf:s.Fine) (c:Cl) (hc:c.Small) :
  Calls Tryz.prog 40 #[.pointer (some ⟨S,0,none⟩),.agg #[.int .i64 c.kind, .int .i64 c.owner, .int .i64 c.fd, .int .i64 c.n, .int .i64 c.m, .string c.path, .string c.to, .string c.text, .bool c.alone]] W (dN base S s L (s.answer c).1 (s.answer c).2 W):=by
 obtain ⟨W0,hW0⟩:∃ W0,W.alloc (.cells #[.int .i64 c.kind, .int .i64 c.owner, .int .i64 c.fd, .int .i64 c.n, .int .i64 c.m, .string c.path, .string c.to, .string c.text, .bool c.alone] 50)=W0:=⟨_,rfl⟩
 have hB0:Below W.heap.size W W0:=by rw [← hW0];exact ((Grown.refl W).alloc _).below
 have hs0:W0.heap.size=W.heap.size+1:=by rw [← hW0];simp
 obtain ⟨W1,hW1⟩:∃ W1,W0.alloc (.cells #[.int .i64 0,.int .i64 0,.string ⟨#[]⟩,.slice none 0 0] 38)=W1:=⟨_,rfl⟩
 have hB01:Below W0.heap.size W0 W1:=by rw [← hW1];exact ((Grown.refl W0).alloc _).below
 have hB1:=Below.onto hB0 hB01
 have hs1:W1.heap.size=W.heap.size+2:=by rw [← hW1,World.size_alloc,hs0]
 have hbk:W1.heap[W.heap.size+1]?=some (.cells #[.int .i64 0,.int .i64 0,.string ⟨#[]⟩,.slice none 0 0] 38):=by
  rw [← hW1,← hs0];exact heap_alloc_last W0 _
 have h1:=(h.kept hB0).aside (.cells #[.int .i64 0,.int .i64 0,.string ⟨#[]⟩,.slice none 0 0] 38)
 rw [hW1,hs0] at h1
 have hbase:base≤W.heap.size:=Nat.le_trans h.base.1 (Nat.le_of_lt h.lt)
 have hF:=Dt h1 (hg.kept (hB1.mono hbase)) hf c hc
 obtain ⟨L1,hL1⟩:∃ L1:Lay6,L1={ L with ex:=fun b=>b=W.heap.size+1∨L.ex b }:=⟨_,rfl⟩
 rw [← hL1] at h1 hF
 have HA:Aside (aj base W S s L∧aj base W1 S s L1∧Below W.heap.size W W1∧W.heap.size+1<W1.heap.size∧(∀ b,L1.ex b↔b=W.heap.size+1∨L.ex b)∧L1.ob=L.ob∧L1.fb=L.fb∧W1.heap[W.heap.size+1]?=some (.cells #[.int .i64 0,.int .i64 0,.string ⟨#[]⟩,.slice none 0 0] 38)):=⟨h,h1,hB1,by omega,fun b=>by rw [hL1],by rw [hL1],by rw [hL1],hbk⟩
 obtain ⟨⟨b0,b1,b2,b3⟩,z0,z1,z2,z3⟩:=bK hbk
 have HW:Aside ((W.alloc (.cells #[.int .i64 c.kind, .int .i64 c.owner, .int .i64 c.fd, .int .i64 c.n, .int .i64 c.m, .string c.path, .string c.to, .string c.text, .bool c.alone] 50)).alloc (.cells #[.int .i64 0,.int .i64 0,.string ⟨#[]⟩,.slice none 0 0] 38)=W1):=by rw [hW0];exact hW1
 obtain ⟨ck,co,cf,cn,cm,cp,ct,cx,ca⟩:=c
 simp only at hF HW ⊢
 have HV:Aside ((s.answer ⟨ck,co,cf,cn,cm,cp,ct,cx,ca⟩)=if (s.eY ⟨ck,co,cf,cn,cm,cp,ct,cx,ca⟩).1=0 then (s.eY ⟨ck,co,cf,cn,cm,cp,ct,cx,ca⟩).2 else (s,qX (s.eY ⟨ck,co,cf,cn,cm,cp,ct,cx,ca⟩).1)):=rfl
 generalize s.answer ⟨ck,co,cf,cn,cm,cp,ct,cx,ca⟩=A at HV ⊢
 generalize s.eY ⟨ck,co,cf,cn,cm,cp,ct,cx,ca⟩=R at HV hF
 obtain ⟨er,s',an⟩:=R
 simp only at HV hF
 rw [← HW.out] at hF
 clear h h1 hg hf hB0 hB01 hB1 hs0 hs1 hbk hW0 hW1 hL1 hc b0 b1 b2 b3 z0 z1 z2 z3
 by_cases hz:er=0
 ·subst hz
  go_enter Tryz.func40,Tryz.ntmps40
  go_wp2_with (go_at_call 58;refine hF.mono ?_;clear hF;intro r w3 hS;obtain ⟨g,cap,rfl,hB3,eg,hD⟩:=xR hS (by trivial);clear hS;rw [HW.out] at hB3;have H3:Aside (Below W1.heap.size W1 w3∧w3.heap[W.heap.size+1]?=some (.cells #[.int .i64 0,.int .i64 0,.string ⟨#[]⟩,.slice none 0 0] 38)):=⟨hB3,(hB3.block _ HA.out.2.2.2.1).trans HA.out.2.2.2.2.2.2.2⟩;clear hB3)
  go_wp2_with (go_at_fn g;refine Calls.mono hD ?_;clear hD;intro r w4 hS;obtain ⟨p,k,n,rfl,HD⟩:=yM hS;clear hS;have hb4:w4.heap[W.heap.size+1]?=some (.cells #[.int .i64 0,.int .i64 0,.string ⟨#[]⟩,.slice none 0 0] 38):=(by obtain ⟨_,L4,_,_,_,_,_,hk,_⟩:=HD.out;refine (hk.block _ (Array.getElem?_eq_some_iff.1 H3.out.2).1 ?_).trans H3.out.2;rintro (e | ⟨j,hj,e⟩ | ⟨i,hi,e⟩);(have:=HA.out.1.lt;omega);(rw [HA.out.2.2.2.2.2.1] at e;have:=HA.out.1.olt hj;omega);(rw [HA.out.2.2.2.2.2.2.1] at e;have:=HA.out.1.flt hi;omega));obtain ⟨⟨b0,b1,b2,b3⟩,z0,z1,z2,z3⟩:=bK hb4;clear hb4)
  refine bodyPost_ret (v:=.agg #[.int .i64 an.err,.int .i64 an.n,.string an.text,.slice p n k]) (by simp [results,Tryz.results40,go_sem,b0,b1,b2,b3]) rfl ?_
  rw [HV.out,if_pos (by trivial)]
  obtain ⟨h,h1,hB1,hl,hx,ho,hfb,hbk⟩:=HA.out
  obtain ⟨v,L4,e,q1,q2,q3,q4,q5,q6⟩:=HD.out
  injection e with e
  subst e
  have hb3:base≤W1.heap.size:=Nat.le_trans h1.base.1 (Nat.le_of_lt h1.lt)
  exact KD h h1 hB1 (by omega) hl hx ho hfb hbk q1 ((H3.out.1.mono hb3).trans q3) q4 ((Keep.of_below _ H3.out.1).trans q5) (fun b hb=>(q6 b hb).imp id (fun hl=>Nat.le_trans H3.out.1.size hl)) q2
 ·have hne:(er != 0)=true:=by simpa using hz
  go_enter Tryz.func40,Tryz.ntmps40
  go_wp2_with (go_at_call 58;refine hF.mono ?_;clear hF;intro r w3 hS;obtain ⟨v,rfl,hB3,_⟩:=hS;rw [HW.out] at hB3;have H3:Aside (Below W1.heap.size W1 w3∧w3.heap[W.heap.size+1]?=some (.cells #[.int .i64 0,.int .i64 0,.string ⟨#[]⟩,.slice none 0 0] 38)):=⟨hB3,(hB3.block _ HA.out.2.2.2.1).trans HA.out.2.2.2.2.2.2.2⟩;clear hB3;obtain ⟨⟨b0,b1,b2,b3⟩,z0,z1,z2,z3⟩:=bK H3.out.2)
  refine bodyPost_ret (v:=.agg #[.int .i64 er,.int .i64 0,.string ⟨#[]⟩,.slice none 0 0]) (by simp [results,Tryz.results40,go_sem,b0,b1,b2,b3]) rfl ?_
  rw [HV.out,if_neg hz]
  obtain ⟨h,h1,hB1,hl,hx,ho,hfb,hbk⟩:=HA.out
  have hb3:base≤W1.heap.size:=Nat.le_trans h1.base.1 (Nat.le_of_lt h1.lt)
  exact KD h h1 hB1 (by omega) hl hx ho hfb hbk (h1.kept H3.out.1) (H3.out.1.mono hb3) (fun b hb=>hb) (Keep.of_below _ H3.out.1) (fun b hb=>.inl hb) (Ei _ _ _)
theorem Ga {W:World} {H:Nat} (h:W.heap[H]?=some (.cells #[] 53 (0,0))):W.ownsRow H 53 4 (.slice (some ⟨H,0,none⟩) 0 0) 0 [] :=
 ⟨rfl,.inr ⟨H,0,#[],rfl,Nat.le_refl _,h,Nat.le_refl _,by decide,rfl,rfl⟩⟩
theorem qF {ops:Array Oper} {o:Oper} {a:Act} {K:Act→World→Prop} {Q:Exit→Act→World→Prop} {E:Prop} {X:World} (hgd:o.guard=none) (s x:Operand)
  (ho:o.op=.call { callee:=.builtin .append,args:=#[s,x],argTypes:=#[23,23] }) (H:Nat) (hs:a.eval s=.slice (some ⟨H,0,none⟩) 0 0) (hh:X.heap[H]?=some (.cells #[] 53 (0,0)))
  (p:Option Addr) (n cap:Nat) (t:List Ent) (hx:a.eval x=.slice p n cap) (hn:n=t.length) (hL:Lies X p t) (hnil:p=none→cap=0) (h80:n≤80)
  (h:∀ g c w',Own w' g c t→H≤g→Below H X w'→(∀ b,b<X.heap.size→b≠H→w'.heap[b]?=X.heap[b]?)→K (a.put o.dst (.slice (some ⟨g,0,none⟩) n c)) w') :
  if Region.wanted o (yielded ops a.tmps)=true then Oper.wp Tryz.prog o a X K Q else E:=by
 have hw:Region.wanted o (yielded ops a.tmps)=true:=by simp [Region.wanted,hgd]
 rw [if_pos hw]
 have hown:=Ga hh
 have hH:H≤X.heap.size:=Nat.le_of_lt (Array.getElem?_eq_some_iff.1 hh).1
 obtain ⟨i0,hi,hz0,hz1,hz2⟩:=nI
 cases p with
 | none =>
  obtain rfl:cap=0:=hnil rfl
  have ht:t=[]:=by
   rcases hL with h | ⟨b,off,he,_⟩
   ·exact h
   ·cases he
  subst ht
  obtain rfl:n=0:=hn
  have hrun:=run_append_owned_none (P:=Tryz.prog) (w:=X) H 23 o.type 53 i0 4 Tryz.underlying23 hi _ 0 [] hown
  unfold Oper.wp execOp
  simp only [ho,resolve,invoke,builtin,Sem.run_bind,Sem.run_pure,Result.andThen_ok,List.map_toArray,List.map_cons,List.map_nil,hs,hx,hrun]
  obtain ⟨g,c,hv,hg,ho'⟩:=Own.iC (t:=[]) hown (by simp) rfl
  simp only [List.length_nil] at hv
  rw [hv]
  exact h g c X ho' hg (Below.refl _ _) (fun _ _ _=>rfl)
 | some ad =>
  refine wp_append_own X s x 23 ho H 53 i0 _ 4 48 Tryz.underlying23 hi hz0 hz1 hz2 rfl (by decide) _ 0 [] hs hown ad n cap (t.flatMap encE) hx (by rw [dH,hn]) (hL.flat (Below.refl _ _)) (fun u hu=>gq hu) (by unfold maxLen;omega) (by omega) hH ?_
  intro v' w' hrow hg hiff
  rw [List.nil_append,Nat.zero_add] at hrow
  obtain ⟨g,c,hv,hgg,ho'⟩:=Own.iC hrow (by intro e;have:=(hiff.1 e).1;cases this) hn
  rw [hv,← hn]
  exact h g c w' ho' hgg ((Below.refl H X).grown hg hH (fun k hk=>by simp [Value.ownBlock] at hk;omega)) (fun b hb hne=>hg.block b hb (fun e=>hne (by simp [Value.ownBlock] at e;exact e)))
theorem aX.at {w w':World} {base:Nat} {v:Value} {ls:List Lay} (h:aX w base v ls) (hk:∀ b,base≤b→b<w.heap.size→w'.heap[b]?=w.heap[b]?):aX w' base v ls:=by
 refine ⟨h.1,h.2.imp id ?_⟩
 rintro ⟨g,cap,cur,e,hg,hh,r⟩
 exact ⟨g,cap,cur,e,hg,(hk g hg (Array.getElem?_eq_some_iff.1 hh).1).trans hh,r⟩
def yh (up:List Ent) (lows:List (List Ent)) (w:World) (r:Ending) (w':World):Prop:=∃ (y:Lay) (lo:List Lay) (pl:Option Addr) (cl yn ln:Nat),r=.returned (.agg #[.slice y.ad yn y.cap,.slice pl ln cl])∧Aside (yn=y.es.length∧ln=lo.length∧y.es=up∧lo.map (·.es)=lows∧UnOK w' y lo pl cl∧Below w.heap.size w w'∧jF w.heap.size y lo pl)
theorem eO.copy {up:List Ent} {lows:List (List Ent)} {w w':World} {a b:Value} (h:eO 0 up lows w (.returned (.tuple #[.agg #[a,b],.int .i64 0])) w'):yh up lows w (.returned (.agg #[a,b])) w':=by
 obtain ⟨y,lo,pl,cl,e,h1⟩:=h
 injection e with e
 injection e with e
 have e:=(Array.mk.inj e)
 injection e with e _
 rw [e]
 exact ⟨y,lo,pl,cl,_,_,rfl,rfl,rfl,h1⟩
set_option maxRecDepth 100000 in
set_option maxHeartbeats 4000000 in
theorem xW (y:Lay) (ls:List Lay) (pl:Option Addr) (cl:Nat) (w:World) (hUn:UnOK w y ls pl cl) (hy80:y.es.length≤80) (hl80:∀ x∈ls,x.es.length≤80) (h4:ls.length≤4) :
  Calls Tryz.prog 39 #[.agg #[.slice y.ad y.es.length y.cap,.slice pl ls.length cl]] w (yh y.es (ls.map (·.es)) w):=by
 obtain ⟨X,hX⟩:∃ X,(w.alloc (.cells #[.slice y.ad y.es.length y.cap,.slice pl ls.length cl] 26)).alloc (.cells #[.slice none 0 0,.slice none 0 0] 26)=X:=⟨_,rfl⟩
 have hBX:Below w.heap.size w X:=by rw [← hX];exact ((Below.refl _ _).alloc (Nat.le_refl _) _).alloc (by simp) _
 have hsX:X.heap.size=w.heap.size+2:=by rw [← hX];simp
 have hcp:∀ W,Below X.heap.size X W→Calls Tryz.prog 57 #[.slice pl ls.length cl] W (pR (ls.map (·.es)) W):=fun W hW=>by
  have h:=(hUn.kept hBX).kept hW
  exact vo ls pl cl W h.lies (fun x hx=>⟨(h.each x hx).1.lies,(h.each x hx).2,hl80 x hx⟩) h4
 have bx:=iI hX
 have br:=dY hX
 have HU:Aside (UnOK w y ls pl cl∧Below w.heap.size w X∧(w.alloc (.cells #[.slice y.ad y.es.length y.cap,.slice pl ls.length cl] 26)).alloc (.cells #[.slice none 0 0,.slice none 0 0] 26)=X∧(∀ x∈ls,x.es.length≤80)∧y.es.length≤80∧X.heap.size=w.heap.size+2∧X.heap[w.heap.size]?=some (.cells #[.slice y.ad y.es.length y.cap,.slice pl ls.length cl] 26)∧X.heap[w.heap.size+1]?=some (.cells #[.slice none 0 0,.slice none 0 0] 26)):=⟨hUn,hBX,hX,hl80,hy80,hsX,bx,br⟩
 have hla:∀ W,Below X.heap.size X W→Lies W y.ad y.es:=fun W hW=>((hUn.kept hBX).kept hW).up.lies
 have hupn:=hUn.upn
 have q0:X.cell? ⟨w.heap.size,0,none⟩=some (.slice y.ad y.es.length y.cap):=by simp [World.cell?,bx]
 have q1:X.cell? ⟨w.heap.size,1,none⟩=some (.slice pl ls.length cl):=by simp [World.cell?,bx]
 have r0:X.cell? ⟨w.heap.size+1,0,none⟩=some (.slice none 0 0):=by simp [World.cell?,br]
 have lw:w.heap.size<X.heap.size:=by omega
 have lr:w.heap.size+1<X.heap.size:=by omega
 obtain ⟨yn,hyn⟩:∃ yn,yn=y.es.length:=⟨_,rfl⟩
 obtain ⟨ln,hln⟩:∃ ln,ln=ls.length:=⟨_,rfl⟩
 have HN:Aside (yn=y.es.length∧ln=ls.length):=⟨hyn,hln⟩
 have HX:Aside ((w.alloc (.cells #[.slice y.ad yn y.cap,.slice pl ln cl] 26)).alloc (.cells #[.slice none 0 0,.slice none 0 0] 26)=X):=by rw [hyn,hln];exact hX
 rw [← hyn] at q0
 rw [← hln] at q1 hcp
 rw [← hyn,← hln]
 have hy80':yn≤80:=by omega
 have n0:=World.new_ne X ⟨w.heap.size,0,none⟩ q0
 have n1:=World.new_ne X ⟨w.heap.size+1,0,none⟩ r0
 clear hUn hBX hX bx br hyn hln hsX hl80 hy80
 have hgoA:True:=trivial
 have hgoC:True:=trivial
 go_enter Tryz.func39,Tryz.ntmps39
 go_wp2
 rw [HX.out]
 go_region_law (first
  | (refine qF rfl _ _ rfl X.heap.size (by first | (simp [Act.eval];done) | fail) (by first | exact heap_alloc_last X _ | fail) y.ad yn y.cap y.es (by first | (simp [Act.eval];done) | fail) HN.out.1 (by first | exact hla _ (((Grown.refl X).alloc _).below.drew) | fail) hupn hy80' ?_;clear hgoA;intro g c w4 hO hg hB4 hk4;have HO4:Aside (Own w4 g c y.es∧X.heap.size≤g):=⟨hO,hg⟩;have hX4:Below X.heap.size X w4:=(((Below.refl _ _).alloc (Nat.le_refl _) _).drew).trans hB4;have m1:=(hX4.cell (p:=⟨w.heap.size,1,none⟩) lw).trans q1;clear hO hg hB4 hk4;have hord1:True:=trivial)
  | (go_simp;go_at_call 57;refine (hcp _ (Below.refl _ _).drew).mono ?_;clear hcp hgoC;rintro r w3 ⟨⟨v8,lo,rfl,hR8,hm8,hL8⟩,hN8⟩;obtain ⟨p8,c8,hv8,_⟩:=hR8.vB;subst hv8;obtain ⟨l8,hl8⟩:∃ l8,l8=lo.length:=⟨_,rfl⟩;have HL8:Aside (l8=lo.length):=hl8;rw [← hl8] at hR8 ⊢;clear hl8;have hX3:Below X.heap.size X w3:=((Below.refl _ _).drew).trans hN8;have m0:=(hX3.cell (p:=⟨w.heap.size,0,none⟩) lw).trans q0;have H8:Aside (aX w3 X.heap.size (.slice p8 l8 c8) lo∧lo.map (·.es)=ls.map (·.es)∧∀ x∈lo,jo X.heap.size w3 x):=⟨hR8,hm8,hL8⟩;clear hR8 hm8 hL8 hN8;have n3:=World.new_ne w3 ⟨w.heap.size,0,none⟩ m0;have hord3:True:=trivial)
  | (go_simp;go_at_call 57;refine (hcp _ (((Grown.refl X).alloc _).below.drew)).mono ?_;clear hcp hgoC;rintro r w3 ⟨⟨v8,lo,rfl,hR8,hm8,hL8⟩,hN8⟩;obtain ⟨p8,c8,hv8,_⟩:=hR8.vB;subst hv8;obtain ⟨l8,hl8⟩:∃ l8,l8=lo.length:=⟨_,rfl⟩;have HL8:Aside (l8=lo.length):=hl8;rw [← hl8] at hR8 ⊢;clear hl8;have hX3:Below X.heap.size X w3:=Below.onto (((Grown.refl X).alloc _).below.drew) hN8;have m0:=(hX3.cell (p:=⟨w.heap.size,0,none⟩) lw).trans q0;have H8:Aside (aX w3 (X.heap.size+1) (.slice p8 l8 c8) lo∧lo.map (·.es)=ls.map (·.es)∧(∀ x∈lo,jo (X.heap.size+1) w3 x)∧w3.heap[X.heap.size]?=some (.cells #[] 53)):=⟨by simpa using hR8,hm8,by simpa using hL8,(hN8.block _ (by show X.heap.size<(X.alloc _).heap.size;simp)).trans (heap_alloc_last X _)⟩;clear hR8 hm8 hL8 hN8;have hord2:True:=trivial)
  | (clear hord1;go_simp;go_at_call 57;refine (hcp _ hX4).mono ?_;clear hcp hgoC;rintro r w8 ⟨⟨v8,lo,rfl,hR8,hm8,hL8⟩,hN8⟩;obtain ⟨p8,c8,hv8,_⟩:=hR8.vB;subst hv8;obtain ⟨l8,hl8⟩:∃ l8,l8=lo.length:=⟨_,rfl⟩;have HL8:Aside (l8=lo.length):=hl8;rw [← hl8] at hR8 ⊢;clear hl8;have hX8:Below X.heap.size X w8:=Below.onto hX4 hN8;have H8:Aside (aX w8 X.heap.size (.slice p8 l8 c8) lo∧lo.map (·.es)=ls.map (·.es)∧(∀ x∈lo,jo X.heap.size w8 x)∧Own w8 g c y.es∧X.heap.size≤g):=⟨hR8.mono hX4.size,hm8,fun x hx=>(by obtain ⟨b,e1,e2,e3⟩:=hL8 x hx;exact ⟨b,e1,e2,Nat.le_trans hX4.size e3⟩),HO4.out.1.below hN8 HO4.out.1.lt,HO4.out.2⟩;clear hR8 hm8 hL8 hN8 HO4;have k8:w8.heap[w.heap.size+1]?=some (.cells #[.slice none 0 0,.slice none 0 0] 26):=(hX8.block _ lr).trans HU.out.2.2.2.2.2.2.2;have x0:w8.cell? ⟨w.heap.size+1,0,none⟩=some (.slice none 0 0):=(by simp [World.cell?,k8]);have x1:w8.cell? ⟨w.heap.size+1,1,none⟩=some (.slice none 0 0):=(by simp [World.cell?,k8]);have f0:w8.frozen? ⟨w.heap.size+1,0,none⟩=false:=(by simp [World.frozen?,k8]);have f1:w8.frozen? ⟨w.heap.size+1,1,none⟩=false:=(by simp [World.frozen?,k8]);have HX8:Aside (Below X.heap.size X w8):=hX8;clear hX8 k8)
  | (clear hord2;refine qF rfl _ _ rfl X.heap.size (by first | (simp [Act.eval];done) | fail) (by first | exact H8.out.2.2.2 | fail) y.ad yn y.cap y.es (by first | (simp [Act.eval];done) | fail) HN.out.1 (by first | exact hla _ hX3 | fail) hupn hy80' ?_;clear hgoA;intro g c w8 hO hg hB4 hk4;have hX8:Below X.heap.size X w8:=hX3.trans hB4;have H9:Aside (aX w8 X.heap.size (.slice p8 l8 c8) lo∧lo.map (·.es)=ls.map (·.es)∧(∀ x∈lo,jo X.heap.size w8 x)∧Own w8 g c y.es∧X.heap.size≤g):=⟨(H8.out.1.at (fun b h1 h2=>hk4 b h2 (by omega))).mono (by omega),H8.out.2.1,fun x hx=>(by obtain ⟨b,e1,e2,e3⟩:=H8.out.2.2.1 x hx;exact ⟨b,e1,e2.kept (hk4 b e2.lt (by omega)),by omega⟩),hO,hg⟩;clear H8;have H8:=H9;clear H9 hO hg hB4 hk4;have k8:w8.heap[w.heap.size+1]?=some (.cells #[.slice none 0 0,.slice none 0 0] 26):=(hX8.block _ lr).trans HU.out.2.2.2.2.2.2.2;have x0:w8.cell? ⟨w.heap.size+1,0,none⟩=some (.slice none 0 0):=(by simp [World.cell?,k8]);have x1:w8.cell? ⟨w.heap.size+1,1,none⟩=some (.slice none 0 0):=(by simp [World.cell?,k8]);have f0:w8.frozen? ⟨w.heap.size+1,0,none⟩=false:=(by simp [World.frozen?,k8]);have f1:w8.frozen? ⟨w.heap.size+1,1,none⟩=false:=(by simp [World.frozen?,k8]);have HX8:Aside (Below X.heap.size X w8):=hX8;clear hX8 k8)
  | (clear hord3;refine qF rfl _ _ rfl w3.heap.size (by first | (simp [Act.eval];done) | fail) (by first | exact heap_alloc_last w3 _ | fail) y.ad yn y.cap y.es (by first | (simp [Act.eval];done) | fail) HN.out.1 (by first | exact hla _ (Below.onto hX3 ((Grown.refl w3).alloc _).below) | fail) hupn hy80' ?_;clear hgoA;intro g c w8 hO hg hB4 hk4;have hN8:Below w3.heap.size w3 w8:=((Below.refl _ _).alloc (Nat.le_refl _) _).trans hB4;have hX8:Below X.heap.size X w8:=Below.onto hX3 hN8;have H9:Aside (aX w8 X.heap.size (.slice p8 l8 c8) lo∧lo.map (·.es)=ls.map (·.es)∧(∀ x∈lo,jo X.heap.size w8 x)∧Own w8 g c y.es∧X.heap.size≤g):=⟨H8.out.1.below hN8,H8.out.2.1,fun x hx=>(by obtain ⟨b,e1,e2,e3⟩:=H8.out.2.2 x hx;exact ⟨b,e1,e2.below hN8 e2.lt,e3⟩),hO,Nat.le_trans hX3.size hg⟩;clear H8;have H8:=H9;clear H9 hO hg hB4 hk4 hN8;have k8:w8.heap[w.heap.size+1]?=some (.cells #[.slice none 0 0,.slice none 0 0] 26):=(hX8.block _ lr).trans HU.out.2.2.2.2.2.2.2;have x0:w8.cell? ⟨w.heap.size+1,0,none⟩=some (.slice none 0 0):=(by simp [World.cell?,k8]);have x1:w8.cell? ⟨w.heap.size+1,1,none⟩=some (.slice none 0 0):=(by simp [World.cell?,k8]);have f0:w8.frozen? ⟨w.heap.size+1,0,none⟩=false:=(by simp [World.frozen?,k8]);have f1:w8.frozen? ⟨w.heap.size+1,1,none⟩=false:=(by simp [World.frozen?,k8]);have HX8:Aside (Below X.heap.size X w8):=hX8;clear hX8 k8))
 all_goals
  go_wp2
  obtain ⟨s0,s1⟩:=pI (.slice (some ⟨g,0,none⟩) yn c) (.slice p8 l8 c8) x0 x1
  refine bodyPost_ret (v:=.agg #[.slice (some ⟨g,0,none⟩) yn c,.slice p8 l8 c8]) (by simp [results,Tryz.results39,go_sem,s0,s1]) rfl ?_
  obtain ⟨u1,u2,u3,u4,u5,u6,u7,u8⟩:=HU.out
  obtain ⟨a1,a2,a3,a4,a5⟩:=H8.out
  have hR:aX w8 X.heap.size (.slice p8 l8 c8) lo:=a1
  exact (FR (ls:=ls) (by rw [u3,← u6];exact HX8.out) a4 (by omega) hR (by omega) a2 a3 u1.up.fits u5 u4 (fun x hx=>(u1.each x hx).1.fits) HN.out.1 HL8.out _ _).copy
end Go.Proofs.YthfeoiffoeagkaaGreatDoor
