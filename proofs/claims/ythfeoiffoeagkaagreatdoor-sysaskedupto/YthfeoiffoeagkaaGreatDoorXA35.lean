/-
  (*sys.system).stepOfNumber, whole, and stepOf.
-/
import Derived.Test.YthfeoiffoeagkaaGreatDoorXA34
namespace Go.Proofs.YthfeoiffoeagkaaGreatDoor
open Go.RowKit PM Go.Sort
set_option linter.unusedVariables false
set_option maxRecDepth 100000 in
theorem Db {base : Nat} {W : World} {S : Nat} {s s' : Sy} {an : An} {L : Lay6} (h : aj base W S s L) (o : Nat) (ho4 : o < 4) (ck cf cn cm : Int) (cp ct cx : ByteArray) (ca : Bool) (hf : cf < 0) :
  Calls Tryz.prog 91 #[.pointer (some ⟨S,0,none⟩),.agg #[.int .i64 ck,.int .i64 o,.int .i64 cf,.int .i64 cn,.int .i64 cm,.string cp,.string ct,.string cx,.bool ca]] W (au base S s L 6 s' an W):=by
 obtain ⟨X,hX⟩ : ∃ X,W.alloc (.cells #[.int .i64 ck,.int .i64 o,.int .i64 cf,.int .i64 cn,.int .i64 cm,.string cp,.string ct,.string cx,.bool ca] 50) = X:=⟨_,rfl⟩
 have hBX : Below W.heap.size W X:=by rw [← hX];exact ((Grown.refl W).alloc _).below
 have hbk : X.heap[W.heap.size]? = some (.cells #[.int .i64 ck,.int .i64 o,.int .i64 cf,.int .i64 cn,.int .i64 cm,.string cp,.string ct,.string cx,.bool ca] 50):=by rw [← hX];exact heap_alloc_last W _
 have hbase : base ≤ W.heap.size:=Nat.le_trans h.base.1 (Nat.le_of_lt h.lt)
 have hk:=h.kept hBX
 have HX : Aside (W.alloc (.cells #[.int .i64 ck,.int .i64 o,.int .i64 cf,.int .i64 cn,.int .i64 cm,.string cp,.string ct,.string cx,.bool ca] 50) = X):=hX
 have HB : Aside (Below W.heap.size W X):=hBX
 have k0 : X.cell? ⟨W.heap.size,0,none⟩ = some (.int .i64 ck):=by simp [World.cell?,hbk]
 have k1 : X.cell? ⟨W.heap.size,1,none⟩ = some (.int .i64 o):=by simp [World.cell?,hbk]
 have k2 : X.cell? ⟨W.heap.size,2,none⟩ = some (.int .i64 cf):=by simp [World.cell?,hbk]
 have k3 : X.cell? ⟨W.heap.size,3,none⟩ = some (.int .i64 cn):=by simp [World.cell?,hbk]
 have k4 : X.cell? ⟨W.heap.size,4,none⟩ = some (.int .i64 cm):=by simp [World.cell?,hbk]
 have k5 : X.cell? ⟨W.heap.size,5,none⟩ = some (.string cp):=by simp [World.cell?,hbk]
 have k6 : X.cell? ⟨W.heap.size,6,none⟩ = some (.string ct):=by simp [World.cell?,hbk]
 have k7 : X.cell? ⟨W.heap.size,7,none⟩ = some (.string cx):=by simp [World.cell?,hbk]
 have k8 : X.cell? ⟨W.heap.size,8,none⟩ = some (.bool ca):=by simp [World.cell?,hbk]
 have ho4z : (o : Int) < 4:=by omega
 have d1 : decide (cf < 0) = true:=by simpa using hf
 clear h hk hbk hX hBX
 go_enter Tryz.func91,Tryz.ntmps91
 go_wp2
 rw [HX.out]
 go_quiet (fail)
 go_wp2
 go_quiet (fail)
 go_wp2
 go_ret2
 exact au.no _ (by decide) (Below.onto HB.out (below_drewN (below_drewN (Below.refl _ _) _) _))
set_option maxRecDepth 100000 in
theorem Aq {base : Nat} {W : World} {S : Nat} {s s' : Sy} {an : An} {L : Lay6} (h : aj base W S s L) (o : Nat) (ho4 : o < 4) (ck cf cn cm : Int) (cp ct cx : ByteArray) (ca : Bool) (hf0 : ¬ cf < 0) (hf : 8 ≤ cf) :
  Calls Tryz.prog 91 #[.pointer (some ⟨S,0,none⟩),.agg #[.int .i64 ck,.int .i64 o,.int .i64 cf,.int .i64 cn,.int .i64 cm,.string cp,.string ct,.string cx,.bool ca]] W (au base S s L 6 s' an W):=by
 obtain ⟨X,hX⟩ : ∃ X,W.alloc (.cells #[.int .i64 ck,.int .i64 o,.int .i64 cf,.int .i64 cn,.int .i64 cm,.string cp,.string ct,.string cx,.bool ca] 50) = X:=⟨_,rfl⟩
 have hBX : Below W.heap.size W X:=by rw [← hX];exact ((Grown.refl W).alloc _).below
 have hbk : X.heap[W.heap.size]? = some (.cells #[.int .i64 ck,.int .i64 o,.int .i64 cf,.int .i64 cn,.int .i64 cm,.string cp,.string ct,.string cx,.bool ca] 50):=by rw [← hX];exact heap_alloc_last W _
 have hbase : base ≤ W.heap.size:=Nat.le_trans h.base.1 (Nat.le_of_lt h.lt)
 have hk:=h.kept hBX
 have HX : Aside (W.alloc (.cells #[.int .i64 ck,.int .i64 o,.int .i64 cf,.int .i64 cn,.int .i64 cm,.string cp,.string ct,.string cx,.bool ca] 50) = X):=hX
 have HB : Aside (Below W.heap.size W X):=hBX
 have k0 : X.cell? ⟨W.heap.size,0,none⟩ = some (.int .i64 ck):=by simp [World.cell?,hbk]
 have k1 : X.cell? ⟨W.heap.size,1,none⟩ = some (.int .i64 o):=by simp [World.cell?,hbk]
 have k2 : X.cell? ⟨W.heap.size,2,none⟩ = some (.int .i64 cf):=by simp [World.cell?,hbk]
 have k3 : X.cell? ⟨W.heap.size,3,none⟩ = some (.int .i64 cn):=by simp [World.cell?,hbk]
 have k4 : X.cell? ⟨W.heap.size,4,none⟩ = some (.int .i64 cm):=by simp [World.cell?,hbk]
 have k5 : X.cell? ⟨W.heap.size,5,none⟩ = some (.string cp):=by simp [World.cell?,hbk]
 have k6 : X.cell? ⟨W.heap.size,6,none⟩ = some (.string ct):=by simp [World.cell?,hbk]
 have k7 : X.cell? ⟨W.heap.size,7,none⟩ = some (.string cx):=by simp [World.cell?,hbk]
 have k8 : X.cell? ⟨W.heap.size,8,none⟩ = some (.bool ca):=by simp [World.cell?,hbk]
 have ho4z : (o : Int) < 4:=by omega
 have d1 : decide (cf < 0) = false:=by simpa using hf0
 have d2 : decide (8 ≤ cf) = true:=by simpa using hf
 clear h hk hbk hX hBX
 go_enter Tryz.func91,Tryz.ntmps91
 go_wp2
 rw [HX.out]
 go_quiet (fail)
 go_wp2
 go_quiet (fail)
 go_wp2
 go_ret2
 exact au.no _ (by decide) (Below.onto HB.out (below_drewN (below_drewN (Below.refl _ _) _) _))
set_option maxRecDepth 100000 in
theorem Ce {base : Nat} {W : World} {S : Nat} {s s' : Sy} {an : An} {L : Lay6} (h : aj base W S s L) (o k : Nat) (ho4 : o < 4) (hk8 : k < 8) (ck cn cm : Int) (cp ct cx : ByteArray) (ca : Bool) (hfd : s.fds (o * 8 + k) = none) :
  Calls Tryz.prog 91 #[.pointer (some ⟨S,0,none⟩),.agg #[.int .i64 ck,.int .i64 o,.int .i64 k,.int .i64 cn,.int .i64 cm,.string cp,.string ct,.string cx,.bool ca]] W (au base S s L 6 s' an W):=by
 obtain ⟨X,hX⟩ : ∃ X,W.alloc (.cells #[.int .i64 ck,.int .i64 o,.int .i64 k,.int .i64 cn,.int .i64 cm,.string cp,.string ct,.string cx,.bool ca] 50) = X:=⟨_,rfl⟩
 have hBX : Below W.heap.size W X:=by rw [← hX];exact ((Grown.refl W).alloc _).below
 have hbk : X.heap[W.heap.size]? = some (.cells #[.int .i64 ck,.int .i64 o,.int .i64 k,.int .i64 cn,.int .i64 cm,.string cp,.string ct,.string cx,.bool ca] 50):=by rw [← hX];exact heap_alloc_last W _
 have hbase : base ≤ W.heap.size:=Nat.le_trans h.base.1 (Nat.le_of_lt h.lt)
 have hk:=h.kept hBX
 have HX : Aside (W.alloc (.cells #[.int .i64 ck,.int .i64 o,.int .i64 k,.int .i64 cn,.int .i64 cm,.string cp,.string ct,.string cx,.bool ca] 50) = X):=hX
 have HB : Aside (Below W.heap.size W X):=hBX
 have k0 : X.cell? ⟨W.heap.size,0,none⟩ = some (.int .i64 ck):=by simp [World.cell?,hbk]
 have k1 : X.cell? ⟨W.heap.size,1,none⟩ = some (.int .i64 o):=by simp [World.cell?,hbk]
 have k2 : X.cell? ⟨W.heap.size,2,none⟩ = some (.int .i64 k):=by simp [World.cell?,hbk]
 have k3 : X.cell? ⟨W.heap.size,3,none⟩ = some (.int .i64 cn):=by simp [World.cell?,hbk]
 have k4 : X.cell? ⟨W.heap.size,4,none⟩ = some (.int .i64 cm):=by simp [World.cell?,hbk]
 have k5 : X.cell? ⟨W.heap.size,5,none⟩ = some (.string cp):=by simp [World.cell?,hbk]
 have k6 : X.cell? ⟨W.heap.size,6,none⟩ = some (.string ct):=by simp [World.cell?,hbk]
 have k7 : X.cell? ⟨W.heap.size,7,none⟩ = some (.string cx):=by simp [World.cell?,hbk]
 have k8 : X.cell? ⟨W.heap.size,8,none⟩ = some (.bool ca):=by simp [World.cell?,hbk]
 have c3:=hk.fd (k:=o * 8 + k) (by omega)
 have c3 : X.cell? ⟨S,3 + o * 8 + k,none⟩ = some (.pointer none):=by rw [Nat.add_assoc,hfd] at *;exact c3
 have ho4z : (o : Int) < 4:=by omega
 have hk8z : (k : Int) < 8:=by omega
 have d1 : decide ((k : Int) < 0) = false:=by simp
 have d2 : decide ((8 : Int) ≤ (k : Int)) = false:=by simpa using hk8z
 clear h hk hbk hX hBX hfd
 go_enter Tryz.func91,Tryz.ntmps91
 go_wp2
 rw [HX.out]
 go_quiet (fail)
 go_wp2
 go_quiet (fail)
 go_wp2
 go_ret2
 exact au.no _ (by decide) (Below.onto HB.out (below_drewN (below_drewN (Below.refl _ _) _) _))
namespace PM
def jm : An:=ans 0 ⟨#[]⟩
noncomputable def Sy.numR (s : Sy) (ow : Nat) (ck cf cn cm : Int) (cx : ByteArray) (ca : Bool) : Int × Sy × An :=
 if cf < 0 ∨ 8 ≤ cf then (6,s,jm) else match s.fds (ow * 8 + cf.toNat) with
  | none => (6,s,jm)
  | some j => match s.opens[j]? with
   | none => (6,s,jm)
   | some op => match s.files[op.file]? with
    | none => (6,s,jm)
    | some f => s.onR ow cf.toNat ck cn cm cx ca j op f
end PM
theorem DL {base : Nat} {W : World} {S : Nat} {s : Sy} {L : Lay6} (h : aj base W S s L) (hg : Gl base W) (hc : s.Calm) (o : Nat) (ho4 : o < 4) (ck cf cn cm : Int) (cp ct cx : ByteArray) (ca : Bool) (hx : cx.size ≤ 1048576) :
  Calls Tryz.prog 91 #[.pointer (some ⟨S,0,none⟩),.agg #[.int .i64 ck,.int .i64 o,.int .i64 cf,.int .i64 cn,.int .i64 cm,.string cp,.string ct,.string cx,.bool ca]] W (fun r w' => au base S s L (s.numR o ck cf cn cm cx ca).1 (s.numR o ck cf cn cm cx ca).2.1 (s.numR o ck cf cn cm cx ca).2.2 W r w'):=by
 unfold Sy.numR
 by_cases h1 : cf < 0
 ·rw [if_pos (.inl h1)];exact Db h o ho4 ck cf cn cm cp ct cx ca h1
 by_cases h2 : 8 ≤ cf
 ·rw [if_pos (.inr h2)];exact Aq h o ho4 ck cf cn cm cp ct cx ca h1 h2
 rw [if_neg (by omega)]
 obtain ⟨k,rfl⟩ : ∃ k : Nat,cf = k:=⟨cf.toNat,by omega⟩
 have hk8 : k < 8:=by omega
 rw [show ((k : Int)).toNat = k from rfl]
 cases hfd : s.fds (o * 8 + k) with
 | none => exact Ce h o k ho4 hk8 ck cn cm cp ct cx ca hfd
 | some j =>
  have hj:=h.val1 _ _ hfd
  have hop : s.opens[j]? = some s.opens[j]:=List.getElem?_eq_getElem hj
  have hfl:=h.val2 _ (List.getElem_mem hj)
  have hff : s.files[s.opens[j].file]? = some s.files[s.opens[j].file]:=List.getElem?_eq_getElem hfl
  simp only [hop,hff]
  exact Ay h hg o k ho4 hk8 ck cn cm cp ct cx ca hx j _ _ ⟨hfd,hop,hff⟩ hc
namespace PM
noncomputable def Sy.eT (s : Sy) (c : Cl) : Int × Sy × An :=
 if c.kind < 1 ∨ 16 < c.kind then (1,s,jm)
 else if c.owner < 0 ∨ 4 ≤ c.owner then (3,s,jm)
 else if c.kind = 1 then (s.gu c.owner.toNat c.n c.path,s.iY c.owner.toNat c.n c.path,ans (s.aQ c.owner.toNat) ⟨#[]⟩)
 else if c.kind = 6 then (s.eB c.path 2 ⟨#[]⟩,s.aC (aF s.up (s.dV c.path 2 ⟨#[]⟩)) s.lows,jm)
 else if c.kind = 10 then (s.eB c.path 3 c.to,s.aC (aF s.up (s.dV c.path 3 c.to)) s.lows,jm)
 else if c.kind = 7 ∨ c.kind = 8 then (s.gX c.kind c.path,s.rmDo c.path,jm)
 else if c.kind = 9 then (s.fQ c.path c.to,s.gW c.path c.to,jm)
 else if c.kind = 11 then (s.qc c.path,s,s.nK c.path)
 else if c.kind = 12 then (s.qb c.path,s,s.qp c.path)
 else s.numR c.owner.toNat c.kind c.fd c.n c.m c.text c.alone
structure Sy.Fine (s : Sy) : Prop where
 un : (aA s.all).1 = 0
 calm : s.Calm
 short : ∀ i ∈ s.reach,∀ f,s.files[i]? = some f → f.path.size ≤ 80
structure Cl.Small (c : Cl) : Prop where
 path : c.path.size ≤ 1048576
 dst : c.to.size ≤ 1048576
 text : c.text.size ≤ 1048576
end PM
theorem Ba {base : Nat} {W : World} {S : Nat} {s s' : Sy} {an : An} {L : Lay6} (h : aj base W S s L) (ck co cf cn cm : Int) (cp ct cx : ByteArray) (ca : Bool) (hk : ck < 1 ∨ 16 < ck) :
  Calls Tryz.prog 58 #[.pointer (some ⟨S,0,none⟩),.agg #[.int .i64 ck,.int .i64 co,.int .i64 cf,.int .i64 cn,.int .i64 cm,.string cp,.string ct,.string cx,.bool ca]] W (au base S s L 1 s' an W):=by
 have HB : Aside (Below W.heap.size W (W.alloc (.cells #[.int .i64 ck,.int .i64 co,.int .i64 cf,.int .i64 cn,.int .i64 cm,.string cp,.string ct,.string cx,.bool ca] 50))):=((Grown.refl W).alloc _).below
 clear h
 rcases hk with hk | hk
 ·go_enter Tryz.func58,Tryz.ntmps58
  go_wp2
  go_ret2
  exact au.no _ (by decide) HB.out
 ·have h2 : ¬ ck < 1:=by omega
  go_enter Tryz.func58,Tryz.ntmps58
  go_wp2
  go_ret2
  exact au.no _ (by decide) HB.out
theorem Ao {base : Nat} {W : World} {S : Nat} {s s' : Sy} {an : An} {L : Lay6} (h : aj base W S s L) (ck co cf cn cm : Int) (cp ct cx : ByteArray) (ca : Bool) (hk0 : ¬ ck < 1) (hk1 : ¬ 16 < ck) (hk : co < 0 ∨ 4 ≤ co) :
  Calls Tryz.prog 58 #[.pointer (some ⟨S,0,none⟩),.agg #[.int .i64 ck,.int .i64 co,.int .i64 cf,.int .i64 cn,.int .i64 cm,.string cp,.string ct,.string cx,.bool ca]] W (au base S s L 3 s' an W):=by
 have HB : Aside (Below W.heap.size W (W.alloc (.cells #[.int .i64 ck,.int .i64 co,.int .i64 cf,.int .i64 cn,.int .i64 cm,.string cp,.string ct,.string cx,.bool ca] 50))):=((Grown.refl W).alloc _).below
 clear h
 rcases hk with hk | hk
 ·go_enter Tryz.func58,Tryz.ntmps58
  go_wp2
  go_ret2
  exact au.no _ (by decide) HB.out
 ·have h2 : ¬ co < 0:=by omega
  go_enter Tryz.func58,Tryz.ntmps58
  go_wp2
  go_ret2
  exact au.no _ (by decide) HB.out
set_option maxRecDepth 100000 in
set_option maxHeartbeats 1000000 in
theorem Gn {base : Nat} {W : World} {S : Nat} {s : Sy} {L : Lay6} (h : aj base W S s L) (hg : Gl base W) (hf : s.Fine) (o : Nat) (ho4 : o < 4) (cf cn cm : Int) (cp ct cx : ByteArray) (ca : Bool) (hp : cp.size ≤ 1048576) (ht : ct.size ≤ 1048576) :
  Calls Tryz.prog 58 #[.pointer (some ⟨S,0,none⟩),.agg #[.int .i64 1,.int .i64 o,.int .i64 cf,.int .i64 cn,.int .i64 cm,.string cp,.string ct,.string cx,.bool ca]] W (au base S s L (s.gu o cn cp) (s.iY o cn cp) (ans (s.aQ o) ⟨#[]⟩) W):=by
 obtain ⟨X,hX⟩ : ∃ X,W.alloc (.cells #[.int .i64 1,.int .i64 o,.int .i64 cf,.int .i64 cn,.int .i64 cm,.string cp,.string ct,.string cx,.bool ca] 50) = X:=⟨_,rfl⟩
 have hBX : Below W.heap.size W X:=by rw [← hX];exact ((Grown.refl W).alloc _).below
 have hbk : X.heap[W.heap.size]? = some (.cells #[.int .i64 1,.int .i64 o,.int .i64 cf,.int .i64 cn,.int .i64 cm,.string cp,.string ct,.string cx,.bool ca] 50):=by rw [← hX];exact heap_alloc_last W _
 have hbase : base ≤ W.heap.size:=Nat.le_trans h.base.1 (Nat.le_of_lt h.lt)
 have hk:=h.kept hBX
 have HX : Aside (W.alloc (.cells #[.int .i64 1,.int .i64 o,.int .i64 cf,.int .i64 cn,.int .i64 cm,.string cp,.string ct,.string cx,.bool ca] 50) = X):=hX
 have HB : Aside (Below W.heap.size W X):=hBX
 have hgX:=hg.kept (hBX.mono hbase)
 have ho4z : (o : Int) < 4:=by omega
 have hF:=AO hk hgX hf.un o (by omega) 1 cf cn cm cp ct cx ca (by unfold maxLen;omega)
 clear h hg hf hk hgX hbk hX hBX
 go_enter Tryz.func58,Tryz.ntmps58
 go_wp2_with (go_at_call 85;rw [HX.out];refine hF.mono ?_;clear hF;intro r w5 hS;obtain ⟨v,rfl,HS⟩:=hS.parts HB.out;clear hS)
 go_ret2
 exact HS.out
set_option maxRecDepth 100000 in
set_option maxHeartbeats 1000000 in
theorem Ii {base : Nat} {W : World} {S : Nat} {s : Sy} {L : Lay6} (h : aj base W S s L) (hg : Gl base W) (hf : s.Fine) (o : Nat) (ho4 : o < 4) (cf cn cm : Int) (cp ct cx : ByteArray) (ca : Bool) (hp : cp.size ≤ 1048576) (ht : ct.size ≤ 1048576) :
  Calls Tryz.prog 58 #[.pointer (some ⟨S,0,none⟩),.agg #[.int .i64 6,.int .i64 o,.int .i64 cf,.int .i64 cn,.int .i64 cm,.string cp,.string ct,.string cx,.bool ca]] W (au base S s L (s.eB cp 2 ⟨#[]⟩) (s.aC (aF s.up (s.dV cp 2 ⟨#[]⟩)) s.lows) jm W):=by
 obtain ⟨X,hX⟩ : ∃ X,W.alloc (.cells #[.int .i64 6,.int .i64 o,.int .i64 cf,.int .i64 cn,.int .i64 cm,.string cp,.string ct,.string cx,.bool ca] 50) = X:=⟨_,rfl⟩
 have hBX : Below W.heap.size W X:=by rw [← hX];exact ((Grown.refl W).alloc _).below
 have hbk : X.heap[W.heap.size]? = some (.cells #[.int .i64 6,.int .i64 o,.int .i64 cf,.int .i64 cn,.int .i64 cm,.string cp,.string ct,.string cx,.bool ca] 50):=by rw [← hX];exact heap_alloc_last W _
 have hbase : base ≤ W.heap.size:=Nat.le_trans h.base.1 (Nat.le_of_lt h.lt)
 have hk:=h.kept hBX
 have HX : Aside (W.alloc (.cells #[.int .i64 6,.int .i64 o,.int .i64 cf,.int .i64 cn,.int .i64 cm,.string cp,.string ct,.string cx,.bool ca] 50) = X):=hX
 have HB : Aside (Below W.heap.size W X):=hBX
 have hgX:=hg.kept (hBX.mono hbase)
 have ho4z : (o : Int) < 4:=by omega
 have hF:=BI hk hgX cp 2 ⟨#[]⟩ (by unfold maxLen;omega) (by decide)
 clear h hg hf hk hgX hbk hX hBX
 go_enter Tryz.func58,Tryz.ntmps58
 go_wp2_with (go_at_call 86;rw [HX.out];refine hF.mono ?_;clear hF;intro r w5 hS;obtain ⟨v,rfl,HS⟩:=hS.parts HB.out;clear hS)
 go_ret2
 exact HS.out
set_option maxRecDepth 100000 in
set_option maxHeartbeats 1000000 in
theorem Er {base : Nat} {W : World} {S : Nat} {s : Sy} {L : Lay6} (h : aj base W S s L) (hg : Gl base W) (hf : s.Fine) (o : Nat) (ho4 : o < 4) (cf cn cm : Int) (cp ct cx : ByteArray) (ca : Bool) (hp : cp.size ≤ 1048576) (ht : ct.size ≤ 1048576) :
  Calls Tryz.prog 58 #[.pointer (some ⟨S,0,none⟩),.agg #[.int .i64 10,.int .i64 o,.int .i64 cf,.int .i64 cn,.int .i64 cm,.string cp,.string ct,.string cx,.bool ca]] W (au base S s L (s.eB cp 3 ct) (s.aC (aF s.up (s.dV cp 3 ct)) s.lows) jm W):=by
 obtain ⟨X,hX⟩ : ∃ X,W.alloc (.cells #[.int .i64 10,.int .i64 o,.int .i64 cf,.int .i64 cn,.int .i64 cm,.string cp,.string ct,.string cx,.bool ca] 50) = X:=⟨_,rfl⟩
 have hBX : Below W.heap.size W X:=by rw [← hX];exact ((Grown.refl W).alloc _).below
 have hbk : X.heap[W.heap.size]? = some (.cells #[.int .i64 10,.int .i64 o,.int .i64 cf,.int .i64 cn,.int .i64 cm,.string cp,.string ct,.string cx,.bool ca] 50):=by rw [← hX];exact heap_alloc_last W _
 have hbase : base ≤ W.heap.size:=Nat.le_trans h.base.1 (Nat.le_of_lt h.lt)
 have hk:=h.kept hBX
 have HX : Aside (W.alloc (.cells #[.int .i64 10,.int .i64 o,.int .i64 cf,.int .i64 cn,.int .i64 cm,.string cp,.string ct,.string cx,.bool ca] 50) = X):=hX
 have HB : Aside (Below W.heap.size W X):=hBX
 have hgX:=hg.kept (hBX.mono hbase)
 have ho4z : (o : Int) < 4:=by omega
 have hF:=BI hk hgX cp 3 ct (by unfold maxLen;omega) (by unfold maxLen;omega)
 clear h hg hf hk hgX hbk hX hBX
 go_enter Tryz.func58,Tryz.ntmps58
 go_wp2_with (go_at_call 86;rw [HX.out];refine hF.mono ?_;clear hF;intro r w5 hS;obtain ⟨v,rfl,HS⟩:=hS.parts HB.out;clear hS)
 go_ret2
 exact HS.out
set_option maxRecDepth 100000 in
set_option maxHeartbeats 1000000 in
theorem GR {base : Nat} {W : World} {S : Nat} {s : Sy} {L : Lay6} (h : aj base W S s L) (hg : Gl base W) (hf : s.Fine) (o : Nat) (ho4 : o < 4) (cf cn cm : Int) (cp ct cx : ByteArray) (ca : Bool) (hp : cp.size ≤ 1048576) (ht : ct.size ≤ 1048576) :
  Calls Tryz.prog 58 #[.pointer (some ⟨S,0,none⟩),.agg #[.int .i64 7,.int .i64 o,.int .i64 cf,.int .i64 cn,.int .i64 cm,.string cp,.string ct,.string cx,.bool ca]] W (au base S s L (s.gX 7 cp) (s.rmDo cp) jm W):=by
 obtain ⟨X,hX⟩ : ∃ X,W.alloc (.cells #[.int .i64 7,.int .i64 o,.int .i64 cf,.int .i64 cn,.int .i64 cm,.string cp,.string ct,.string cx,.bool ca] 50) = X:=⟨_,rfl⟩
 have hBX : Below W.heap.size W X:=by rw [← hX];exact ((Grown.refl W).alloc _).below
 have hbk : X.heap[W.heap.size]? = some (.cells #[.int .i64 7,.int .i64 o,.int .i64 cf,.int .i64 cn,.int .i64 cm,.string cp,.string ct,.string cx,.bool ca] 50):=by rw [← hX];exact heap_alloc_last W _
 have hbase : base ≤ W.heap.size:=Nat.le_trans h.base.1 (Nat.le_of_lt h.lt)
 have hk:=h.kept hBX
 have HX : Aside (W.alloc (.cells #[.int .i64 7,.int .i64 o,.int .i64 cf,.int .i64 cn,.int .i64 cm,.string cp,.string ct,.string cx,.bool ca] 50) = X):=hX
 have HB : Aside (Below W.heap.size W X):=hBX
 have hgX:=hg.kept (hBX.mono hbase)
 have ho4z : (o : Int) < 4:=by omega
 have hF:=rG hk hgX 7 o cf cn cm cp ct cx ca (by unfold maxLen;omega) hf.short (.inl rfl)
 clear h hg hf hk hgX hbk hX hBX
 go_enter Tryz.func58,Tryz.ntmps58
 go_wp2_with (go_at_call 87;rw [HX.out];refine hF.mono ?_;clear hF;intro r w5 hS;obtain ⟨v,rfl,HS⟩:=hS.parts HB.out;clear hS)
 go_ret2
 exact HS.out
set_option maxRecDepth 100000 in
set_option maxHeartbeats 1000000 in
theorem Gy {base : Nat} {W : World} {S : Nat} {s : Sy} {L : Lay6} (h : aj base W S s L) (hg : Gl base W) (hf : s.Fine) (o : Nat) (ho4 : o < 4) (cf cn cm : Int) (cp ct cx : ByteArray) (ca : Bool) (hp : cp.size ≤ 1048576) (ht : ct.size ≤ 1048576) :
  Calls Tryz.prog 58 #[.pointer (some ⟨S,0,none⟩),.agg #[.int .i64 8,.int .i64 o,.int .i64 cf,.int .i64 cn,.int .i64 cm,.string cp,.string ct,.string cx,.bool ca]] W (au base S s L (s.gX 8 cp) (s.rmDo cp) jm W):=by
 obtain ⟨X,hX⟩ : ∃ X,W.alloc (.cells #[.int .i64 8,.int .i64 o,.int .i64 cf,.int .i64 cn,.int .i64 cm,.string cp,.string ct,.string cx,.bool ca] 50) = X:=⟨_,rfl⟩
 have hBX : Below W.heap.size W X:=by rw [← hX];exact ((Grown.refl W).alloc _).below
 have hbk : X.heap[W.heap.size]? = some (.cells #[.int .i64 8,.int .i64 o,.int .i64 cf,.int .i64 cn,.int .i64 cm,.string cp,.string ct,.string cx,.bool ca] 50):=by rw [← hX];exact heap_alloc_last W _
 have hbase : base ≤ W.heap.size:=Nat.le_trans h.base.1 (Nat.le_of_lt h.lt)
 have hk:=h.kept hBX
 have HX : Aside (W.alloc (.cells #[.int .i64 8,.int .i64 o,.int .i64 cf,.int .i64 cn,.int .i64 cm,.string cp,.string ct,.string cx,.bool ca] 50) = X):=hX
 have HB : Aside (Below W.heap.size W X):=hBX
 have hgX:=hg.kept (hBX.mono hbase)
 have ho4z : (o : Int) < 4:=by omega
 have hF:=rG hk hgX 8 o cf cn cm cp ct cx ca (by unfold maxLen;omega) hf.short (.inr rfl)
 clear h hg hf hk hgX hbk hX hBX
 go_enter Tryz.func58,Tryz.ntmps58
 go_wp2_with (go_at_call 87;rw [HX.out];refine hF.mono ?_;clear hF;intro r w5 hS;obtain ⟨v,rfl,HS⟩:=hS.parts HB.out;clear hS)
 go_ret2
 exact HS.out
set_option maxRecDepth 100000 in
set_option maxHeartbeats 1000000 in
theorem GH {base : Nat} {W : World} {S : Nat} {s : Sy} {L : Lay6} (h : aj base W S s L) (hg : Gl base W) (hf : s.Fine) (o : Nat) (ho4 : o < 4) (cf cn cm : Int) (cp ct cx : ByteArray) (ca : Bool) (hp : cp.size ≤ 1048576) (ht : ct.size ≤ 1048576) :
  Calls Tryz.prog 58 #[.pointer (some ⟨S,0,none⟩),.agg #[.int .i64 9,.int .i64 o,.int .i64 cf,.int .i64 cn,.int .i64 cm,.string cp,.string ct,.string cx,.bool ca]] W (au base S s L (s.fQ cp ct) (s.gW cp ct) jm W):=by
 obtain ⟨X,hX⟩ : ∃ X,W.alloc (.cells #[.int .i64 9,.int .i64 o,.int .i64 cf,.int .i64 cn,.int .i64 cm,.string cp,.string ct,.string cx,.bool ca] 50) = X:=⟨_,rfl⟩
 have hBX : Below W.heap.size W X:=by rw [← hX];exact ((Grown.refl W).alloc _).below
 have hbk : X.heap[W.heap.size]? = some (.cells #[.int .i64 9,.int .i64 o,.int .i64 cf,.int .i64 cn,.int .i64 cm,.string cp,.string ct,.string cx,.bool ca] 50):=by rw [← hX];exact heap_alloc_last W _
 have hbase : base ≤ W.heap.size:=Nat.le_trans h.base.1 (Nat.le_of_lt h.lt)
 have hk:=h.kept hBX
 have HX : Aside (W.alloc (.cells #[.int .i64 9,.int .i64 o,.int .i64 cf,.int .i64 cn,.int .i64 cm,.string cp,.string ct,.string cx,.bool ca] 50) = X):=hX
 have HB : Aside (Below W.heap.size W X):=hBX
 have hgX:=hg.kept (hBX.mono hbase)
 have ho4z : (o : Int) < 4:=by omega
 have hF:=yw hk hgX cp ct (by unfold maxLen;omega) (by unfold maxLen;omega) hf.short
 clear h hg hf hk hgX hbk hX hBX
 go_enter Tryz.func58,Tryz.ntmps58
 go_wp2_with (go_at_call 88;rw [HX.out];refine hF.mono ?_;clear hF;intro r w5 hS;obtain ⟨v,rfl,HS⟩:=hS.parts HB.out;clear hS)
 go_ret2
 exact HS.out
set_option maxRecDepth 100000 in
set_option maxHeartbeats 1000000 in
theorem Fu {base : Nat} {W : World} {S : Nat} {s : Sy} {L : Lay6} (h : aj base W S s L) (hg : Gl base W) (hf : s.Fine) (o : Nat) (ho4 : o < 4) (cf cn cm : Int) (cp ct cx : ByteArray) (ca : Bool) (hp : cp.size ≤ 1048576) (ht : ct.size ≤ 1048576) :
  Calls Tryz.prog 58 #[.pointer (some ⟨S,0,none⟩),.agg #[.int .i64 11,.int .i64 o,.int .i64 cf,.int .i64 cn,.int .i64 cm,.string cp,.string ct,.string cx,.bool ca]] W (au base S s L (s.qc cp) s (s.nK cp) W):=by
 obtain ⟨X,hX⟩ : ∃ X,W.alloc (.cells #[.int .i64 11,.int .i64 o,.int .i64 cf,.int .i64 cn,.int .i64 cm,.string cp,.string ct,.string cx,.bool ca] 50) = X:=⟨_,rfl⟩
 have hBX : Below W.heap.size W X:=by rw [← hX];exact ((Grown.refl W).alloc _).below
 have hbk : X.heap[W.heap.size]? = some (.cells #[.int .i64 11,.int .i64 o,.int .i64 cf,.int .i64 cn,.int .i64 cm,.string cp,.string ct,.string cx,.bool ca] 50):=by rw [← hX];exact heap_alloc_last W _
 have hbase : base ≤ W.heap.size:=Nat.le_trans h.base.1 (Nat.le_of_lt h.lt)
 have hk:=h.kept hBX
 have HX : Aside (W.alloc (.cells #[.int .i64 11,.int .i64 o,.int .i64 cf,.int .i64 cn,.int .i64 cm,.string cp,.string ct,.string cx,.bool ca] 50) = X):=hX
 have HB : Aside (Below W.heap.size W X):=hBX
 have hgX:=hg.kept (hBX.mono hbase)
 have ho4z : (o : Int) < 4:=by omega
 have hF:=AX hk hgX cp (by unfold maxLen;omega)
 clear h hg hf hk hgX hbk hX hBX
 go_enter Tryz.func58,Tryz.ntmps58
 go_wp2_with (go_at_call 89;rw [HX.out];refine hF.mono ?_;clear hF;intro r w5 hS;obtain ⟨v,rfl,HS⟩:=hS.parts HB.out;clear hS)
 go_ret2
 exact HS.out
set_option maxRecDepth 100000 in
set_option maxHeartbeats 1000000 in
theorem Fh {base : Nat} {W : World} {S : Nat} {s : Sy} {L : Lay6} (h : aj base W S s L) (hg : Gl base W) (hf : s.Fine) (o : Nat) (ho4 : o < 4) (cf cn cm : Int) (cp ct cx : ByteArray) (ca : Bool) (hp : cp.size ≤ 1048576) (ht : ct.size ≤ 1048576) :
  Calls Tryz.prog 58 #[.pointer (some ⟨S,0,none⟩),.agg #[.int .i64 12,.int .i64 o,.int .i64 cf,.int .i64 cn,.int .i64 cm,.string cp,.string ct,.string cx,.bool ca]] W (au base S s L (s.qb cp) s (s.qp cp) W):=by
 obtain ⟨X,hX⟩ : ∃ X,W.alloc (.cells #[.int .i64 12,.int .i64 o,.int .i64 cf,.int .i64 cn,.int .i64 cm,.string cp,.string ct,.string cx,.bool ca] 50) = X:=⟨_,rfl⟩
 have hBX : Below W.heap.size W X:=by rw [← hX];exact ((Grown.refl W).alloc _).below
 have hbk : X.heap[W.heap.size]? = some (.cells #[.int .i64 12,.int .i64 o,.int .i64 cf,.int .i64 cn,.int .i64 cm,.string cp,.string ct,.string cx,.bool ca] 50):=by rw [← hX];exact heap_alloc_last W _
 have hbase : base ≤ W.heap.size:=Nat.le_trans h.base.1 (Nat.le_of_lt h.lt)
 have hk:=h.kept hBX
 have HX : Aside (W.alloc (.cells #[.int .i64 12,.int .i64 o,.int .i64 cf,.int .i64 cn,.int .i64 cm,.string cp,.string ct,.string cx,.bool ca] 50) = X):=hX
 have HB : Aside (Below W.heap.size W X):=hBX
 have hgX:=hg.kept (hBX.mono hbase)
 have ho4z : (o : Int) < 4:=by omega
 have hF:=Gz hk hgX cp (by unfold maxLen;omega)
 clear h hg hf hk hgX hbk hX hBX
 go_enter Tryz.func58,Tryz.ntmps58
 go_wp2_with (go_at_call 90;rw [HX.out];refine hF.mono ?_;clear hF;intro r w5 hS;obtain ⟨v,rfl,HS⟩:=hS.parts HB.out;clear hS)
 go_ret2
 exact HS.out
set_option maxRecDepth 100000 in
set_option maxHeartbeats 1000000 in
theorem Dp {base : Nat} {W : World} {S : Nat} {s : Sy} {L : Lay6} (h : aj base W S s L) (hg : Gl base W) (hf : s.Fine) (o : Nat) (ho4 : o < 4) (ck cf cn cm : Int) (cp ct cx : ByteArray) (ca : Bool) (hx : cx.size ≤ 1048576) (hk0 : ¬ ck < 1) (hk1 : ¬ 16 < ck) (e1 : ¬ ck = 1) (e6 : ¬ ck = 6) (e10 : ¬ ck = 10) (e7 : ¬ ck = 7) (e8 : ¬ ck = 8) (e9 : ¬ ck = 9) (e11 : ¬ ck = 11) (e12 : ¬ ck = 12) :
  Calls Tryz.prog 58 #[.pointer (some ⟨S,0,none⟩),.agg #[.int .i64 ck,.int .i64 o,.int .i64 cf,.int .i64 cn,.int .i64 cm,.string cp,.string ct,.string cx,.bool ca]] W (fun r w' => au base S s L (s.numR o ck cf cn cm cx ca).1 (s.numR o ck cf cn cm cx ca).2.1 (s.numR o ck cf cn cm cx ca).2.2 W r w'):=by
 obtain ⟨X,hX⟩ : ∃ X,W.alloc (.cells #[.int .i64 ck,.int .i64 o,.int .i64 cf,.int .i64 cn,.int .i64 cm,.string cp,.string ct,.string cx,.bool ca] 50) = X:=⟨_,rfl⟩
 have hBX : Below W.heap.size W X:=by rw [← hX];exact ((Grown.refl W).alloc _).below
 have hbk : X.heap[W.heap.size]? = some (.cells #[.int .i64 ck,.int .i64 o,.int .i64 cf,.int .i64 cn,.int .i64 cm,.string cp,.string ct,.string cx,.bool ca] 50):=by rw [← hX];exact heap_alloc_last W _
 have hbase : base ≤ W.heap.size:=Nat.le_trans h.base.1 (Nat.le_of_lt h.lt)
 have hk:=h.kept hBX
 have HX : Aside (W.alloc (.cells #[.int .i64 ck,.int .i64 o,.int .i64 cf,.int .i64 cn,.int .i64 cm,.string cp,.string ct,.string cx,.bool ca] 50) = X):=hX
 have HB : Aside (Below W.heap.size W X):=hBX
 have hgX:=hg.kept (hBX.mono hbase)
 have ho4z : (o : Int) < 4:=by omega
 have hF:=DL hk hgX hf.calm o ho4 ck cf cn cm cp ct cx ca hx
 have q1 : (ck == 1) = false:=by simpa using e1
 have q6 : (ck == 6) = false:=by simpa using e6
 have q10 : (ck == 10) = false:=by simpa using e10
 have q7 : (ck == 7) = false:=by simpa using e7
 have q8 : (ck == 8) = false:=by simpa using e8
 have q9 : (ck == 9) = false:=by simpa using e9
 have q11 : (ck == 11) = false:=by simpa using e11
 have q12 : (ck == 12) = false:=by simpa using e12
 clear h hg hf hk hgX hbk hX hBX e1 e6 e10 e7 e8 e9 e11 e12
 generalize s.numR o ck cf cn cm cx ca = R at hF ⊢
 go_enter Tryz.func58,Tryz.ntmps58
 go_wp2_with (go_at_call 91;rw [HX.out];refine hF.mono ?_;clear hF;intro r w5 hS;obtain ⟨v,rfl,HS⟩:=hS.parts HB.out;clear hS)
 go_ret2
 exact HS.out
theorem Cq {base : Nat} {W : World} {S : Nat} {s : Sy} {L : Lay6} (h : aj base W S s L) (hg : Gl base W) (hf : s.Fine) (c : Cl) (hc : c.Small) :
  Calls Tryz.prog 58 #[.pointer (some ⟨S,0,none⟩),.agg #[.int .i64 c.kind, .int .i64 c.owner, .int .i64 c.fd, .int .i64 c.n, .int .i64 c.m, .string c.path, .string c.to, .string c.text, .bool c.alone]] W (fun r w' => au base S s L (s.eT c).1 (s.eT c).2.1 (s.eT c).2.2 W r w'):=by
 obtain ⟨ck,co,cf,cn,cm,cp,ct,cx,ca⟩:=c
 obtain ⟨hp,ht,hx⟩:=hc
 unfold Sy.eT
 simp only at *
 by_cases hk : ck < 1 ∨ 16 < ck
 ·rw [if_pos hk];exact Ba h ck co cf cn cm cp ct cx ca hk
 rw [if_neg hk]
 by_cases ho : co < 0 ∨ 4 ≤ co
 ·rw [if_pos ho];exact Ao h ck co cf cn cm cp ct cx ca (by omega) (by omega) ho
 rw [if_neg ho]
 obtain ⟨o,rfl⟩ : ∃ o : Nat,co = o:=⟨co.toNat,by omega⟩
 have ho4 : o < 4:=by omega
 rw [show ((o : Int)).toNat = o from rfl]
 by_cases e1 : ck = 1
 ·rw [if_pos e1];subst e1;exact Gn h hg hf o ho4 cf cn cm cp ct cx ca hp ht
 rw [if_neg e1]
 by_cases e6 : ck = 6
 ·rw [if_pos e6];subst e6;exact Ii h hg hf o ho4 cf cn cm cp ct cx ca hp ht
 rw [if_neg e6]
 by_cases e10 : ck = 10
 ·rw [if_pos e10];subst e10;exact Er h hg hf o ho4 cf cn cm cp ct cx ca hp ht
 rw [if_neg e10]
 by_cases e7 : ck = 7
 ·rw [if_pos (.inl e7)];subst e7;exact GR h hg hf o ho4 cf cn cm cp ct cx ca hp ht
 by_cases e8 : ck = 8
 ·rw [if_pos (.inr e8)];subst e8;exact Gy h hg hf o ho4 cf cn cm cp ct cx ca hp ht
 rw [if_neg (by omega)]
 by_cases e9 : ck = 9
 ·rw [if_pos e9];subst e9;exact GH h hg hf o ho4 cf cn cm cp ct cx ca hp ht
 rw [if_neg e9]
 by_cases e11 : ck = 11
 ·rw [if_pos e11];subst e11;exact Fu h hg hf o ho4 cf cn cm cp ct cx ca hp ht
 rw [if_neg e11]
 by_cases e12 : ck = 12
 ·rw [if_pos e12];subst e12;exact Fh h hg hf o ho4 cf cn cm cp ct cx ca hp ht
 rw [if_neg e12]
 exact Dp h hg hf o ho4 ck cf cn cm cp ct cx ca hx (by omega) (by omega) e1 e6 e10 e7 e8 e9 e11 e12
namespace PM
def yT (e : Int) : An:=⟨e,0,⟨#[]⟩,[]⟩
noncomputable def Sy.answer (s : Sy) (c : Cl) : Sy × An:=if (s.eT c).1 = 0 then (s.eT c).2 else (s,yT (s.eT c).1)
end PM
theorem F3 (sp : Nat → Prop) (W : World) (e : Int) : mP sp W (yT e) (.agg #[.int .i64 e,.int .i64 0,.string ⟨#[]⟩,.slice none 0 0]):=⟨none,0,[],rfl,rfl,Nat.le_refl _,fun _ => rfl,fun _ _ => .inl rfl⟩
theorem mP.on {sp : Nat → Prop} {W W' : World} {an : An} {v : Value} (h : mP sp W an v) (hk : Keep sp W W') : mP sp W' an v:=by
 obtain ⟨p,c,bs,e,h1,h2,h3,h4⟩:=h
 exact ⟨p,c,bs,e,h1,h2,h3,h4.on hk⟩
theorem wH {base : Nat} {W W1 w4 : World} {S : Nat} {s s' : Sy} {L L1 L4 : Lay6} {an : An} {R : Nat} {a b c d : Value} (h : aj base W S s L) (h1 : aj base W1 S s L1) (hB1 : Below W.heap.size W W1) (hR : W.heap.size ≤ R) (hRl : R < W1.heap.size) (hx1 : ∀ b,L1.ex b ↔ b = R ∨ L.ex b) (ho1 : L1.ob = L.ob) (hf1 : L1.fb = L.fb) (hbk : W1.heap[R]? = some (.cells #[.int .i64 0,.int .i64 0,.string ⟨#[]⟩,.slice none 0 0] 38)) (h4 : aj base w4 S s' L4) (hb4 : Below base W1 w4) (hx4 : ∀ b,L1.ex b → L4.ex b) (hk4 : Keep (Mine S s L1) W1 w4) (hs4 : ∀ b,Sp S s' L4 b → Sp S s L1 b ∨ W1.heap.size ≤ b) (hA : mP (Sp S s' L4) w4 an (.agg #[a,b,c,d])) :
  dU base S s L s' an W (.returned (.agg #[a,b,c,d])) ((((w4.setCell ⟨R,0,none⟩ a).setCell ⟨R,1,none⟩ b).setCell ⟨R,2,none⟩ c).setCell ⟨R,3,none⟩ d):=by
 have hxR : L4.ex R:=hx4 R ((hx1 R).2 (.inl rfl))
 have hnR : ¬ Mine S s L1 R:=by
  rintro (e | ⟨j,hj,e⟩ | ⟨i,hi,e⟩)
  ·have:=h.lt;omega
  ·rw [ho1] at e;have:=h.olt hj;omega
  ·rw [hf1] at e;have:=h.flt hi;omega
 have hb:=(hk4.block R hRl hnR).trans hbk
 obtain ⟨k1,k2⟩:=h4.answer hxR hb a b c d
 have hbW : base ≤ W.heap.size:=Nat.le_trans h.base.1 (Nat.le_of_lt h.lt)
 have hkA : Keep (Sp S s' L4) w4 ((((w4.setCell ⟨R,0,none⟩ a).setCell ⟨R,1,none⟩ b).setCell ⟨R,2,none⟩ c).setCell ⟨R,3,none⟩ d):=(((Keep.set (.inl (.inr hxR)) _ _ _).trans (Keep.set (.inl (.inr hxR)) _ _ _)).trans (Keep.set (.inl (.inr hxR)) _ _ _)).trans (Keep.set (.inl (.inr hxR)) _ _ _)
 have hs1:=hB1.size
 refine ⟨_,L4,rfl,k1,hA.on hkA,(hB1.mono hbW).trans (hb4.trans k2),fun b hb => hx4 b ((hx1 b).2 (.inr hb)),⟨Nat.le_trans hs1 (Nat.le_trans hk4.size (by simp [World.setCell])),fun x hx hn => ?_⟩,fun b hb => ?_⟩
 ·have hne : ∀ (Y : World) (i : Nat) (v : Value),(Y.setCell ⟨R,i,none⟩ v).heap[x]? = Y.heap[x]?:=fun Y i v => Below.heap_setCell _ _ _ _ (by show x ≠ R;omega)
  rw [hne,hne,hne,hne]
  refine (hk4.block x (by omega) (fun hm => hn ?_)).trans (hB1.block x hx)
  rcases hm with e | ⟨j,hj,e⟩ | ⟨i,hi,e⟩
  ·exact .inl e
  ·rw [ho1] at e;exact .inr (.inl ⟨j,hj,e⟩)
  ·rw [hf1] at e;exact .inr (.inr ⟨i,hi,e⟩)
 ·rcases hs4 b hb with ((e | hx) | ⟨j,hj,e⟩ | ⟨i,hi,e⟩) | hl
  ·exact .inl (.inl (.inl e))
  ·rcases (hx1 b).1 hx with e | hx
   ·right;omega
   ·exact .inl (.inl (.inr hx))
  ·rw [ho1] at e;exact .inl (.inr (.inl ⟨j,hj,e⟩))
  ·rw [hf1] at e;exact .inl (.inr (.inr ⟨i,hi,e⟩))
  ·right;omega
theorem yx {base S : Nat} {s : Sy} {L : Lay6} {err : Int} {s' : Sy} {an : An} {W W' : World} {r : Ending} (h : au base S s L err s' an W r W') (he : err = 0) : ∃ g cap,r = .returned (.tuple #[.func (.func g) #[] cap,.int .i64 0]) ∧ Below W.heap.size W W' ∧ (∀ args w,(callFunc g args).run Tryz.prog w = .ok (.enter g args) w) ∧ Calls Tryz.prog g cap W' (dU base S s L s' an W'):=by
 obtain ⟨v,e,hB,h2⟩:=h
 obtain ⟨g,cap,rfl,h3,h4⟩:=h2 he
 subst he
 exact ⟨g,cap,e,hB,h3,h4⟩
theorem zX {base S : Nat} {s : Sy} {L : Lay6} {s' : Sy} {an : An} {W W' : World} {r : Ending} (h : dU base S s L s' an W r W') : ∃ (p : Option Addr) (c n : Nat),r = .returned (.agg #[.int .i64 an.err,.int .i64 an.n,.string an.text,.slice p n c]) ∧ Aside (dU base S s L s' an W (.returned (.agg #[.int .i64 an.err,.int .i64 an.n,.string an.text,.slice p n c])) W'):=by
 obtain ⟨v,L',e,h1,h2,h3⟩:=h
 obtain ⟨p,c,bs,e2,h4⟩:=h2
 subst e2
 exact ⟨p,c,bs.length,e,_,L',rfl,h1,⟨p,c,bs,rfl,h4⟩,h3⟩
set_option maxRecDepth 100000 in
set_option maxHeartbeats 1000000 in
theorem Dl {base : Nat} {W : World} {S : Nat} {s : Sy} {L : Lay6} (h : aj base W S s L) (hg : Gl base W) (hf : s.Fine) (c : Cl) (hc : c.Small) :
  Calls Tryz.prog 40 #[.pointer (some ⟨S,0,none⟩),.agg #[.int .i64 c.kind, .int .i64 c.owner, .int .i64 c.fd, .int .i64 c.n, .int .i64 c.m, .string c.path, .string c.to, .string c.text, .bool c.alone]] W (dU base S s L (s.answer c).1 (s.answer c).2 W):=by
 obtain ⟨W0,hW0⟩ : ∃ W0,W.alloc (.cells #[.int .i64 c.kind, .int .i64 c.owner, .int .i64 c.fd, .int .i64 c.n, .int .i64 c.m, .string c.path, .string c.to, .string c.text, .bool c.alone] 50) = W0:=⟨_,rfl⟩
 have hB0 : Below W.heap.size W W0:=by rw [← hW0];exact ((Grown.refl W).alloc _).below
 have hs0 : W0.heap.size = W.heap.size + 1:=by rw [← hW0];simp
 obtain ⟨W1,hW1⟩ : ∃ W1,W0.alloc (.cells #[.int .i64 0,.int .i64 0,.string ⟨#[]⟩,.slice none 0 0] 38) = W1:=⟨_,rfl⟩
 have hB01 : Below W0.heap.size W0 W1:=by rw [← hW1];exact ((Grown.refl W0).alloc _).below
 have hB1:=Below.onto hB0 hB01
 have hs1 : W1.heap.size = W.heap.size + 2:=by rw [← hW1,World.size_alloc,hs0]
 have hbk : W1.heap[W.heap.size + 1]? = some (.cells #[.int .i64 0,.int .i64 0,.string ⟨#[]⟩,.slice none 0 0] 38):=by
  rw [← hW1,← hs0];exact heap_alloc_last W0 _
 have h1:=(h.kept hB0).aside (.cells #[.int .i64 0,.int .i64 0,.string ⟨#[]⟩,.slice none 0 0] 38)
 rw [hW1,hs0] at h1
 have hbase : base ≤ W.heap.size:=Nat.le_trans h.base.1 (Nat.le_of_lt h.lt)
 have hF:=Cq h1 (hg.kept (hB1.mono hbase)) hf c hc
 obtain ⟨L1,hL1⟩ : ∃ L1 : Lay6,L1 = { L with ex:=fun b => b = W.heap.size + 1 ∨ L.ex b }:=⟨_,rfl⟩
 rw [← hL1] at h1 hF
 have HA : Aside (aj base W S s L ∧ aj base W1 S s L1 ∧ Below W.heap.size W W1 ∧ W.heap.size + 1 < W1.heap.size ∧ (∀ b,L1.ex b ↔ b = W.heap.size + 1 ∨ L.ex b) ∧ L1.ob = L.ob ∧ L1.fb = L.fb ∧ W1.heap[W.heap.size + 1]? = some (.cells #[.int .i64 0,.int .i64 0,.string ⟨#[]⟩,.slice none 0 0] 38)):=⟨h,h1,hB1,by omega,fun b => by rw [hL1],by rw [hL1],by rw [hL1],hbk⟩
 obtain ⟨⟨b0,b1,b2,b3⟩,z0,z1,z2,z3⟩:=bX hbk
 have HW : Aside ((W.alloc (.cells #[.int .i64 c.kind, .int .i64 c.owner, .int .i64 c.fd, .int .i64 c.n, .int .i64 c.m, .string c.path, .string c.to, .string c.text, .bool c.alone] 50)).alloc (.cells #[.int .i64 0,.int .i64 0,.string ⟨#[]⟩,.slice none 0 0] 38) = W1):=by rw [hW0];exact hW1
 obtain ⟨ck,co,cf,cn,cm,cp,ct,cx,ca⟩:=c
 simp only at hF HW ⊢
 have HV : Aside ((s.answer ⟨ck,co,cf,cn,cm,cp,ct,cx,ca⟩) = if (s.eT ⟨ck,co,cf,cn,cm,cp,ct,cx,ca⟩).1 = 0 then (s.eT ⟨ck,co,cf,cn,cm,cp,ct,cx,ca⟩).2 else (s,yT (s.eT ⟨ck,co,cf,cn,cm,cp,ct,cx,ca⟩).1)):=rfl
 generalize s.answer ⟨ck,co,cf,cn,cm,cp,ct,cx,ca⟩ = A at HV ⊢
 generalize s.eT ⟨ck,co,cf,cn,cm,cp,ct,cx,ca⟩ = R at HV hF
 obtain ⟨er,s',an⟩:=R
 simp only at HV hF
 rw [← HW.out] at hF
 clear h h1 hg hf hB0 hB01 hB1 hs0 hs1 hbk hW0 hW1 hL1 hc b0 b1 b2 b3 z0 z1 z2 z3
 by_cases hz : er = 0
 ·subst hz
  go_enter Tryz.func40,Tryz.ntmps40
  go_wp2_with (go_at_call 58;refine hF.mono ?_;clear hF;intro r w3 hS;obtain ⟨g,cap,rfl,hB3,eg,hD⟩:=yx hS (by trivial);clear hS;rw [HW.out] at hB3;have H3 : Aside (Below W1.heap.size W1 w3 ∧ w3.heap[W.heap.size + 1]? = some (.cells #[.int .i64 0,.int .i64 0,.string ⟨#[]⟩,.slice none 0 0] 38)):=⟨hB3,(hB3.block _ HA.out.2.2.2.1).trans HA.out.2.2.2.2.2.2.2⟩;clear hB3)
  go_wp2_with (go_at_fn g;refine Calls.mono hD ?_;clear hD;intro r w4 hS;obtain ⟨p,k,n,rfl,HD⟩:=zX hS;clear hS;have hb4 : w4.heap[W.heap.size + 1]? = some (.cells #[.int .i64 0,.int .i64 0,.string ⟨#[]⟩,.slice none 0 0] 38):=(by obtain ⟨_,L4,_,_,_,_,_,hk,_⟩:=HD.out;refine (hk.block _ (Array.getElem?_eq_some_iff.1 H3.out.2).1 ?_).trans H3.out.2;rintro (e | ⟨j,hj,e⟩ | ⟨i,hi,e⟩);(have:=HA.out.1.lt;omega);(rw [HA.out.2.2.2.2.2.1] at e;have:=HA.out.1.olt hj;omega);(rw [HA.out.2.2.2.2.2.2.1] at e;have:=HA.out.1.flt hi;omega));obtain ⟨⟨b0,b1,b2,b3⟩,z0,z1,z2,z3⟩:=bX hb4;clear hb4)
  refine bodyPost_ret (v:=.agg #[.int .i64 an.err,.int .i64 an.n,.string an.text,.slice p n k]) (by simp [results,Tryz.results40,go_sem,b0,b1,b2,b3]) rfl ?_
  rw [HV.out,if_pos (by trivial)]
  obtain ⟨h,h1,hB1,hl,hx,ho,hfb,hbk⟩:=HA.out
  obtain ⟨v,L4,e,q1,q2,q3,q4,q5,q6⟩:=HD.out
  injection e with e
  subst e
  have hb3 : base ≤ W1.heap.size:=Nat.le_trans h1.base.1 (Nat.le_of_lt h1.lt)
  exact wH h h1 hB1 (by omega) hl hx ho hfb hbk q1 ((H3.out.1.mono hb3).trans q3) q4 ((Keep.of_below _ H3.out.1).trans q5) (fun b hb => (q6 b hb).imp id (fun hl => Nat.le_trans H3.out.1.size hl)) q2
 ·have hne : (er != 0) = true:=by simpa using hz
  go_enter Tryz.func40,Tryz.ntmps40
  go_wp2_with (go_at_call 58;refine hF.mono ?_;clear hF;intro r w3 hS;obtain ⟨v,rfl,hB3,_⟩:=hS;rw [HW.out] at hB3;have H3 : Aside (Below W1.heap.size W1 w3 ∧ w3.heap[W.heap.size + 1]? = some (.cells #[.int .i64 0,.int .i64 0,.string ⟨#[]⟩,.slice none 0 0] 38)):=⟨hB3,(hB3.block _ HA.out.2.2.2.1).trans HA.out.2.2.2.2.2.2.2⟩;clear hB3;obtain ⟨⟨b0,b1,b2,b3⟩,z0,z1,z2,z3⟩:=bX H3.out.2)
  refine bodyPost_ret (v:=.agg #[.int .i64 er,.int .i64 0,.string ⟨#[]⟩,.slice none 0 0]) (by simp [results,Tryz.results40,go_sem,b0,b1,b2,b3]) rfl ?_
  rw [HV.out,if_neg hz]
  obtain ⟨h,h1,hB1,hl,hx,ho,hfb,hbk⟩:=HA.out
  have hb3 : base ≤ W1.heap.size:=Nat.le_trans h1.base.1 (Nat.le_of_lt h1.lt)
  exact wH h h1 hB1 (by omega) hl hx ho hfb hbk (h1.kept H3.out.1) (H3.out.1.mono hb3) (fun b hb => hb) (Keep.of_below _ H3.out.1) (fun b hb => .inl hb) (F3 _ _ _)
end Go.Proofs.YthfeoiffoeagkaaGreatDoor
