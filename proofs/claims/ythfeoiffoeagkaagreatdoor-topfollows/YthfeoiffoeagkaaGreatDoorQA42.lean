/-
  (*sys.system).stepOfNumber, whole, and stepOf.
-/
import Derived.Test.YthfeoiffoeagkaaGreatDoorQA41
namespace Go.Proofs.YthfeoiffoeagkaaGreatDoor
open Go.RowKit PM Go.Sort
set_option linter.unusedVariables false
set_option maxRecDepth 100000 in
theorem number_low {base : Nat} {W : World} {S : Nat} {s s' : Sy} {an : An} {L : Lay6} (h : SysAt base W S s L) (o : Nat) (ho4 : o < 4) (ck cf cn cm : Int) (cp ct cx : ByteArray) (ca : Bool) (hf : cf < 0) :
  Calls Tryz.prog 91 #[.pointer (some ⟨S,0,none⟩),.agg #[.int .i64 ck,.int .i64 o,.int .i64 cf,.int .i64 cn,.int .i64 cm,.string cp,.string ct,.string cx,.bool ca]] W (StepPost base S s L 6 s' an W):=by
 obtain ⟨X,hX⟩ : ∃ X,W.alloc (.cells #[.int .i64 ck,.int .i64 o,.int .i64 cf,.int .i64 cn,.int .i64 cm,.string cp,.string ct,.string cx,.bool ca] 50) = X:=⟨_,rfl⟩
 have hBX : Below W.heap.size W X:=by rw [← hX];exact ((Grown.refl W).alloc _).below
 have hbk : X.heap[W.heap.size]? = some (.cells #[.int .i64 ck,.int .i64 o,.int .i64 cf,.int .i64 cn,.int .i64 cm,.string cp,.string ct,.string cx,.bool ca] 50):=by rw [← hX];exact heap_alloc_last W _
 have hbase : base ≤ W.heap.size:=Nat.le_trans h.base.1 (Nat.le_of_lt h.lt)
 have hk:=h.kept hBX
 have HX : Aside (W.alloc (.cells #[.int .i64 ck,.int .i64 o,.int .i64 cf,.int .i64 cn,.int .i64 cm,.string cp,.string ct,.string cx,.bool ca] 50) = X):=hX
 have HB : Aside (Below W.heap.size W X):=hBX
 have k0 : X.cell? ⟨W.heap.size,0,none⟩ = some (.int .i64 ck):=by simp [World.cell?,hbk]
 have k1 : X.cell? ⟨W.heap.size,1,none⟩ = some (.int .i64 o):=by simp [World.cell?,hbk]
 have k2 : X.cell? ⟨W.heap.size,2,none⟩ = some (.int .i64 cf):=by simp [World.cell?,hbk]
 have k3 : X.cell? ⟨W.heap.size,3,none⟩ = some (.int .i64 cn):=by simp [World.cell?,hbk]
 have k4 : X.cell? ⟨W.heap.size,4,none⟩ = some (.int .i64 cm):=by simp [World.cell?,hbk]
 have k5 : X.cell? ⟨W.heap.size,5,none⟩ = some (.string cp):=by simp [World.cell?,hbk]
 have k6 : X.cell? ⟨W.heap.size,6,none⟩ = some (.string ct):=by simp [World.cell?,hbk]
 have k7 : X.cell? ⟨W.heap.size,7,none⟩ = some (.string cx):=by simp [World.cell?,hbk]
 have k8 : X.cell? ⟨W.heap.size,8,none⟩ = some (.bool ca):=by simp [World.cell?,hbk]
 have ho4z : (o : Int) < 4:=by omega
 have d1 : decide (cf < 0) = true:=by simpa using hf
 clear h hk hbk hX hBX
 go_enter Tryz.func91,Tryz.ntmps91
 go_wp2
 rw [HX.out]
 go_quiet (fail)
 go_wp2
 go_quiet (fail)
 go_wp2
 go_ret2
 exact StepPost.no _ (by decide) (Below.onto HB.out (below_drewN (below_drewN (Below.refl _ _) _) _))
set_option maxRecDepth 100000 in
theorem number_high {base : Nat} {W : World} {S : Nat} {s s' : Sy} {an : An} {L : Lay6} (h : SysAt base W S s L) (o : Nat) (ho4 : o < 4) (ck cf cn cm : Int) (cp ct cx : ByteArray) (ca : Bool) (hf0 : ¬ cf < 0) (hf : 8 ≤ cf) :
  Calls Tryz.prog 91 #[.pointer (some ⟨S,0,none⟩),.agg #[.int .i64 ck,.int .i64 o,.int .i64 cf,.int .i64 cn,.int .i64 cm,.string cp,.string ct,.string cx,.bool ca]] W (StepPost base S s L 6 s' an W):=by
 obtain ⟨X,hX⟩ : ∃ X,W.alloc (.cells #[.int .i64 ck,.int .i64 o,.int .i64 cf,.int .i64 cn,.int .i64 cm,.string cp,.string ct,.string cx,.bool ca] 50) = X:=⟨_,rfl⟩
 have hBX : Below W.heap.size W X:=by rw [← hX];exact ((Grown.refl W).alloc _).below
 have hbk : X.heap[W.heap.size]? = some (.cells #[.int .i64 ck,.int .i64 o,.int .i64 cf,.int .i64 cn,.int .i64 cm,.string cp,.string ct,.string cx,.bool ca] 50):=by rw [← hX];exact heap_alloc_last W _
 have hbase : base ≤ W.heap.size:=Nat.le_trans h.base.1 (Nat.le_of_lt h.lt)
 have hk:=h.kept hBX
 have HX : Aside (W.alloc (.cells #[.int .i64 ck,.int .i64 o,.int .i64 cf,.int .i64 cn,.int .i64 cm,.string cp,.string ct,.string cx,.bool ca] 50) = X):=hX
 have HB : Aside (Below W.heap.size W X):=hBX
 have k0 : X.cell? ⟨W.heap.size,0,none⟩ = some (.int .i64 ck):=by simp [World.cell?,hbk]
 have k1 : X.cell? ⟨W.heap.size,1,none⟩ = some (.int .i64 o):=by simp [World.cell?,hbk]
 have k2 : X.cell? ⟨W.heap.size,2,none⟩ = some (.int .i64 cf):=by simp [World.cell?,hbk]
 have k3 : X.cell? ⟨W.heap.size,3,none⟩ = some (.int .i64 cn):=by simp [World.cell?,hbk]
 have k4 : X.cell? ⟨W.heap.size,4,none⟩ = some (.int .i64 cm):=by simp [World.cell?,hbk]
 have k5 : X.cell? ⟨W.heap.size,5,none⟩ = some (.string cp):=by simp [World.cell?,hbk]
 have k6 : X.cell? ⟨W.heap.size,6,none⟩ = some (.string ct):=by simp [World.cell?,hbk]
 have k7 : X.cell? ⟨W.heap.size,7,none⟩ = some (.string cx):=by simp [World.cell?,hbk]
 have k8 : X.cell? ⟨W.heap.size,8,none⟩ = some (.bool ca):=by simp [World.cell?,hbk]
 have ho4z : (o : Int) < 4:=by omega
 have d1 : decide (cf < 0) = false:=by simpa using hf0
 have d2 : decide (8 ≤ cf) = true:=by simpa using hf
 clear h hk hbk hX hBX
 go_enter Tryz.func91,Tryz.ntmps91
 go_wp2
 rw [HX.out]
 go_quiet (fail)
 go_wp2
 go_quiet (fail)
 go_wp2
 go_ret2
 exact StepPost.no _ (by decide) (Below.onto HB.out (below_drewN (below_drewN (Below.refl _ _) _) _))
set_option maxRecDepth 100000 in
theorem number_nil {base : Nat} {W : World} {S : Nat} {s s' : Sy} {an : An} {L : Lay6} (h : SysAt base W S s L) (o k : Nat) (ho4 : o < 4) (hk8 : k < 8) (ck cn cm : Int) (cp ct cx : ByteArray) (ca : Bool) (hfd : s.fds (o * 8 + k) = none) :
  Calls Tryz.prog 91 #[.pointer (some ⟨S,0,none⟩),.agg #[.int .i64 ck,.int .i64 o,.int .i64 k,.int .i64 cn,.int .i64 cm,.string cp,.string ct,.string cx,.bool ca]] W (StepPost base S s L 6 s' an W):=by
 obtain ⟨X,hX⟩ : ∃ X,W.alloc (.cells #[.int .i64 ck,.int .i64 o,.int .i64 k,.int .i64 cn,.int .i64 cm,.string cp,.string ct,.string cx,.bool ca] 50) = X:=⟨_,rfl⟩
 have hBX : Below W.heap.size W X:=by rw [← hX];exact ((Grown.refl W).alloc _).below
 have hbk : X.heap[W.heap.size]? = some (.cells #[.int .i64 ck,.int .i64 o,.int .i64 k,.int .i64 cn,.int .i64 cm,.string cp,.string ct,.string cx,.bool ca] 50):=by rw [← hX];exact heap_alloc_last W _
 have hbase : base ≤ W.heap.size:=Nat.le_trans h.base.1 (Nat.le_of_lt h.lt)
 have hk:=h.kept hBX
 have HX : Aside (W.alloc (.cells #[.int .i64 ck,.int .i64 o,.int .i64 k,.int .i64 cn,.int .i64 cm,.string cp,.string ct,.string cx,.bool ca] 50) = X):=hX
 have HB : Aside (Below W.heap.size W X):=hBX
 have k0 : X.cell? ⟨W.heap.size,0,none⟩ = some (.int .i64 ck):=by simp [World.cell?,hbk]
 have k1 : X.cell? ⟨W.heap.size,1,none⟩ = some (.int .i64 o):=by simp [World.cell?,hbk]
 have k2 : X.cell? ⟨W.heap.size,2,none⟩ = some (.int .i64 k):=by simp [World.cell?,hbk]
 have k3 : X.cell? ⟨W.heap.size,3,none⟩ = some (.int .i64 cn):=by simp [World.cell?,hbk]
 have k4 : X.cell? ⟨W.heap.size,4,none⟩ = some (.int .i64 cm):=by simp [World.cell?,hbk]
 have k5 : X.cell? ⟨W.heap.size,5,none⟩ = some (.string cp):=by simp [World.cell?,hbk]
 have k6 : X.cell? ⟨W.heap.size,6,none⟩ = some (.string ct):=by simp [World.cell?,hbk]
 have k7 : X.cell? ⟨W.heap.size,7,none⟩ = some (.string cx):=by simp [World.cell?,hbk]
 have k8 : X.cell? ⟨W.heap.size,8,none⟩ = some (.bool ca):=by simp [World.cell?,hbk]
 have c3:=hk.fd (k:=o * 8 + k) (by omega)
 have c3 : X.cell? ⟨S,3 + o * 8 + k,none⟩ = some (.pointer none):=by rw [Nat.add_assoc,hfd] at *;exact c3
 have ho4z : (o : Int) < 4:=by omega
 have hk8z : (k : Int) < 8:=by omega
 have d1 : decide ((k : Int) < 0) = false:=by simp
 have d2 : decide ((8 : Int) ≤ (k : Int)) = false:=by simpa using hk8z
 clear h hk hbk hX hBX hfd
 go_enter Tryz.func91,Tryz.ntmps91
 go_wp2
 rw [HX.out]
 go_quiet (fail)
 go_wp2
 go_quiet (fail)
 go_wp2
 go_ret2
 exact StepPost.no _ (by decide) (Below.onto HB.out (below_drewN (below_drewN (Below.refl _ _) _) _))
namespace PM
def noAns : An:=ans 0 ⟨#[]⟩
noncomputable def Sy.numR (s : Sy) (ow : Nat) (ck cf cn cm : Int) (cx : ByteArray) (ca : Bool) : Int × Sy × An :=
 if cf < 0 ∨ 8 ≤ cf then (6,s,noAns) else match s.fds (ow * 8 + cf.toNat) with
  | none => (6,s,noAns)
  | some j => match s.opens[j]? with
   | none => (6,s,noAns)
   | some op => match s.files[op.file]? with
    | none => (6,s,noAns)
    | some f => s.onR ow cf.toNat ck cn cm cx ca j op f
end PM
theorem number_any {base : Nat} {W : World} {S : Nat} {s : Sy} {L : Lay6} (h : SysAt base W S s L) (hg : Gl base W) (hc : s.Calm) (o : Nat) (ho4 : o < 4) (ck cf cn cm : Int) (cp ct cx : ByteArray) (ca : Bool) (hx : cx.size ≤ 1048576) :
  Calls Tryz.prog 91 #[.pointer (some ⟨S,0,none⟩),.agg #[.int .i64 ck,.int .i64 o,.int .i64 cf,.int .i64 cn,.int .i64 cm,.string cp,.string ct,.string cx,.bool ca]] W (fun r w' => StepPost base S s L (s.numR o ck cf cn cm cx ca).1 (s.numR o ck cf cn cm cx ca).2.1 (s.numR o ck cf cn cm cx ca).2.2 W r w'):=by
 unfold Sy.numR
 by_cases h1 : cf < 0
 ·rw [if_pos (.inl h1)];exact number_low h o ho4 ck cf cn cm cp ct cx ca h1
 by_cases h2 : 8 ≤ cf
 ·rw [if_pos (.inr h2)];exact number_high h o ho4 ck cf cn cm cp ct cx ca h1 h2
 rw [if_neg (by omega)]
 obtain ⟨k,rfl⟩ : ∃ k : Nat,cf = k:=⟨cf.toNat,by omega⟩
 have hk8 : k < 8:=by omega
 rw [show ((k : Int)).toNat = k from rfl]
 cases hfd : s.fds (o * 8 + k) with
 | none => exact number_nil h o k ho4 hk8 ck cn cm cp ct cx ca hfd
 | some j =>
  have hj:=h.val1 _ _ hfd
  have hop : s.opens[j]? = some s.opens[j]:=List.getElem?_eq_getElem hj
  have hfl:=h.val2 _ (List.getElem_mem hj)
  have hff : s.files[s.opens[j].file]? = some s.files[s.opens[j].file]:=List.getElem?_eq_getElem hfl
  simp only [hop,hff]
  exact number_some h hg o k ho4 hk8 ck cn cm cp ct cx ca hx j _ _ ⟨hfd,hop,hff⟩ hc
namespace PM
noncomputable def Sy.stepR (s : Sy) (c : Cl) : Int × Sy × An :=
 if c.kind < 1 ∨ 16 < c.kind then (1,s,noAns)
 else if c.owner < 0 ∨ 4 ≤ c.owner then (3,s,noAns)
 else if c.kind = 1 then (s.openErr c.owner.toNat c.n c.path,s.openTo c.owner.toNat c.n c.path,ans (s.freeOf c.owner.toNat) ⟨#[]⟩)
 else if c.kind = 6 then (s.addErr c.path 2 ⟨#[]⟩,s.withU (haveL s.up (s.addEnt c.path 2 ⟨#[]⟩)) s.lows,noAns)
 else if c.kind = 10 then (s.addErr c.path 3 c.to,s.withU (haveL s.up (s.addEnt c.path 3 c.to)) s.lows,noAns)
 else if c.kind = 7 ∨ c.kind = 8 then (s.rmErr c.kind c.path,s.rmDo c.path,noAns)
 else if c.kind = 9 then (s.renErr c.path c.to,s.renDo c.path c.to,noAns)
 else if c.kind = 11 then (s.listErr c.path,s,s.listAns c.path)
 else if c.kind = 12 then (s.statErr c.path,s,s.statAns c.path)
 else s.numR c.owner.toNat c.kind c.fd c.n c.m c.text c.alone
structure Sy.Fine (s : Sy) : Prop where
 un : (wrongU s.all).1 = 0
 calm : s.Calm
 short : ∀ i ∈ s.reach,∀ f,s.files[i]? = some f → f.path.size ≤ 80
structure Cl.Small (c : Cl) : Prop where
 path : c.path.size ≤ 1048576
 dst : c.to.size ≤ 1048576
 text : c.text.size ≤ 1048576
end PM
theorem stepOf_kind {base : Nat} {W : World} {S : Nat} {s s' : Sy} {an : An} {L : Lay6} (h : SysAt base W S s L) (ck co cf cn cm : Int) (cp ct cx : ByteArray) (ca : Bool) (hk : ck < 1 ∨ 16 < ck) :
  Calls Tryz.prog 58 #[.pointer (some ⟨S,0,none⟩),.agg #[.int .i64 ck,.int .i64 co,.int .i64 cf,.int .i64 cn,.int .i64 cm,.string cp,.string ct,.string cx,.bool ca]] W (StepPost base S s L 1 s' an W):=by
 have HB : Aside (Below W.heap.size W (W.alloc (.cells #[.int .i64 ck,.int .i64 co,.int .i64 cf,.int .i64 cn,.int .i64 cm,.string cp,.string ct,.string cx,.bool ca] 50))):=((Grown.refl W).alloc _).below
 clear h
 rcases hk with hk | hk
 ·go_enter Tryz.func58,Tryz.ntmps58
  go_wp2
  go_ret2
  exact StepPost.no _ (by decide) HB.out
 ·have h2 : ¬ ck < 1:=by omega
  go_enter Tryz.func58,Tryz.ntmps58
  go_wp2
  go_ret2
  exact StepPost.no _ (by decide) HB.out
theorem stepOf_owner {base : Nat} {W : World} {S : Nat} {s s' : Sy} {an : An} {L : Lay6} (h : SysAt base W S s L) (ck co cf cn cm : Int) (cp ct cx : ByteArray) (ca : Bool) (hk0 : ¬ ck < 1) (hk1 : ¬ 16 < ck) (hk : co < 0 ∨ 4 ≤ co) :
  Calls Tryz.prog 58 #[.pointer (some ⟨S,0,none⟩),.agg #[.int .i64 ck,.int .i64 co,.int .i64 cf,.int .i64 cn,.int .i64 cm,.string cp,.string ct,.string cx,.bool ca]] W (StepPost base S s L 3 s' an W):=by
 have HB : Aside (Below W.heap.size W (W.alloc (.cells #[.int .i64 ck,.int .i64 co,.int .i64 cf,.int .i64 cn,.int .i64 cm,.string cp,.string ct,.string cx,.bool ca] 50))):=((Grown.refl W).alloc _).below
 clear h
 rcases hk with hk | hk
 ·go_enter Tryz.func58,Tryz.ntmps58
  go_wp2
  go_ret2
  exact StepPost.no _ (by decide) HB.out
 ·have h2 : ¬ co < 0:=by omega
  go_enter Tryz.func58,Tryz.ntmps58
  go_wp2
  go_ret2
  exact StepPost.no _ (by decide) HB.out
set_option maxRecDepth 100000 in
set_option maxHeartbeats 1000000 in
theorem stepOf_1 {base : Nat} {W : World} {S : Nat} {s : Sy} {L : Lay6} (h : SysAt base W S s L) (hg : Gl base W) (hf : s.Fine) (o : Nat) (ho4 : o < 4) (cf cn cm : Int) (cp ct cx : ByteArray) (ca : Bool) (hp : cp.size ≤ 1048576) (ht : ct.size ≤ 1048576) :
  Calls Tryz.prog 58 #[.pointer (some ⟨S,0,none⟩),.agg #[.int .i64 1,.int .i64 o,.int .i64 cf,.int .i64 cn,.int .i64 cm,.string cp,.string ct,.string cx,.bool ca]] W (StepPost base S s L (s.openErr o cn cp) (s.openTo o cn cp) (ans (s.freeOf o) ⟨#[]⟩) W):=by
 obtain ⟨X,hX⟩ : ∃ X,W.alloc (.cells #[.int .i64 1,.int .i64 o,.int .i64 cf,.int .i64 cn,.int .i64 cm,.string cp,.string ct,.string cx,.bool ca] 50) = X:=⟨_,rfl⟩
 have hBX : Below W.heap.size W X:=by rw [← hX];exact ((Grown.refl W).alloc _).below
 have hbk : X.heap[W.heap.size]? = some (.cells #[.int .i64 1,.int .i64 o,.int .i64 cf,.int .i64 cn,.int .i64 cm,.string cp,.string ct,.string cx,.bool ca] 50):=by rw [← hX];exact heap_alloc_last W _
 have hbase : base ≤ W.heap.size:=Nat.le_trans h.base.1 (Nat.le_of_lt h.lt)
 have hk:=h.kept hBX
 have HX : Aside (W.alloc (.cells #[.int .i64 1,.int .i64 o,.int .i64 cf,.int .i64 cn,.int .i64 cm,.string cp,.string ct,.string cx,.bool ca] 50) = X):=hX
 have HB : Aside (Below W.heap.size W X):=hBX
 have hgX:=hg.kept (hBX.mono hbase)
 have ho4z : (o : Int) < 4:=by omega
 have hF:=sysOpen_any hk hgX hf.un o (by omega) 1 cf cn cm cp ct cx ca (by unfold maxLen;omega)
 clear h hg hf hk hgX hbk hX hBX
 go_enter Tryz.func58,Tryz.ntmps58
 go_wp2_with (go_at_call 85;rw [HX.out];refine hF.mono ?_;clear hF;intro r w5 hS;obtain ⟨v,rfl,HS⟩:=hS.parts HB.out;clear hS)
 go_ret2
 exact HS.out
set_option maxRecDepth 100000 in
set_option maxHeartbeats 1000000 in
theorem stepOf_6 {base : Nat} {W : World} {S : Nat} {s : Sy} {L : Lay6} (h : SysAt base W S s L) (hg : Gl base W) (hf : s.Fine) (o : Nat) (ho4 : o < 4) (cf cn cm : Int) (cp ct cx : ByteArray) (ca : Bool) (hp : cp.size ≤ 1048576) (ht : ct.size ≤ 1048576) :
  Calls Tryz.prog 58 #[.pointer (some ⟨S,0,none⟩),.agg #[.int .i64 6,.int .i64 o,.int .i64 cf,.int .i64 cn,.int .i64 cm,.string cp,.string ct,.string cx,.bool ca]] W (StepPost base S s L (s.addErr cp 2 ⟨#[]⟩) (s.withU (haveL s.up (s.addEnt cp 2 ⟨#[]⟩)) s.lows) noAns W):=by
 obtain ⟨X,hX⟩ : ∃ X,W.alloc (.cells #[.int .i64 6,.int .i64 o,.int .i64 cf,.int .i64 cn,.int .i64 cm,.string cp,.string ct,.string cx,.bool ca] 50) = X:=⟨_,rfl⟩
 have hBX : Below W.heap.size W X:=by rw [← hX];exact ((Grown.refl W).alloc _).below
 have hbk : X.heap[W.heap.size]? = some (.cells #[.int .i64 6,.int .i64 o,.int .i64 cf,.int .i64 cn,.int .i64 cm,.string cp,.string ct,.string cx,.bool ca] 50):=by rw [← hX];exact heap_alloc_last W _
 have hbase : base ≤ W.heap.size:=Nat.le_trans h.base.1 (Nat.le_of_lt h.lt)
 have hk:=h.kept hBX
 have HX : Aside (W.alloc (.cells #[.int .i64 6,.int .i64 o,.int .i64 cf,.int .i64 cn,.int .i64 cm,.string cp,.string ct,.string cx,.bool ca] 50) = X):=hX
 have HB : Aside (Below W.heap.size W X):=hBX
 have hgX:=hg.kept (hBX.mono hbase)
 have ho4z : (o : Int) < 4:=by omega
 have hF:=add_any hk hgX cp 2 ⟨#[]⟩ (by unfold maxLen;omega) (by decide)
 clear h hg hf hk hgX hbk hX hBX
 go_enter Tryz.func58,Tryz.ntmps58
 go_wp2_with (go_at_call 86;rw [HX.out];refine hF.mono ?_;clear hF;intro r w5 hS;obtain ⟨v,rfl,HS⟩:=hS.parts HB.out;clear hS)
 go_ret2
 exact HS.out
set_option maxRecDepth 100000 in
set_option maxHeartbeats 1000000 in
theorem stepOf_10 {base : Nat} {W : World} {S : Nat} {s : Sy} {L : Lay6} (h : SysAt base W S s L) (hg : Gl base W) (hf : s.Fine) (o : Nat) (ho4 : o < 4) (cf cn cm : Int) (cp ct cx : ByteArray) (ca : Bool) (hp : cp.size ≤ 1048576) (ht : ct.size ≤ 1048576) :
  Calls Tryz.prog 58 #[.pointer (some ⟨S,0,none⟩),.agg #[.int .i64 10,.int .i64 o,.int .i64 cf,.int .i64 cn,.int .i64 cm,.string cp,.string ct,.string cx,.bool ca]] W (StepPost base S s L (s.addErr cp 3 ct) (s.withU (haveL s.up (s.addEnt cp 3 ct)) s.lows) noAns W):=by
 obtain ⟨X,hX⟩ : ∃ X,W.alloc (.cells #[.int .i64 10,.int .i64 o,.int .i64 cf,.int .i64 cn,.int .i64 cm,.string cp,.string ct,.string cx,.bool ca] 50) = X:=⟨_,rfl⟩
 have hBX : Below W.heap.size W X:=by rw [← hX];exact ((Grown.refl W).alloc _).below
 have hbk : X.heap[W.heap.size]? = some (.cells #[.int .i64 10,.int .i64 o,.int .i64 cf,.int .i64 cn,.int .i64 cm,.string cp,.string ct,.string cx,.bool ca] 50):=by rw [← hX];exact heap_alloc_last W _
 have hbase : base ≤ W.heap.size:=Nat.le_trans h.base.1 (Nat.le_of_lt h.lt)
 have hk:=h.kept hBX
 have HX : Aside (W.alloc (.cells #[.int .i64 10,.int .i64 o,.int .i64 cf,.int .i64 cn,.int .i64 cm,.string cp,.string ct,.string cx,.bool ca] 50) = X):=hX
 have HB : Aside (Below W.heap.size W X):=hBX
 have hgX:=hg.kept (hBX.mono hbase)
 have ho4z : (o : Int) < 4:=by omega
 have hF:=add_any hk hgX cp 3 ct (by unfold maxLen;omega) (by unfold maxLen;omega)
 clear h hg hf hk hgX hbk hX hBX
 go_enter Tryz.func58,Tryz.ntmps58
 go_wp2_with (go_at_call 86;rw [HX.out];refine hF.mono ?_;clear hF;intro r w5 hS;obtain ⟨v,rfl,HS⟩:=hS.parts HB.out;clear hS)
 go_ret2
 exact HS.out
set_option maxRecDepth 100000 in
set_option maxHeartbeats 1000000 in
theorem stepOf_7 {base : Nat} {W : World} {S : Nat} {s : Sy} {L : Lay6} (h : SysAt base W S s L) (hg : Gl base W) (hf : s.Fine) (o : Nat) (ho4 : o < 4) (cf cn cm : Int) (cp ct cx : ByteArray) (ca : Bool) (hp : cp.size ≤ 1048576) (ht : ct.size ≤ 1048576) :
  Calls Tryz.prog 58 #[.pointer (some ⟨S,0,none⟩),.agg #[.int .i64 7,.int .i64 o,.int .i64 cf,.int .i64 cn,.int .i64 cm,.string cp,.string ct,.string cx,.bool ca]] W (StepPost base S s L (s.rmErr 7 cp) (s.rmDo cp) noAns W):=by
 obtain ⟨X,hX⟩ : ∃ X,W.alloc (.cells #[.int .i64 7,.int .i64 o,.int .i64 cf,.int .i64 cn,.int .i64 cm,.string cp,.string ct,.string cx,.bool ca] 50) = X:=⟨_,rfl⟩
 have hBX : Below W.heap.size W X:=by rw [← hX];exact ((Grown.refl W).alloc _).below
 have hbk : X.heap[W.heap.size]? = some (.cells #[.int .i64 7,.int .i64 o,.int .i64 cf,.int .i64 cn,.int .i64 cm,.string cp,.string ct,.string cx,.bool ca] 50):=by rw [← hX];exact heap_alloc_last W _
 have hbase : base ≤ W.heap.size:=Nat.le_trans h.base.1 (Nat.le_of_lt h.lt)
 have hk:=h.kept hBX
 have HX : Aside (W.alloc (.cells #[.int .i64 7,.int .i64 o,.int .i64 cf,.int .i64 cn,.int .i64 cm,.string cp,.string ct,.string cx,.bool ca] 50) = X):=hX
 have HB : Aside (Below W.heap.size W X):=hBX
 have hgX:=hg.kept (hBX.mono hbase)
 have ho4z : (o : Int) < 4:=by omega
 have hF:=sysRemove_any hk hgX 7 o cf cn cm cp ct cx ca (by unfold maxLen;omega) hf.short (.inl rfl)
 clear h hg hf hk hgX hbk hX hBX
 go_enter Tryz.func58,Tryz.ntmps58
 go_wp2_with (go_at_call 87;rw [HX.out];refine hF.mono ?_;clear hF;intro r w5 hS;obtain ⟨v,rfl,HS⟩:=hS.parts HB.out;clear hS)
 go_ret2
 exact HS.out
set_option maxRecDepth 100000 in
set_option maxHeartbeats 1000000 in
theorem stepOf_8 {base : Nat} {W : World} {S : Nat} {s : Sy} {L : Lay6} (h : SysAt base W S s L) (hg : Gl base W) (hf : s.Fine) (o : Nat) (ho4 : o < 4) (cf cn cm : Int) (cp ct cx : ByteArray) (ca : Bool) (hp : cp.size ≤ 1048576) (ht : ct.size ≤ 1048576) :
  Calls Tryz.prog 58 #[.pointer (some ⟨S,0,none⟩),.agg #[.int .i64 8,.int .i64 o,.int .i64 cf,.int .i64 cn,.int .i64 cm,.string cp,.string ct,.string cx,.bool ca]] W (StepPost base S s L (s.rmErr 8 cp) (s.rmDo cp) noAns W):=by
 obtain ⟨X,hX⟩ : ∃ X,W.alloc (.cells #[.int .i64 8,.int .i64 o,.int .i64 cf,.int .i64 cn,.int .i64 cm,.string cp,.string ct,.string cx,.bool ca] 50) = X:=⟨_,rfl⟩
 have hBX : Below W.heap.size W X:=by rw [← hX];exact ((Grown.refl W).alloc _).below
 have hbk : X.heap[W.heap.size]? = some (.cells #[.int .i64 8,.int .i64 o,.int .i64 cf,.int .i64 cn,.int .i64 cm,.string cp,.string ct,.string cx,.bool ca] 50):=by rw [← hX];exact heap_alloc_last W _
 have hbase : base ≤ W.heap.size:=Nat.le_trans h.base.1 (Nat.le_of_lt h.lt)
 have hk:=h.kept hBX
 have HX : Aside (W.alloc (.cells #[.int .i64 8,.int .i64 o,.int .i64 cf,.int .i64 cn,.int .i64 cm,.string cp,.string ct,.string cx,.bool ca] 50) = X):=hX
 have HB : Aside (Below W.heap.size W X):=hBX
 have hgX:=hg.kept (hBX.mono hbase)
 have ho4z : (o : Int) < 4:=by omega
 have hF:=sysRemove_any hk hgX 8 o cf cn cm cp ct cx ca (by unfold maxLen;omega) hf.short (.inr rfl)
 clear h hg hf hk hgX hbk hX hBX
 go_enter Tryz.func58,Tryz.ntmps58
 go_wp2_with (go_at_call 87;rw [HX.out];refine hF.mono ?_;clear hF;intro r w5 hS;obtain ⟨v,rfl,HS⟩:=hS.parts HB.out;clear hS)
 go_ret2
 exact HS.out
set_option maxRecDepth 100000 in
set_option maxHeartbeats 1000000 in
theorem stepOf_9 {base : Nat} {W : World} {S : Nat} {s : Sy} {L : Lay6} (h : SysAt base W S s L) (hg : Gl base W) (hf : s.Fine) (o : Nat) (ho4 : o < 4) (cf cn cm : Int) (cp ct cx : ByteArray) (ca : Bool) (hp : cp.size ≤ 1048576) (ht : ct.size ≤ 1048576) :
  Calls Tryz.prog 58 #[.pointer (some ⟨S,0,none⟩),.agg #[.int .i64 9,.int .i64 o,.int .i64 cf,.int .i64 cn,.int .i64 cm,.string cp,.string ct,.string cx,.bool ca]] W (StepPost base S s L (s.renErr cp ct) (s.renDo cp ct) noAns W):=by
 obtain ⟨X,hX⟩ : ∃ X,W.alloc (.cells #[.int .i64 9,.int .i64 o,.int .i64 cf,.int .i64 cn,.int .i64 cm,.string cp,.string ct,.string cx,.bool ca] 50) = X:=⟨_,rfl⟩
 have hBX : Below W.heap.size W X:=by rw [← hX];exact ((Grown.refl W).alloc _).below
 have hbk : X.heap[W.heap.size]? = some (.cells #[.int .i64 9,.int .i64 o,.int .i64 cf,.int .i64 cn,.int .i64 cm,.string cp,.string ct,.string cx,.bool ca] 50):=by rw [← hX];exact heap_alloc_last W _
 have hbase : base ≤ W.heap.size:=Nat.le_trans h.base.1 (Nat.le_of_lt h.lt)
 have hk:=h.kept hBX
 have HX : Aside (W.alloc (.cells #[.int .i64 9,.int .i64 o,.int .i64 cf,.int .i64 cn,.int .i64 cm,.string cp,.string ct,.string cx,.bool ca] 50) = X):=hX
 have HB : Aside (Below W.heap.size W X):=hBX
 have hgX:=hg.kept (hBX.mono hbase)
 have ho4z : (o : Int) < 4:=by omega
 have hF:=sysRename_any hk hgX cp ct (by unfold maxLen;omega) (by unfold maxLen;omega) hf.short
 clear h hg hf hk hgX hbk hX hBX
 go_enter Tryz.func58,Tryz.ntmps58
 go_wp2_with (go_at_call 88;rw [HX.out];refine hF.mono ?_;clear hF;intro r w5 hS;obtain ⟨v,rfl,HS⟩:=hS.parts HB.out;clear hS)
 go_ret2
 exact HS.out
set_option maxRecDepth 100000 in
set_option maxHeartbeats 1000000 in
theorem stepOf_11 {base : Nat} {W : World} {S : Nat} {s : Sy} {L : Lay6} (h : SysAt base W S s L) (hg : Gl base W) (hf : s.Fine) (o : Nat) (ho4 : o < 4) (cf cn cm : Int) (cp ct cx : ByteArray) (ca : Bool) (hp : cp.size ≤ 1048576) (ht : ct.size ≤ 1048576) :
  Calls Tryz.prog 58 #[.pointer (some ⟨S,0,none⟩),.agg #[.int .i64 11,.int .i64 o,.int .i64 cf,.int .i64 cn,.int .i64 cm,.string cp,.string ct,.string cx,.bool ca]] W (StepPost base S s L (s.listErr cp) s (s.listAns cp) W):=by
 obtain ⟨X,hX⟩ : ∃ X,W.alloc (.cells #[.int .i64 11,.int .i64 o,.int .i64 cf,.int .i64 cn,.int .i64 cm,.string cp,.string ct,.string cx,.bool ca] 50) = X:=⟨_,rfl⟩
 have hBX : Below W.heap.size W X:=by rw [← hX];exact ((Grown.refl W).alloc _).below
 have hbk : X.heap[W.heap.size]? = some (.cells #[.int .i64 11,.int .i64 o,.int .i64 cf,.int .i64 cn,.int .i64 cm,.string cp,.string ct,.string cx,.bool ca] 50):=by rw [← hX];exact heap_alloc_last W _
 have hbase : base ≤ W.heap.size:=Nat.le_trans h.base.1 (Nat.le_of_lt h.lt)
 have hk:=h.kept hBX
 have HX : Aside (W.alloc (.cells #[.int .i64 11,.int .i64 o,.int .i64 cf,.int .i64 cn,.int .i64 cm,.string cp,.string ct,.string cx,.bool ca] 50) = X):=hX
 have HB : Aside (Below W.heap.size W X):=hBX
 have hgX:=hg.kept (hBX.mono hbase)
 have ho4z : (o : Int) < 4:=by omega
 have hF:=sysList_any hk hgX cp (by unfold maxLen;omega)
 clear h hg hf hk hgX hbk hX hBX
 go_enter Tryz.func58,Tryz.ntmps58
 go_wp2_with (go_at_call 89;rw [HX.out];refine hF.mono ?_;clear hF;intro r w5 hS;obtain ⟨v,rfl,HS⟩:=hS.parts HB.out;clear hS)
 go_ret2
 exact HS.out
set_option maxRecDepth 100000 in
set_option maxHeartbeats 1000000 in
theorem stepOf_12 {base : Nat} {W : World} {S : Nat} {s : Sy} {L : Lay6} (h : SysAt base W S s L) (hg : Gl base W) (hf : s.Fine) (o : Nat) (ho4 : o < 4) (cf cn cm : Int) (cp ct cx : ByteArray) (ca : Bool) (hp : cp.size ≤ 1048576) (ht : ct.size ≤ 1048576) :
  Calls Tryz.prog 58 #[.pointer (some ⟨S,0,none⟩),.agg #[.int .i64 12,.int .i64 o,.int .i64 cf,.int .i64 cn,.int .i64 cm,.string cp,.string ct,.string cx,.bool ca]] W (StepPost base S s L (s.statErr cp) s (s.statAns cp) W):=by
 obtain ⟨X,hX⟩ : ∃ X,W.alloc (.cells #[.int .i64 12,.int .i64 o,.int .i64 cf,.int .i64 cn,.int .i64 cm,.string cp,.string ct,.string cx,.bool ca] 50) = X:=⟨_,rfl⟩
 have hBX : Below W.heap.size W X:=by rw [← hX];exact ((Grown.refl W).alloc _).below
 have hbk : X.heap[W.heap.size]? = some (.cells #[.int .i64 12,.int .i64 o,.int .i64 cf,.int .i64 cn,.int .i64 cm,.string cp,.string ct,.string cx,.bool ca] 50):=by rw [← hX];exact heap_alloc_last W _
 have hbase : base ≤ W.heap.size:=Nat.le_trans h.base.1 (Nat.le_of_lt h.lt)
 have hk:=h.kept hBX
 have HX : Aside (W.alloc (.cells #[.int .i64 12,.int .i64 o,.int .i64 cf,.int .i64 cn,.int .i64 cm,.string cp,.string ct,.string cx,.bool ca] 50) = X):=hX
 have HB : Aside (Below W.heap.size W X):=hBX
 have hgX:=hg.kept (hBX.mono hbase)
 have ho4z : (o : Int) < 4:=by omega
 have hF:=stat_any hk hgX cp (by unfold maxLen;omega)
 clear h hg hf hk hgX hbk hX hBX
 go_enter Tryz.func58,Tryz.ntmps58
 go_wp2_with (go_at_call 90;rw [HX.out];refine hF.mono ?_;clear hF;intro r w5 hS;obtain ⟨v,rfl,HS⟩:=hS.parts HB.out;clear hS)
 go_ret2
 exact HS.out
set_option maxRecDepth 100000 in
set_option maxHeartbeats 1000000 in
theorem stepOf_num {base : Nat} {W : World} {S : Nat} {s : Sy} {L : Lay6} (h : SysAt base W S s L) (hg : Gl base W) (hf : s.Fine) (o : Nat) (ho4 : o < 4) (ck cf cn cm : Int) (cp ct cx : ByteArray) (ca : Bool) (hx : cx.size ≤ 1048576) (hk0 : ¬ ck < 1) (hk1 : ¬ 16 < ck) (e1 : ¬ ck = 1) (e6 : ¬ ck = 6) (e10 : ¬ ck = 10) (e7 : ¬ ck = 7) (e8 : ¬ ck = 8) (e9 : ¬ ck = 9) (e11 : ¬ ck = 11) (e12 : ¬ ck = 12) :
  Calls Tryz.prog 58 #[.pointer (some ⟨S,0,none⟩),.agg #[.int .i64 ck,.int .i64 o,.int .i64 cf,.int .i64 cn,.int .i64 cm,.string cp,.string ct,.string cx,.bool ca]] W (fun r w' => StepPost base S s L (s.numR o ck cf cn cm cx ca).1 (s.numR o ck cf cn cm cx ca).2.1 (s.numR o ck cf cn cm cx ca).2.2 W r w'):=by
 obtain ⟨X,hX⟩ : ∃ X,W.alloc (.cells #[.int .i64 ck,.int .i64 o,.int .i64 cf,.int .i64 cn,.int .i64 cm,.string cp,.string ct,.string cx,.bool ca] 50) = X:=⟨_,rfl⟩
 have hBX : Below W.heap.size W X:=by rw [← hX];exact ((Grown.refl W).alloc _).below
 have hbk : X.heap[W.heap.size]? = some (.cells #[.int .i64 ck,.int .i64 o,.int .i64 cf,.int .i64 cn,.int .i64 cm,.string cp,.string ct,.string cx,.bool ca] 50):=by rw [← hX];exact heap_alloc_last W _
 have hbase : base ≤ W.heap.size:=Nat.le_trans h.base.1 (Nat.le_of_lt h.lt)
 have hk:=h.kept hBX
 have HX : Aside (W.alloc (.cells #[.int .i64 ck,.int .i64 o,.int .i64 cf,.int .i64 cn,.int .i64 cm,.string cp,.string ct,.string cx,.bool ca] 50) = X):=hX
 have HB : Aside (Below W.heap.size W X):=hBX
 have hgX:=hg.kept (hBX.mono hbase)
 have ho4z : (o : Int) < 4:=by omega
 have hF:=number_any hk hgX hf.calm o ho4 ck cf cn cm cp ct cx ca hx
 have q1 : (ck == 1) = false:=by simpa using e1
 have q6 : (ck == 6) = false:=by simpa using e6
 have q10 : (ck == 10) = false:=by simpa using e10
 have q7 : (ck == 7) = false:=by simpa using e7
 have q8 : (ck == 8) = false:=by simpa using e8
 have q9 : (ck == 9) = false:=by simpa using e9
 have q11 : (ck == 11) = false:=by simpa using e11
 have q12 : (ck == 12) = false:=by simpa using e12
 clear h hg hf hk hgX hbk hX hBX e1 e6 e10 e7 e8 e9 e11 e12
 generalize s.numR o ck cf cn cm cx ca = R at hF ⊢
 go_enter Tryz.func58,Tryz.ntmps58
 go_wp2_with (go_at_call 91;rw [HX.out];refine hF.mono ?_;clear hF;intro r w5 hS;obtain ⟨v,rfl,HS⟩:=hS.parts HB.out;clear hS)
 go_ret2
 exact HS.out
theorem stepOf_any {base : Nat} {W : World} {S : Nat} {s : Sy} {L : Lay6} (h : SysAt base W S s L) (hg : Gl base W) (hf : s.Fine) (c : Cl) (hc : c.Small) :
  Calls Tryz.prog 58 #[.pointer (some ⟨S,0,none⟩),.agg #[.int .i64 c.kind, .int .i64 c.owner, .int .i64 c.fd, .int .i64 c.n, .int .i64 c.m, .string c.path, .string c.to, .string c.text, .bool c.alone]] W (fun r w' => StepPost base S s L (s.stepR c).1 (s.stepR c).2.1 (s.stepR c).2.2 W r w'):=by
 obtain ⟨ck,co,cf,cn,cm,cp,ct,cx,ca⟩:=c
 obtain ⟨hp,ht,hx⟩:=hc
 unfold Sy.stepR
 simp only at *
 by_cases hk : ck < 1 ∨ 16 < ck
 ·rw [if_pos hk];exact stepOf_kind h ck co cf cn cm cp ct cx ca hk
 rw [if_neg hk]
 by_cases ho : co < 0 ∨ 4 ≤ co
 ·rw [if_pos ho];exact stepOf_owner h ck co cf cn cm cp ct cx ca (by omega) (by omega) ho
 rw [if_neg ho]
 obtain ⟨o,rfl⟩ : ∃ o : Nat,co = o:=⟨co.toNat,by omega⟩
 have ho4 : o < 4:=by omega
 rw [show ((o : Int)).toNat = o from rfl]
 by_cases e1 : ck = 1
 ·rw [if_pos e1];subst e1;exact stepOf_1 h hg hf o ho4 cf cn cm cp ct cx ca hp ht
 rw [if_neg e1]
 by_cases e6 : ck = 6
 ·rw [if_pos e6];subst e6;exact stepOf_6 h hg hf o ho4 cf cn cm cp ct cx ca hp ht
 rw [if_neg e6]
 by_cases e10 : ck = 10
 ·rw [if_pos e10];subst e10;exact stepOf_10 h hg hf o ho4 cf cn cm cp ct cx ca hp ht
 rw [if_neg e10]
 by_cases e7 : ck = 7
 ·rw [if_pos (.inl e7)];subst e7;exact stepOf_7 h hg hf o ho4 cf cn cm cp ct cx ca hp ht
 by_cases e8 : ck = 8
 ·rw [if_pos (.inr e8)];subst e8;exact stepOf_8 h hg hf o ho4 cf cn cm cp ct cx ca hp ht
 rw [if_neg (by omega)]
 by_cases e9 : ck = 9
 ·rw [if_pos e9];subst e9;exact stepOf_9 h hg hf o ho4 cf cn cm cp ct cx ca hp ht
 rw [if_neg e9]
 by_cases e11 : ck = 11
 ·rw [if_pos e11];subst e11;exact stepOf_11 h hg hf o ho4 cf cn cm cp ct cx ca hp ht
 rw [if_neg e11]
 by_cases e12 : ck = 12
 ·rw [if_pos e12];subst e12;exact stepOf_12 h hg hf o ho4 cf cn cm cp ct cx ca hp ht
 rw [if_neg e12]
 exact stepOf_num h hg hf o ho4 ck cf cn cm cp ct cx ca hx (by omega) (by omega) e1 e6 e10 e7 e8 e9 e11 e12
end Go.Proofs.YthfeoiffoeagkaaGreatDoor
