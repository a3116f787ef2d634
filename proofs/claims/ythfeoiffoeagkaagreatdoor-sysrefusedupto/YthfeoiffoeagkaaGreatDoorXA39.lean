/-
  What chapter 6's closed fact is.
-/
import Derived.Test.YthfeoiffoeagkaaGreatDoorXA37
namespace Go.Proofs.YthfeoiffoeagkaaGreatDoor
open Go.RowKit PM Go.Sort
set_option linter.unusedVariables false
def fU : List Ent:=[⟨⟨#[97]⟩,1,⟨#[104,101,108,108,111]⟩,false⟩]
def jB : List Cl:=[⟨1,0,0,1,0,⟨#[97]⟩,⟨#[]⟩,⟨#[]⟩,false⟩,⟨8,0,0,0,0,⟨#[97]⟩,⟨#[]⟩,⟨#[]⟩,false⟩,⟨3,0,0,3,0,⟨#[]⟩,⟨#[]⟩,⟨#[]⟩,false⟩]
theorem Ai : (aA [[],fU]).1 = 0:=by decide
set_option maxRecDepth 1000000 in
theorem FD : (((aK [] [fU]).run jB).2[2]?).map (·.text.data.toList) = some [104,101,108]:=by decide +kernel
set_option maxRecDepth 1000000 in
theorem FB : ((aK [] [fU]).run jB).1.seen.length = 0:=by decide +kernel
set_option maxRecDepth 1000000 in
theorem F8 : ((aK [] [fU]).run jB).1.reach.length = 1:=by decide +kernel
theorem BJ {l : List Cl} {i j : Nat} {c : Cl} {v : Value} (h : l[i]? = some c) (hv : (encC c)[j]? = some v) : (l.flatMap encC)[i * 9 + j]? = some v:=by
 have hj : j < 9:=(List.getElem?_eq_some_iff.1 hv).1
 induction l generalizing i with
 | nil => simp at h
 | cons x r ih =>
  rw [List.flatMap_cons]
  cases i with
  | zero => simp at h;subst h;rw [List.getElem?_append_left (by show _ < 9;omega)];simpa using hv
  | succ i =>
   rw [List.getElem?_append_right (by show 9 ≤ _;omega),show (i + 1) * 9 + j - (encC x).length = i * 9 + j from by show (i + 1) * 9 + j - 9 = _;omega]
   exact ih (by simpa using h)
theorem EI (W : World) (l : List Cl) (a : Array Value) (ha : a = (l.flatMap encC).toArray) : gM (W.alloc (.cells a 50)) (some ⟨W.heap.size,0,none⟩) l:=by
 subst ha
 refine .inr ⟨W.heap.size,0,rfl,by simp,fun i c hc j v hv => ?_⟩
 have h1:=BJ hc hv
 have h2 : (W.alloc (.cells (l.flatMap encC).toArray 50)).heap[W.heap.size]? = some (.cells (l.flatMap encC).toArray 50):=heap_alloc_last W _
 simp only [World.cell?,h2,Nat.zero_add]
 simp [h1]
theorem gM.kept {W W' : World} {p : Option Addr} {l : List Cl} (h : gM W p l) (hB : Below W.heap.size W W') : gM W' p l:=by
 rcases h with h | ⟨b,off,hp,hb,hc⟩
 ·exact .inl h
 ·exact .inr ⟨b,off,hp,Nat.lt_of_lt_of_le hb hB.size,fun i c hi j v hv => (hB.cell (p:=⟨b,off + i * 9 + j,none⟩) hb).trans (hc i c hi j v hv)⟩
theorem Gl.up {W W' : World} (h : Gl W.heap.size W) (hB : Below W.heap.size W W') : Gl W'.heap.size W':=⟨Nat.lt_of_lt_of_le h.1 hB.size,(h.kept hB).2⟩
def uG : Array Value:=#[.string ⟨#[97]⟩,.int .i64 1,.string ⟨#[104,101,108,108,111]⟩,.bool false]
theorem D6 (w : World) : Calls Tryz.prog 47 #[] w fun r w' => ∃ b b',r = .returned (.agg #[.slice none 0 0,.slice (some ⟨b',0,none⟩) 1 1]) ∧ UnOK w' ⟨none,0,[]⟩ [⟨some ⟨b,0,none⟩,1,fU⟩] (some ⟨b',0,none⟩) 1 ∧ Below w.heap.size w w':=by
 go_enter Tryz.func47,Tryz.ntmps47
 go_wp2
 refine bodyPost_ret (v:=.agg #[.slice none 0 0,.slice (some ⟨w.heap.size + 1 + 1,0,none⟩) 1 1]) (by simp [results,Tryz.results47,go_sem]) rfl ?_
 have hO:=(oL (w.alloc (.cells #[.slice none 0 0,.slice (some ⟨w.heap.size + 1 + 1,0,none⟩) 1 1] 26)) uG 1 fU rfl (by decide) (by unfold maxLen;decide) (fun k v hk => by
   have : (fU.flatMap encE) = uG.toList:=rfl
   rw [this,Array.getElem?_toList] at hk;exact hk)).grown ((Grown.refl _).alloc (.cells #[.slice (some ⟨w.heap.size + 1,0,none⟩) 1 1] 23))
 have hs : (w.alloc (.cells #[.slice none 0 0,.slice (some ⟨w.heap.size + 1 + 1,0,none⟩) 1 1] 26)).heap.size = w.heap.size + 1:=World.size_alloc _ _
 rw [hs] at hO
 refine ⟨w.heap.size + 1,w.heap.size + 1 + 1,rfl,⟨⟨Lies.nil _ _,fun e he => by simp at he,Nat.le_refl _,by decide⟩,fun _ => rfl,.inr ⟨w.heap.size + 1 + 1,0,rfl,by simp,fun j x hx => ?_⟩,fun x hx => ?_,nofun,Nat.le_refl _⟩,(((Below.refl _ _).alloc (Nat.le_refl _) _).alloc (by simp) _).alloc (by simp;omega) _⟩
 ·cases j with
  | zero =>
   simp at hx
   subst hx
   exact rP _ _ (by simp) _ _
  | succ j => simp at hx
 ·rw [List.mem_singleton] at hx
  subst hx
  exact ⟨⟨hO.lies,by intro e he;simp [fU] at he;subst he;exact ⟨by show (ByteArray.mk #[97]).size ≤ _;unfold maxLen;decide,by show (ByteArray.mk #[104,101,108,108,111]).size ≤ _;unfold maxLen;decide⟩,Nat.le_refl _,by show fU.length < _;decide⟩,nofun⟩
set_option maxRecDepth 100000 in
set_option maxHeartbeats 1000000 in
theorem iH (w : World) (hg : Gl w.heap.size w) : Calls Tryz.prog 20 #[] w fun r w' => r = .returned (.bool true) ∧ Below w.heap.size w w':=by
 have hsm:=D6 w
 have hpl : ∀ (W : World) (b b' : Nat) (H : Nat),UnOK W ⟨none,0,[]⟩ [⟨some ⟨b,0,none⟩,1,fU⟩] (some ⟨b',0,none⟩) 1 → Gl W.heap.size W → gM W (some ⟨H,0,none⟩) jB →
   Calls Tryz.prog 16 #[.agg #[.slice none 0 0,.slice (some ⟨b',0,none⟩) 1 1],.slice (some ⟨H,0,none⟩) 3 3] W (fun r w' => ∃ a0 k0 c0 a1 k1 c1 ps sc b ac,r = .returned (.tuple #[.agg #[.slice a0 k0 c0,.slice a1 k1 c1,.slice ps 0 sc,.int .i64 1],.slice (some ⟨b,0,none⟩) 3 ac,.int .i64 0]) ∧ w'.cell? ⟨b,10,none⟩ = some (.string ⟨#[104,101,108]⟩) ∧ Below W.heap.size W w'):=fun W b b' H hU hG hC => by
  have h:=nV ⟨none,0,[]⟩ [⟨some ⟨b,0,none⟩,1,fU⟩] (some ⟨b',0,none⟩) 1 (some ⟨H,0,none⟩) 3 jB W hU hG Ai (by decide) hC (fun c hc => by simp [jB] at hc;rcases hc with rfl | rfl | rfl <;> exact ⟨by decide,by decide,by decide⟩)
  refine h.mono fun r w' ⟨y,lo,pl,cl,ps,sc,yn,ln,sn,op,pa,na,ac,e,hB,hx⟩ => ?_
  obtain ⟨e1,e2,e3,e4,e5,e6,e7,e8,e9,e10,e11,e12,e13,e14⟩:=hx.out
  have h1 : ((aK [] [fU]).run jB).1.seen.length = 0:=FB
  have h2 : ((aK [] [fU]).run jB).1.reach.length = 1:=F8
  have h3 : ((aK [] [fU]).run jB).2.length = 3:=by rw [iy];rfl
  have h4:=FD
  rw [show sn = 0 from e3.trans h1,show op = 1 from e4.trans h2,show na = 3 from e11.trans h3] at e
  rcases e14 with e14 | ⟨b1,hp,_,hc⟩
  ·have e14 : ((aK [] [fU]).run jB).2 = []:=e14
   rw [e14] at h3;cases h3
  ·rw [hp] at e
   cases ha : ((aK [] [fU]).run jB).2[2]? with
   | none => rw [ha] at h4;cases h4
   | some a =>
    rw [ha] at h4
    obtain ⟨_,_,_,_,_,hc2,_⟩:=hc 2 a ha
    have ht : a.text = ⟨#[104,101,108]⟩:=dB (by simpa using h4)
    rw [ht] at hc2
    exact ⟨_,_,_,_,_,_,_,_,_,_,e,hc2,hB⟩
 have HG : Aside (Gl w.heap.size w):=hg
 clear hg
 go_enter Tryz.func20,Tryz.ntmps20
 go_wp2_with (first
  | (go_at_call 47;refine hsm.mono ?_;clear hsm;rintro r w3 ⟨b,b',rfl,hU,hB3⟩;have H3 : Aside (UnOK w3 ⟨none,0,[]⟩ [⟨some ⟨b,0,none⟩,1,fU⟩] (some ⟨b',0,none⟩) 1 ∧ Below w.heap.size w w3):=⟨hU,hB3⟩;clear hU hB3)
  | (go_at_call 16;refine (hpl _ b b' _ (H3.out.1.kept ((Grown.refl w3).alloc _).below) (HG.out.up (Below.onto H3.out.2 ((Grown.refl w3).alloc _).below)) (EI w3 jB _ rfl)).mono ?_;clear hpl;rintro r w5 ⟨a0,k0,c0,a1,k1,c1,ps,sc,b1,ac,rfl,hc,hB5⟩;have H5 : Aside (Below w.heap.size w w5):=Below.onto (Below.onto H3.out.2 ((Grown.refl w3).alloc _).below) hB5;have hc':=Lib.cell?_alloc_some (.cells #[.slice a0 k0 c0,.slice a1 k1 c1,.slice ps 0 sc,.int .i64 1] 29) hc;clear hB5))
 go_ret
 exact ⟨rfl,H5.out.alloc H5.out.size _⟩
theorem ET {t : List Cl} {u : Value} (h : u ∈ t.flatMap encC) : u.oneCell' = true:=by
 obtain ⟨e,_,he⟩:=List.mem_flatMap.1 h
 simp [encC] at he
 rcases he with rfl | rfl | rfl | rfl | rfl | rfl | rfl | rfl | rfl <;> rfl
theorem JY : ∃ i0,Tryz.prog.info? 50 = some i0 ∧ i0.zero = some (.agg #[.int .i64 0,.int .i64 0,.int .i64 0,.int .i64 0,.int .i64 0,.string ⟨#[]⟩,.string ⟨#[]⟩,.string ⟨#[]⟩,.bool false]) ∧ i0.size = 9 ∧ i0.bytes = 96:=by
 have h : (Tryz.prog.info? 50).map (fun i => (i.zero,i.size,i.bytes)) = some (some (.agg #[.int .i64 0,.int .i64 0,.int .i64 0,.int .i64 0,.int .i64 0,.string ⟨#[]⟩,.string ⟨#[]⟩,.string ⟨#[]⟩,.bool false]),9,96):=by kernel_rfl
 cases hi : Tryz.prog.info? 50 with
 | none => rw [hi] at h;cases h
 | some i0 =>
  rw [hi] at h
  simp only [Option.map_some,Option.some.injEq,Prod.mk.injEq] at h
  exact ⟨i0,rfl,h.1,h.2.1,h.2.2⟩
def bS (w : World) (base : Nat) (v : Value) (l : List Cl) : Prop:=w.ownsRow base 50 9 v l.length (l.flatMap encC)
theorem bS.nil (w : World) (base : Nat) : bS w base (.slice none 0 0) []:=World.ownsRow_nil _ _ _ _
theorem bS.own {w : World} {base : Nat} {v : Value} {l : List Cl} (h : bS w base v l) {g : Nat} (hg : v.ownBlock = some g) : base ≤ g ∧ ∃ cur,w.heap[g]? = some (.cells cur 50 (0,0)):=by
 obtain ⟨_,⟨e,_⟩ | ⟨g',cap,cur,e,hb,hh,_⟩⟩:=h
 ·rw [e] at hg;cases hg
 ·rw [e] at hg
  simp [Value.ownBlock] at hg
  subst hg
  exact ⟨hb,cur,hh⟩
theorem bS.at {w w' : World} {base : Nat} {v : Value} {l : List Cl} (h : bS w base v l) (hk : ∀ g,v.ownBlock = some g → w'.heap[g]? = w.heap[g]?) : bS w' base v l:=by
 refine ⟨h.1,h.2.imp id ?_⟩
 rintro ⟨g,cap,cur,e,hg,hh,r⟩
 exact ⟨g,cap,cur,e,hg,(hk g (by rw [e];rfl)).trans hh,r⟩
theorem xD {W : World} {base : Nat} {v : Value} {l : List Cl} (h : bS W base v l) (hl : l ≠ []) : ∃ b c,v = .slice (some ⟨b,0,none⟩) l.length c ∧ gM W (some ⟨b,0,none⟩) l:=by
 obtain ⟨hl1,⟨hv,hn0⟩ | ⟨g,cap,cur,hv,hg,hh,hnc,hmx,hcs,ht⟩⟩:=h
 ·exact absurd (List.eq_nil_of_length_eq_zero hn0) hl
 ·refine ⟨g,cap,hv,.inr ⟨g,0,rfl,(Array.getElem?_eq_some_iff.1 hh).1,fun i c hc j u hu => ?_⟩⟩
  have h1:=BJ hc hu
  rw [← ht] at h1
  simp only [World.cell?,hh]
  have h2 : cur.toList[i * 9 + j]? = some u:=by
   rw [List.getElem?_take] at h1
   split at h1
   ·exact h1
   ·cases h1
  simp only [Nat.zero_add]
  simpa using h2
namespace PM
theorem Jm (s : Sy) (ow k : Nat) (ck cn cm : Int) (cx : ByteArray) (ca : Bool) (j : Nat) (op : Opn) (f : Fl) : (s.onR ow k ck cn cm cx ca j op f).2.2.err = 0:=by
 unfold Sy.onR
 repeat' split
 all_goals rfl
theorem Jc (s : Sy) (ow : Nat) (ck cf cn cm : Int) (cx : ByteArray) (ca : Bool) : (s.numR ow ck cf cn cm cx ca).2.2.err = 0:=by
 unfold Sy.numR
 split
 ·rfl
 ·split
  ·rfl
  ·split
   ·rfl
   ·split
    ·rfl
    ·exact Jm _ _ _ _ _ _ _ _ _ _ _
theorem Hg (s : Sy) (c : Cl) : (s.eT c).2.2.err = 0:=by
 unfold Sy.eT
 repeat' split
 all_goals first | rfl | exact Jc _ _ _ _ _ _ _ _
theorem zG (s : Sy) (c : Cl) (h : ¬ (s.answer c).2.err = 0) : (s.answer c).1 = s:=by
 unfold Sy.answer at h ⊢
 split
 ·rename_i h0
  rw [if_pos h0] at h
  exact absurd (Hg s c) h
 ·rfl
theorem Cr (s : Sy) (c : Cl) (h : c.kind = 11 ∨ c.kind = 12) : (s.answer c).1 = s:=by
 have hs : (s.eT c).2.1 = s:=by
  unfold Sy.eT
  repeat' split
  all_goals first | rfl | (exfalso;omega)
 unfold Sy.answer
 split
 ·exact hs
 ·rfl
theorem uU (p : Cl × An → Bool) (hp : ∀ (s : Sy) (c : Cl),p (c,(s.answer c).2) = false → (s.answer c).1 = s) : ∀ (l : List Cl) (s : Sy),s.run (((l.zip (s.run l).2).filter p).map (·.1)) = ((s.run l).1,((l.zip (s.run l).2).filter p).map (·.2))
 | [],s => rfl
 | c :: l,s => by
  have ih:=uU p hp l (s.answer c).1
  rw [Sy.run]
  simp only [List.zip_cons_cons]
  cases h : p (c,(s.answer c).2) with
  | true =>
   rw [List.filter_cons_of_pos (by simpa using h),List.map_cons,List.map_cons,Sy.run]
   simp only
   rw [ih]
  | false =>
   rw [List.filter_cons_of_neg (by simp [h])]
   have:=hp s c h
   rw [this] at ih ⊢
   exact ih
end PM
end Go.Proofs.YthfeoiffoeagkaaGreatDoor
