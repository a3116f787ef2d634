/-
  Settling: the union is another one.
-/
import Derived.Test.YthfeoiffoeagkaaGreatDoorVA26
namespace Go.Proofs.YthfeoiffoeagkaaGreatDoor
open Go.RowKit PM Go.Sort
set_option linter.unusedVariables false
theorem cell_eq {W X : World} {b : Nat} (h : X.heap[b]? = W.heap[b]?) (i : Nat) : X.cell? ⟨b,i,none⟩ = W.cell? ⟨b,i,none⟩:=by simp [World.cell?,h]
theorem heap_setS {W : World} {b : Nat} {arr : Array Value} {t : TypeId} {fr : Nat × Nat} (h : W.heap[b]? = some (.cells arr t fr)) (i : Nat) (v : Value) : (W.setCell ⟨b,i,none⟩ v).heap[b]? = some (.cells (arr.setIfInBounds i v) t fr):=by
 simp [World.setCell,Array.getElem?_modify,h]
theorem Lies.st {sp : Nat → Prop} {W : World} {p : Option Addr} {l : List Ent} (h : Lies W p l) (hn : ∀ b off s,p = some ⟨b,off,s⟩ → ¬ sp b) : St sp W (fun X => Lies X p l):=fun X hX => by
 rcases h with h | ⟨b,off,hp,hb,hc⟩
 ·exact .inl h
 ·exact .inr ⟨b,off,hp,Nat.lt_of_lt_of_le hb hX.size,fun j e he i v hv => (cell_eq (hX.block b hb (hn b off none hp)) _).trans (hc j e he i v hv)⟩
theorem LiesT.st {sp : Nat → Prop} {W : World} {p : Option Addr} {l : List Lay} (h : LiesT W p l) (hn : ∀ b off s,p = some ⟨b,off,s⟩ → ¬ sp b) : St sp W (fun X => LiesT X p l):=fun X hX => by
 rcases h with h | ⟨b,off,hp,hb,hc⟩
 ·exact .inl h
 ·exact .inr ⟨b,off,hp,Nat.lt_of_lt_of_le hb hX.size,fun j e he => (cell_eq (hX.block b hb (hn b off none hp)) _).trans (hc j e he)⟩
theorem LLies.st {sp : Nat → Prop} {W : World} {p : Option Addr} {l : List LK.Lk} (h : LK.Lies W p l) (hn : ∀ b off s,p = some ⟨b,off,s⟩ → ¬ sp b) : St sp W (fun X => LK.Lies X p l):=fun X hX => by
 rcases h with h | ⟨b,off,hp,hb,hc⟩
 ·exact .inl h
 ·exact .inr ⟨b,off,hp,Nat.lt_of_lt_of_le hb hX.size,fun j e he i v hv => (cell_eq (hX.block b hb (hn b off none hp)) _).trans (hc j e he i v hv)⟩
theorem UnOK.st {sp : Nat → Prop} {W : World} {y : Lay} {lo : List Lay} {pl : Option Addr} {cl B : Nat} (h : UnOK W y lo pl cl) (hn : UnNew B y lo pl) (hB : ∀ b,sp b → b < B) : St sp W (fun X => UnOK X y lo pl cl):=fun X hX => by
 have no : ∀ b,B ≤ b → ¬ sp b:=fun b hb hs => absurd (hB b hs) (by omega)
 refine ⟨⟨Lies.st h.up.lies (fun b off s e => no b (hn.1 b off s e)) X hX,h.up.fits,h.up.cap,h.up.small⟩,h.upn,LiesT.st h.lies (fun b off s e => no b (hn.2.1 b off s e)) X hX,fun x hx => ⟨?_,(h.each x hx).2⟩,h.nil,h.cap⟩
 have:=(h.each x hx).1
 exact ⟨Lies.st this.lies (fun b off s e => no b (hn.2.2 x hx b off s e)) X hX,this.fits,this.cap,this.small⟩
def Gl (base : Nat) (W : World) : Prop:=0 < base ∧ ∃ m,W.cell? ⟨0,0,none⟩ = some (.int .i64 m)
theorem Gl.kept {base : Nat} {W X : World} (h : Gl base W) (hB : Below base W X) : Gl base X:=⟨h.1,h.2.imp fun m hm => (hB.cell (p:=⟨0,0,none⟩) h.1).trans hm⟩
section
variable {base : Nat} {W X : World} {S : Nat} {s : Sy} {L : Lay6}
theorem SysAt.one (h : SysAt base W S s L) {j : Nat} (hj : j < s.opens.length) : L.ob j ≠ S:=fun e => by
 obtain ⟨arr,hb,_⟩:=h.blk
 have:=h.opn j _ (List.getElem?_eq_getElem hj)
 rw [e,hb] at this
 simp at this
theorem SysAt.fne (h : SysAt base W S s L) {i : Nat} (hi : i < s.files.length) : L.fb i ≠ S:=fun e => by
 obtain ⟨arr,hb,_⟩:=h.blk
 have:=h.fil i _ (List.getElem?_eq_getElem hi)
 rw [e,hb] at this
 simp at this
theorem SysAt.ofne (h : SysAt base W S s L) {i j : Nat} (hi : i < s.files.length) (hj : j < s.opens.length) : L.ob j ≠ L.fb i:=fun e => by
 have h1:=h.fil i _ (List.getElem?_eq_getElem hi)
 have h2:=h.opn j _ (List.getElem?_eq_getElem hj)
 rw [e,h1] at h2
 simp at h2
theorem SysAt.spBase (h : SysAt base W S s L) {b : Nat} (hb : Sp S s L b) : base ≤ b ∧ b < W.heap.size:=by
 rcases hb with (rfl | hx) | ⟨j,hj,rfl⟩ | ⟨i,hi,rfl⟩
 ·exact ⟨h.base.1,h.lt⟩
 ·exact h.exb b hx
 ·exact ⟨h.base.2.1 j hj,h.olt hj⟩
 ·exact ⟨h.base.2.2 i hi,h.flt hi⟩
end
def PM.Sy.withU (s : Sy) (up : List Ent) (lows : List (List Ent)) : Sy:={ s with up:=up,lows:=lows }
def SetPost (base S : Nat) (s' : Sy) (L : Lay6) (W W' : World) : Prop:=∃ L' : Lay6,SysAt base W' S s' L' ∧ L'.ob = L.ob ∧ L'.fb = L.fb ∧ L'.ex = L.ex ∧ Below base W W' ∧ Keep (· = S) W W'
theorem SysAt.reset {base : Nat} {W X : World} {S : Nat} {s : Sy} {L : Lay6} (h : SysAt base W S s L) (hk : Keep (· = S) W X) (y : Lay) (lo : List Lay) (pl : Option Addr) (cl : Nat) (p : Option Addr) (c : Nat)
  (hA : ∃ arr : Array Value,X.heap[S]? = some (.cells arr 83 (0,0)) ∧ arr.size = 35 ∧ arr[0]? = some (.slice y.ad y.es.length y.cap) ∧ arr[1]? = some (.slice pl lo.length cl) ∧ arr[2]? = some (.slice p (seenU (y.es :: lo.map (·.es))).length c) ∧ ∀ k,k < 32 → arr[3 + k]? = some (.pointer ((s.fds k).map fun j => ⟨L.ob j,0,none⟩)))
  (hU : St (Sp S s L) W (fun X => UnOK X y lo pl cl)) (hL : St (Sp S s L) X (fun X => Lies X p (seenU (y.es :: lo.map (·.es))))) (hc : (seenU (y.es :: lo.map (·.es))).length ≤ c) (hn : p = none → c = 0) :
  SysAt base X S (s.withU y.es (lo.map (·.es))) { L with y:=y,lo:=lo,pl:=pl,cl:=cl,ps:=p,sc:=c }:=by
 have hks : Keep (Sp S s L) W X:=⟨hk.size,fun b hb hn => hk.block b hb (fun e => hn (.inl (.inl e)))⟩
 refine ⟨hA,fun j o ho => (hk.block _ (h.olt (List.getElem?_eq_some_iff.1 ho).1) (h.one (List.getElem?_eq_some_iff.1 ho).1)).trans (h.opn j o ho),fun i f hf => (hk.block _ (h.flt (List.getElem?_eq_some_iff.1 hf).1) (h.fne (List.getElem?_eq_some_iff.1 hf).1)).trans (h.fil i f hf),h.injO,h.injF,?_,rfl,rfl,hc,hn,h.val1,h.val2,fun b hb => ⟨(h.exb b hb).1,Nat.lt_of_lt_of_le (h.exb b hb).2 hk.size⟩,h.base⟩
 intro Y hY
 exact ⟨hU Y (hks.trans hY),hL Y hY,(h.data Y (hks.trans hY)).locks⟩
set_option maxHeartbeats 1000000 in
theorem settle_any {base : Nat} {W : World} {S : Nat} {s : Sy} {L : Lay6} (h : SysAt base W S s L) (hg : Gl base W) (y : Lay) (lo : List Lay) (pl : Option Addr) (cl : Nat) (hU : St (Sp S s L) W (fun X => UnOK X y lo pl cl)) (h0 : (wrongU (y.es :: lo.map (·.es))).1 = 0) :
  Calls Tryz.prog 124 #[.pointer (some ⟨S,0,none⟩),.agg #[.slice y.ad y.es.length y.cap,.slice pl lo.length cl]] W fun r W' => r = .returned (.tuple #[]) ∧ SetPost base S (s.withU y.es (lo.map (·.es))) L W W':=by
 obtain ⟨c0,c1,c2⟩:=h.cells
 have f0:=h.frz 0
 have f1:=h.frz 1
 have f2:=h.frz 2
 have n0:=World.new_ne W ⟨S,0,none⟩ c0
 have n1:=World.new_ne W ⟨S,1,none⟩ c1
 have n3 : ¬ W.heap.size = S:=by have:=h.lt;omega
 have n4 : ¬ S = W.heap.size:=by have:=h.lt;omega
 have HS : Aside (SysAt base W S s L):=h
 obtain ⟨yn,hyn⟩ : ∃ yn,yn = y.es.length:=⟨_,rfl⟩
 obtain ⟨ln,hln⟩ : ∃ ln,ln = lo.length:=⟨_,rfl⟩
 obtain ⟨W1,hW1⟩ : ∃ W1,(W.setCell ⟨S,0,none⟩ (.slice y.ad y.es.length y.cap)).setCell ⟨S,1,none⟩ (.slice pl lo.length cl) = W1:=⟨_,rfl⟩
 obtain ⟨W2,hW2⟩ : ∃ W2,W1.alloc (.cells #[.slice y.ad y.es.length y.cap,.slice pl lo.length cl] 26) = W2:=⟨_,rfl⟩
 have hB12 : Below W1.heap.size W1 W2:=by rw [← hW2];exact ((Grown.refl W1).alloc _).below
 have hs1 : W1.heap.size = W.heap.size:=by rw [← hW1];simp [World.setCell]
 have hk2 : Keep (Sp S s L) W W2:=by
  refine Keep.trans ?_ (Keep.of_below _ hB12)
  rw [← hW1];exact (Keep.set (.inl (.inl rfl)) _ _ _).trans (Keep.set (.inl (.inl rfl)) _ _ _)
 have hB2 : Below base W W2:=by
  have h1 : Below base W W1:=by rw [← hW1];exact ((Below.refl _ _).setCell (p:=⟨S,0,none⟩) h.base.1 _).setCell (p:=⟨S,1,none⟩) h.base.1 _
  exact h1.trans (hB12.mono (by rw [hs1];exact Nat.le_trans h.base.1 (Nat.le_of_lt h.lt)))
 obtain ⟨m,hm⟩:=(hg.kept hB2).2
 obtain ⟨sl,hsl⟩ : ∃ sl,sl = seenU (y.es :: lo.map (·.es)):=⟨_,rfl⟩
 have hsn:=seen_any y lo m pl cl W2 (hU W2 hk2) hm
 rw [h0,← hsl] at hsn
 obtain ⟨sn,hsn'⟩ : ∃ sn,sn = sl.length:=⟨_,rfl⟩
 have hkS : Keep (· = S) W W2:=by
  refine Keep.trans ?_ (Keep.of_below _ hB12)
  rw [← hW1];exact (Keep.set (sp:=(· = S)) rfl _ _ _).trans (Keep.set (sp:=(· = S)) rfl _ _ _)
 have HK : Aside (Keep (· = S) W W2 ∧ Below base W W2):=⟨hkS,hB2⟩
 have HN : Aside (yn = y.es.length ∧ ln = lo.length ∧ sn = sl.length ∧ sl = seenU (y.es :: lo.map (·.es))):=⟨hyn,hln,hsn',hsl⟩
 have hSn : S < W.heap.size:=h.lt
 have HU : Aside (St (Sp S s L) W (fun X => UnOK X y lo pl cl)):=hU
 rw [← hyn,← hln] at hW1 hW2 ⊢
 have HW : Aside (W1.alloc (.cells #[.slice y.ad yn y.cap,.slice pl ln cl] 26) = W2 ∧ (W.setCell ⟨S,0,none⟩ (.slice y.ad yn y.cap)).setCell ⟨S,1,none⟩ (.slice pl ln cl) = W1):=⟨hW2,hW1⟩
 have hsn2 : Calls Tryz.prog 21 #[.agg #[.slice y.ad yn y.cap,.slice pl ln cl]] W2 (fun r w' => ∃ p c,r = .returned (.tuple #[.slice p sn c,.int .i64 0]) ∧ Aside (Lies w' p sl ∧ sl.length ≤ c ∧ (p = none → c = 0) ∧ Below W2.heap.size W2 w' ∧ ∀ b off s,p = some ⟨b,off,s⟩ → W2.heap.size ≤ b)):=by
  rw [hyn,hln,hsn']
  exact hsn.mono fun r w' ⟨p,c,e,a1,a2,a3,a4,a5⟩ => ⟨p,c,e,a1,a2,a3,a4,a5⟩
 have HA : Aside (∃ arr : Array Value,W2.heap[S]? = some (.cells arr 83 (0,0)) ∧ arr.size = 35 ∧ arr[0]? = some (.slice y.ad yn y.cap) ∧ arr[1]? = some (.slice pl ln cl) ∧ ∀ k,k < 32 → arr[3 + k]? = some (.pointer ((s.fds k).map fun j => ⟨L.ob j,0,none⟩))):=by
  show ∃ arr : Array Value,_
  obtain ⟨arr,hb,hsz,_,_,_,hf⟩:=h.blk
  have hb2:=heap_setS (heap_setS hb 0 (.slice y.ad yn y.cap)) 1 (.slice pl ln cl)
  rw [hW1] at hb2
  refine ⟨_,(hB12.block S (by rw [hs1];exact h.lt)).trans hb2,by simp [hsz],?_,?_,fun k hk => ?_⟩
  ·rw [Array.getElem?_setIfInBounds_ne (by omega),Array.getElem?_setIfInBounds_self_of_lt (by omega)]
  ·rw [Array.getElem?_setIfInBounds_self_of_lt (by simp;omega)]
  ·rw [Array.getElem?_setIfInBounds_ne (by omega),Array.getElem?_setIfInBounds_ne (by omega)];exact hf k hk
 have HS2 : Aside (W2.frozen? ⟨S,2,none⟩ = false ∧ ∃ v,W2.cell? ⟨S,2,none⟩ = some v):=by
  obtain ⟨arr,hb,hsz,_⟩:=HA.out
  exact ⟨by simp [World.frozen?,hb],by simp [World.cell?,hb,hsz]⟩
 have hs2 : W2.heap.size = W.heap.size + 1:=by rw [← hW2,← hW1];simp [World.setCell]
 rw [← hW2,← hW1] at hsn2
 clear hkS hk2 hB2 hm hB12 hsn hs1 hsl hsn' hW2 hW1 hU h0 h hyn hln
 go_enter Tryz.func124,Tryz.ntmps124
 go_wp2_with (go_at_call 21;refine hsn2.mono ?_;clear hsn2;rintro r w3 ⟨p,c,rfl,H3⟩;rw [HW.out.2,HW.out.1] at H3;have d2 : w3.frozen? ⟨S,2,none⟩ = false:=(H3.out.2.2.2.1.frozen (p:=⟨S,2,none⟩) (by show S < _;omega)).trans HS2.out.1;obtain ⟨v2,hv2⟩:=HS2.out.2;have e2 : w3.cell? ⟨S,2,none⟩ = some v2:=(H3.out.2.2.2.1.cell (p:=⟨S,2,none⟩) (by show S < _;omega)).trans hv2)
 refine bodyPost_end (results_none rfl _ _ _) rfl ?_
 refine ⟨rfl,?_⟩
 obtain ⟨hL3,hlc,hpn,hB3,hnew⟩:=H3.out
 obtain ⟨e1,e2',e3,e4⟩:=HN.out
 subst e1 e2' e3 e4
 obtain ⟨arr,hb,hsz,a0,a1,af⟩:=HA.out
 have hb3:=(hB3.block S (by omega)).trans hb
 refine ⟨_,SysAt.reset HS.out ((HK.out.1.trans (Keep.of_below _ hB3)).trans (Keep.set (sp:=(· = S)) rfl _ 2 _)) y lo pl cl p c ⟨_,heap_setS hb3 2 _,by simp [hsz],?_,?_,?_,fun k hk => ?_⟩ HU.out ?_ hlc hpn,rfl,rfl,rfl,?_,(HK.out.1.trans (Keep.of_below _ hB3)).trans (Keep.set (sp:=(· = S)) rfl _ 2 _)⟩
 ·rw [Array.getElem?_setIfInBounds_ne (by omega)];exact a0
 ·rw [Array.getElem?_setIfInBounds_ne (by omega)];exact a1
 ·rw [Array.getElem?_setIfInBounds_self_of_lt (by omega)]
 ·rw [Array.getElem?_setIfInBounds_ne (by omega)];exact af k hk
 ·refine St.on (Lies.st hL3 (fun b off s' e hsp => ?_)) (Keep.set (.inl (.inl rfl)) _ 2 _)
  have h1:=hnew b off s' e
  have h2:=(HS.out.spBase hsp).2
  omega
 ·exact (HK.out.2.trans (hB3.mono (Nat.le_trans HS.out.base.1 (by omega)))).setCell (p:=⟨S,2,none⟩) HS.out.base.1 _
def PM.Sy.freeOf (s : Sy) (o : Nat) : Int:=match (List.range 8).find? (fun k => (s.fds (o * 8 + k)).isNone) with
 | some k => k
 | none => -1
theorem free_some {s : Sy} {o k : Nat} (hk : k < 8) (h0 : s.fds (o * 8 + k) = none) (h1 : ∀ j,j < k → ¬ s.fds (o * 8 + j) = none) : s.freeOf o = k:=by
 have : (List.range 8).find? (fun k => (s.fds (o * 8 + k)).isNone) = some k:=by
  rw [List.find?_range_eq_some]
  exact ⟨by simp [h0],by simpa using hk,fun j hj => by
   have:=h1 j hj
   cases h : s.fds (o * 8 + j) with
   | none => exact absurd h this
   | some x => rfl⟩
 rw [Sy.freeOf,this]
theorem free_none {s : Sy} {o : Nat} (h1 : ∀ j,j < 8 → ¬ s.fds (o * 8 + j) = none) : s.freeOf o = -1:=by
 have : (List.range 8).find? (fun k => (s.fds (o * 8 + k)).isNone) = none:=by
  rw [List.find?_eq_none]
  intro j hj
  have:=h1 j (by simpa using hj)
  simp [Option.isNone_iff_eq_none,this]
 rw [Sy.freeOf,this]
theorem free_lt (s : Sy) (o : Nat) : s.freeOf o = -1 ∨ ∃ k : Nat,k < 8 ∧ s.freeOf o = k ∧ s.fds (o * 8 + k) = none:=by
 unfold Sy.freeOf
 cases h : (List.range 8).find? (fun k => (s.fds (o * 8 + k)).isNone) with
 | none => exact .inl rfl
 | some k =>
  have h1:=List.find?_some h
  have h2:=List.mem_of_find?_eq_some h
  exact .inr ⟨k,by simpa using h2,rfl,by simpa using h1⟩
theorem eqNP (w : World) (a : Addr) : (binOp .eql 78 (.pointer none) (.pointer (some a))).run Tryz.prog w = .ok (.bool false) w:=by
 obtain ⟨i0,hi,hz⟩ : ∃ i0,Tryz.prog.info? 116 = some i0 ∧ i0.size ≠ 0:=by
  have h : (Tryz.prog.info? 116).map (fun i => i.size) = some 3:=by kernel_rfl
  cases hi : Tryz.prog.info? 116 with
  | none => rw [hi] at h;cases h
  | some i0 =>
   rw [hi] at h
   simp only [Option.map_some,Option.some.injEq] at h
   exact ⟨i0,rfl,by omega⟩
 have h : ∀ d : Nat,(Op.equalIn (d + 1) 78 (.pointer none) (.pointer (some a))).run Tryz.prog w = .ok false w:=fun d => by
  simp [Op.equalIn,run_underlying Tryz.underlying78,sizeOf,typeInfo]
 simp only [binOp]
 simp [Op.equal,Op.maxDepth,h 9999]
set_option maxRecDepth 100000 in
theorem indexO_any {base : Nat} {W : World} {S : Nat} {s : Sy} {L : Lay6} (h : SysAt base W S s L) (o : Nat) (ho : o < 4) :
  Calls Tryz.prog 169 #[.slice (some ⟨S,3 + o * 8,none⟩) 8 8,.pointer none] W fun r w' => r = .returned (.int .i64 (s.freeOf o)) ∧ Below W.heap.size W w':=by
 have HS : Aside (SysAt base W S s L):=h
 clear h
 generalize hR : s.freeOf o = R
 have HR : Aside (s.freeOf o = R):=hR
 clear hR
 go_enter Tryz.func169,Tryz.ntmps169
 go_wp2
 go_loopg [8] 8 (fun gg s7 wr => ∃ k : Nat,k ≤ 8 ∧ 8 - k ≤ gg ∧ s7 = .int .i64 k ∧ Aside (Below W.heap.size W wr) ∧ Aside (∀ j,j < k → ¬ s.fds (o * 8 + j) = none))
 case atStart => exact ⟨0,Nat.zero_le _,by omega,rfl,Below.refl _ _,fun j hj => absurd hj (by omega)⟩
 case round =>
  obtain ⟨k,hk,hgg,rfl,BW,HA⟩:=hrel
  by_cases hlt : k < 8
  ·have hltz : (k : Int) < 8:=by omega
   have c0 : wr.cell? ⟨S,3 + o * 8 + k,none⟩ = some (.pointer ((s.fds (o * 8 + k)).map fun j => ⟨L.ob j,0,none⟩)):=by
    rw [Nat.add_assoc 3];exact (HS.out.kept BW.out).fd (by omega)
   cases hf : s.fds (o * 8 + k) with
   | none =>
    rw [hf] at c0
    have c0 : wr.cell? ⟨S,3 + o * 8 + k,none⟩ = some (.pointer none):=c0
    have HZ : Aside (R = (k : Int)):=by show _ = _;rw [← HR.out];exact free_some hlt hf HA.out
    go_wp2
    go_ret
    exact ⟨by rw [HZ.out];rfl,BW.out⟩
   | some j =>
    rw [hf] at c0
    have c0 : wr.cell? ⟨S,3 + o * 8 + k,none⟩ = some (.pointer (some ⟨L.ob j,0,none⟩)):=c0
    have HZ : Aside (∀ i,i < k + 1 → ¬ s.fds (o * 8 + i) = none):=by
     show ∀ i,_
     intro i hi
     rcases Nat.lt_or_ge i k with h | h
     ·exact HA.out i h
     ·rw [show i = k by omega,hf];simp
    have qs:=fun v : World => eqNP v ⟨L.ob j,0,none⟩
    go_wp2
    go_roundg (8 - (k + 1))
    case measure => omega
    case rel => exact ⟨k + 1,by omega,by omega,by go_num,BW.out,HZ.out⟩
  ·have hltz : ¬ (k : Int) < 8:=by omega
   have HZ : Aside (R = -1):=by show _ = _;rw [← HR.out];exact free_none (fun j hj => HA.out j (by omega))
   go_wp2
   go_ret
   exact ⟨by rw [HZ.out];rfl,BW.out⟩
theorem freeP_any {base : Nat} {W : World} {S : Nat} {s : Sy} {L : Lay6} (h : SysAt base W S s L) (o : Nat) (ho : o < 4) :
  Calls Tryz.prog 120 #[.pointer (some ⟨S,3 + o * 8,none⟩)] W fun r w' => r = .returned (.tuple #[.int .i64 (if s.freeOf o < 0 then 0 else s.freeOf o),.int .i64 (if s.freeOf o < 0 then 5 else 0)]) ∧ Below W.heap.size W w':=by
 have hI:=indexO_any h o ho
 clear h
 generalize s.freeOf o = R at hI ⊢
 by_cases hR : R < 0
 ·rw [if_pos hR,if_pos hR]
  go_enter Tryz.func120,Tryz.ntmps120
  go_wp2_with (go_at_call 169;refine hI.mono ?_;clear hI;rintro e w1 ⟨rfl,hB⟩)
  go_ret2
  exact ⟨rfl,hB⟩
 ·rw [if_neg hR,if_neg hR]
  go_enter Tryz.func120,Tryz.ntmps120
  go_wp2_with (go_at_call 169;refine hI.mono ?_;clear hI;rintro e w1 ⟨rfl,hB⟩)
  go_ret2
  exact ⟨rfl,hB⟩
def PM.has (use x : Int) : Bool:=bits BinOp.and IntKind.i64 use x != 0
namespace PM
def Sy.setF (s : Sy) (i : Nat) (f : Fl) : Sy:={ s with files:=s.files.set i f }
def Sy.setO (s : Sy) (j : Nat) (o : Opn) : Sy:={ s with opens:=s.opens.set j o }
def Sy.setFd (s : Sy) (k : Nat) (j : Option Nat) : Sy:={ s with fds:=fun x => if x = k then j else s.fds x }
def Sy.addFl (s : Sy) (f : Fl) : Sy:={ s with files:=s.files ++ [f] }
def Sy.addOp (s : Sy) (o : Opn) : Sy:={ s with opens:=s.opens ++ [o] }
end PM
section
variable {base : Nat} {W X : World} {S : Nat} {s : Sy} {L : Lay6}
theorem get_set {α : Type} {l : List α} {i k : Nat} {x y : α} (h : (l.set i x)[k]? = some y) : (k = i ∧ y = x ∧ i < l.length) ∨ (k ≠ i ∧ l[k]? = some y):=by
 rw [List.getElem?_set] at h
 split at h
 ·rename_i e
  split at h
  ·rename_i hl
   exact .inl ⟨e.symm,by injection h with h;exact h.symm,hl⟩
  ·cases h
 ·rename_i e
  exact .inr ⟨fun e' => e e'.symm,h⟩
theorem SysAt.file (h : SysAt base W S s L) {i : Nat} {f f' : Fl} (hf : s.files[i]? = some f) (lp : Option Addr × Nat) (hk : Keep (· = L.fb i) W X) (hb : X.heap[L.fb i]? = some (.cells #[.string f'.path,.string f'.text,.slice lp.1 f'.locks.length lp.2] 203 (0,0)))
  (hl : St (Sp S s L) X (fun X => LK.Lies X lp.1 f'.locks)) (hc : f'.locks.length ≤ lp.2) (hn : lp.1 = none → lp.2 = 0) : SysAt base X S (s.setF i f') { L with lp:=fun k => if k = i then lp else L.lp k }:=by
 have hi:=(List.getElem?_eq_some_iff.1 hf).1
 have hks : Keep (Sp S s L) W X:=⟨hk.size,fun b hb hn => hk.block b hb (fun e => hn (.inr (.inr ⟨i,hi,e⟩)))⟩
 have hsp : ∀ b,Sp S (s.setF i f') { L with lp:=fun k => if k = i then lp else L.lp k } b ↔ Sp S s L b:=fun b => by simp [Sp,Sy.setF]
 refine ⟨?_,fun j o ho => ?_,fun k g hg => ?_,h.injO,fun a b ha hb => h.injF a b (by simpa [Sy.setF] using ha) (by simpa [Sy.setF] using hb),?_,h.up,h.low,h.scap,h.snil,h.val1,fun o ho => by simpa [Sy.setF] using h.val2 o ho,fun b hb => ⟨(h.exb b hb).1,Nat.lt_of_lt_of_le (h.exb b hb).2 hk.size⟩,⟨h.base.1,h.base.2.1,fun k hk => h.base.2.2 k (by simpa [Sy.setF] using hk)⟩⟩
 ·obtain ⟨arr,ha,h1⟩:=h.blk
  exact ⟨arr,(hk.block S h.lt (fun e => h.fne hi e.symm)).trans ha,h1⟩
 ·exact (hk.block _ (h.olt (List.getElem?_eq_some_iff.1 ho).1) (h.ofne hi (List.getElem?_eq_some_iff.1 ho).1)).trans (h.opn j o ho)
 ·rcases get_set hg with ⟨rfl,rfl,_⟩ | ⟨hne,hg⟩
  ·simpa using hb
  ·have hkl:=(List.getElem?_eq_some_iff.1 hg).1
   show X.heap[L.fb k]? = some (.cells #[_,_,.slice (if k = i then lp else L.lp k).1 _ (if k = i then lp else L.lp k).2] _ _)
   rw [if_neg hne]
   exact (hk.block _ (h.flt hkl) (fun e => hne (h.injF k i hkl hi e))).trans (h.fil k g hg)
 ·intro Y hY
  have hZ : Keep (Sp S s L) X Y:=⟨hY.size,fun b hb hn => hY.block b hb (fun e => hn ((hsp b).1 e))⟩
  have hd:=h.data Y (hks.trans hZ)
  refine ⟨hd.un,hd.seen,fun k g hg => ?_⟩
  show LK.Lies Y (if k = i then lp else L.lp k).1 g.locks ∧ g.locks.length ≤ (if k = i then lp else L.lp k).2 ∧ ((if k = i then lp else L.lp k).1 = none → (if k = i then lp else L.lp k).2 = 0)
  rcases get_set hg with ⟨rfl,rfl,_⟩ | ⟨hne,hg⟩
  ·rw [if_pos rfl];exact ⟨hl Y hZ,hc,hn⟩
  ·rw [if_neg hne];exact hd.locks k g hg
theorem SysAt.opening (h : SysAt base W S s L) {j : Nat} {o o' : Opn} (ho : s.opens[j]? = some o) (hof : o'.file = o.file) (hk : Keep (· = L.ob j) W X) (hb : X.heap[L.ob j]? = some (.cells #[.pointer (some ⟨L.fb o'.file,0,none⟩),.int .i64 o'.use,.int .i64 o'.pos] 116 (0,0))) : SysAt base X S (s.setO j o') L:=by
 have hj:=(List.getElem?_eq_some_iff.1 ho).1
 have hks : Keep (Sp S s L) W X:=⟨hk.size,fun b hb hn => hk.block b hb (fun e => hn (.inr (.inl ⟨j,hj,e⟩)))⟩
 have hsp : ∀ b,Sp S (s.setO j o') L b ↔ Sp S s L b:=fun b => by simp [Sp,Sy.setO]
 refine ⟨?_,fun k g hg => ?_,fun i f hf => ?_,fun a b ha hb => h.injO a b (by simpa [Sy.setO] using ha) (by simpa [Sy.setO] using hb),h.injF,?_,h.up,h.low,h.scap,h.snil,fun k j' hk => by simpa [Sy.setO] using h.val1 k j' hk,fun g hg => ?_,fun b hb => ⟨(h.exb b hb).1,Nat.lt_of_lt_of_le (h.exb b hb).2 hk.size⟩,⟨h.base.1,fun k hk => h.base.2.1 k (by simpa [Sy.setO] using hk),h.base.2.2⟩⟩
 ·obtain ⟨arr,ha,h1⟩:=h.blk
  exact ⟨arr,(hk.block S h.lt (fun e => h.one hj e.symm)).trans ha,h1⟩
 ·rcases get_set hg with ⟨rfl,rfl,_⟩ | ⟨hne,hg⟩
  ·exact hb
  ·have hkl:=(List.getElem?_eq_some_iff.1 hg).1
   exact (hk.block _ (h.olt hkl) (fun e => hne (h.injO k j hkl hj e))).trans (h.opn k g hg)
 ·have hi:=(List.getElem?_eq_some_iff.1 hf).1
  exact (hk.block _ (h.flt hi) (fun e => h.ofne hi hj e.symm)).trans (h.fil i f hf)
 ·intro Y hY
  have hY : Keep (Sp S s L) X Y:=⟨hY.size,fun b hb hn => hY.block b hb (fun e => hn ((hsp b).1 e))⟩
  exact ⟨(h.data Y (hks.trans hY)).un,(h.data Y (hks.trans hY)).seen,(h.data Y (hks.trans hY)).locks⟩
 ·obtain ⟨k,hkl,hkg⟩:=List.mem_iff_getElem.1 hg
  rcases get_set (List.getElem?_eq_some_iff.2 ⟨hkl,hkg⟩) with ⟨_,rfl,_⟩ | ⟨_,hg'⟩
  ·rw [hof];exact h.val2 o (List.mem_of_getElem? ho)
  ·exact h.val2 g (List.mem_of_getElem? hg')
theorem SysAt.number (h : SysAt base W S s L) {k : Nat} (hk32 : k < 32) (j : Option Nat) (hj : ∀ x,j = some x → x < s.opens.length) (v : Value) (hv : v = .pointer (j.map fun j => ⟨L.ob j,0,none⟩)) : SysAt base (W.setCell ⟨S,3 + k,none⟩ v) S (s.setFd k j) L:=by
 have hk : Keep (· = S) W (W.setCell ⟨S,3 + k,none⟩ v):=Keep.set (sp:=(· = S)) rfl _ _ _
 have hks : Keep (Sp S s L) W (W.setCell ⟨S,3 + k,none⟩ v):=⟨hk.size,fun b hb hn => hk.block b hb (fun e => hn (.inl (.inl e)))⟩
 refine ⟨?_,fun j o ho => (hk.block _ (h.olt (List.getElem?_eq_some_iff.1 ho).1) (h.one (List.getElem?_eq_some_iff.1 ho).1)).trans (h.opn j o ho),fun i f hf => (hk.block _ (h.flt (List.getElem?_eq_some_iff.1 hf).1) (h.fne (List.getElem?_eq_some_iff.1 hf).1)).trans (h.fil i f hf),h.injO,h.injF,fun Y hY => ?_,h.up,h.low,h.scap,h.snil,fun a b hab => ?_,h.val2,fun b hb => ⟨(h.exb b hb).1,Nat.lt_of_lt_of_le (h.exb b hb).2 hk.size⟩,h.base⟩
 ·obtain ⟨arr,ha,hs,a0,a1,a2,af⟩:=h.blk
  refine ⟨_,heap_setS ha (3 + k) v,by simp [hs],?_,?_,?_,fun x hx => ?_⟩
  ·rw [Array.getElem?_setIfInBounds_ne (by omega)];exact a0
  ·rw [Array.getElem?_setIfInBounds_ne (by omega)];exact a1
  ·rw [Array.getElem?_setIfInBounds_ne (by omega)];exact a2
  ·by_cases e : x = k
   ·subst e
    rw [Array.getElem?_setIfInBounds_self_of_lt (by omega),hv]
    show _ = some (Value.pointer (((if x = x then j else s.fds x)).map _))
    rw [if_pos rfl]
   ·rw [Array.getElem?_setIfInBounds_ne (by omega),af x hx]
    show _ = some (Value.pointer (((if x = k then j else s.fds x)).map _))
    rw [if_neg e]
 ·exact ⟨(h.data Y (hks.trans hY)).un,(h.data Y (hks.trans hY)).seen,(h.data Y (hks.trans hY)).locks⟩
 ·have hab : (if a = k then j else s.fds a) = some b:=hab
  by_cases e : a = k
  ·rw [if_pos e] at hab;exact hj b hab
  ·rw [if_neg e] at hab;exact h.val1 a b hab
theorem get_snoc {α : Type} {l : List α} {k : Nat} {x y : α} (h : (l ++ [x])[k]? = some y) : (k = l.length ∧ y = x) ∨ (k < l.length ∧ l[k]? = some y):=by
 rcases Nat.lt_or_ge k l.length with hk | hk
 ·rw [List.getElem?_append_left hk] at h;exact .inr ⟨hk,h⟩
 ·rw [List.getElem?_append_right hk] at h
  rcases Nat.eq_or_lt_of_le hk with e | e
  ·rw [← e,Nat.sub_self] at h;injection h with h;exact .inl ⟨e.symm,h.symm⟩
  ·rw [List.getElem?_eq_none (by simp;omega)] at h;cases h
theorem SysAt.newFile (h : SysAt base W S s L) (p t : ByteArray) : ∃ L' : Lay6,SysAt base (W.alloc (.cells #[.string p,.string t,.slice none 0 0] 203)) S (s.addFl ⟨p,t,[]⟩) L' ∧ L'.ob = L.ob ∧ (∀ i,i < s.files.length → L'.fb i = L.fb i) ∧ L'.fb s.files.length = W.heap.size ∧ L'.y = L.y ∧ L'.lo = L.lo ∧ L'.pl = L.pl ∧ L'.cl = L.cl ∧ L'.ex = L.ex:=by
 have hB : Below W.heap.size W (W.alloc (.cells #[.string p,.string t,.slice none 0 0] 203)):=((Grown.refl W).alloc _).below
 have hk:=h.kept hB
 have hnew : (W.alloc (.cells #[.string p,.string t,.slice none 0 0] 203)).heap[W.heap.size]? = some (.cells #[.string p,.string t,.slice none 0 0] 203):=heap_alloc_last W _
 have hfb : ∀ i,i < s.files.length → (if i = s.files.length then W.heap.size else L.fb i) = L.fb i:=fun i hi => if_neg (by omega)
 have hlp : ∀ i,i < s.files.length → (if i = s.files.length then ((none : Option Addr),0) else L.lp i) = L.lp i:=fun i hi => if_neg (by omega)
 refine ⟨{ L with fb:=fun i => if i = s.files.length then W.heap.size else L.fb i,lp:=fun i => if i = s.files.length then (none,0) else L.lp i },⟨hk.blk,fun j o ho => ?_,fun i f hf => ?_,h.injO,fun a b ha hb e => ?_,?_,h.up,h.low,h.scap,h.snil,h.val1,fun o ho => ?_,hk.exb,⟨h.base.1,h.base.2.1,fun i hi => ?_⟩⟩,rfl,hfb,if_pos rfl,rfl,rfl,rfl,rfl,rfl⟩
 ·have:=hk.opn j o ho
  show _ = some (Obj.cells #[.pointer (some ⟨if o.file = s.files.length then W.heap.size else L.fb o.file,0,none⟩),_,_] _ _)
  rw [hfb _ (h.val2 o (List.mem_of_getElem? ho))];exact this
 ·show (W.alloc _).heap[if i = s.files.length then W.heap.size else L.fb i]? = some (.cells #[_,_,.slice (if i = s.files.length then ((none : Option Addr),0) else L.lp i).1 _ (if i = s.files.length then ((none : Option Addr),0) else L.lp i).2] _ _)
  rcases get_snoc hf with ⟨rfl,rfl⟩ | ⟨hi,hf⟩
  ·rw [if_pos rfl,if_pos rfl];exact hnew
  ·rw [hfb i hi,hlp i hi];exact hk.fil i f hf
 ·have e : (if a = s.files.length then W.heap.size else L.fb a) = (if b = s.files.length then W.heap.size else L.fb b):=e
  have ha : a < s.files.length + 1:=by simpa [Sy.addFl] using ha
  have hb : b < s.files.length + 1:=by simpa [Sy.addFl] using hb
  by_cases ea : a = s.files.length
  ·by_cases eb : b = s.files.length
   ·omega
   ·rw [if_pos ea,if_neg eb] at e;have:=h.flt (i:=b) (by omega);omega
  ·by_cases eb : b = s.files.length
   ·rw [if_neg ea,if_pos eb] at e;have:=h.flt (i:=a) (by omega);omega
   ·rw [if_neg ea,if_neg eb] at e;exact h.injF a b (by omega) (by omega) e
 ·intro Y hY
  have hZ : Keep (Sp S s L) W Y:=⟨Nat.le_trans (by simp) hY.size,fun b hb hn => (hY.block b (by simp;omega) (fun hs => hn (by
   rcases hs with (rfl | hx) | ⟨j,hj,rfl⟩ | ⟨i,hi,rfl⟩
   ·exact .inl (.inl rfl)
   ·exact .inl (.inr hx)
   ·exact .inr (.inl ⟨j,hj,rfl⟩)
   ·have hi : i < s.files.length + 1:=by simpa [Sy.addFl] using hi
    have hb : (if i = s.files.length then W.heap.size else L.fb i) < W.heap.size:=hb
    by_cases ei : i = s.files.length
    ·rw [if_pos ei] at hb;omega
    ·exact .inr (.inr ⟨i,by omega,if_neg ei⟩)))).trans (hB.block b hb)⟩
  have hd:=h.data Y hZ
  refine ⟨hd.un,hd.seen,fun i f hf => ?_⟩
  show LK.Lies Y (if i = s.files.length then ((none : Option Addr),0) else L.lp i).1 f.locks ∧ f.locks.length ≤ (if i = s.files.length then ((none : Option Addr),0) else L.lp i).2 ∧ ((if i = s.files.length then ((none : Option Addr),0) else L.lp i).1 = none → (if i = s.files.length then ((none : Option Addr),0) else L.lp i).2 = 0)
  rcases get_snoc hf with ⟨rfl,rfl⟩ | ⟨hi,hf⟩
  ·rw [if_pos rfl];exact ⟨.inl rfl,Nat.le_refl _,fun _ => rfl⟩
  ·rw [hlp i hi];exact hd.locks i f hf
 ·have:=h.val2 o ho
  simp [Sy.addFl];omega
 ·show base ≤ (if i = s.files.length then W.heap.size else L.fb i)
  have hi : i < s.files.length + 1:=by simpa [Sy.addFl] using hi
  by_cases ei : i = s.files.length
  ·rw [if_pos ei];exact Nat.le_trans h.base.1 (Nat.le_of_lt h.lt)
  ·rw [if_neg ei];exact h.base.2.2 i (by omega)
end
namespace PM
def Sy.pathOf (s : Sy) (i : Nat) : ByteArray:=((s.files[i]?).map (·.path)).getD ⟨#[]⟩
def Sy.openAt (s : Sy) (p : ByteArray) : Option Nat:=s.reach.find? fun i => decide ((s.pathOf i).data.toList = p.data.toList)
def Sy.fileAt (s : Sy) (p : ByteArray) : Sy × Nat:=match s.openAt p with
 | some i => (s,i)
 | none => (s.addFl ⟨p,⟨#[]⟩,[]⟩,s.files.length)
end PM
theorem find_at {α : Type} {P : α → Bool} {l : List α} {k : Nat} {x : α} (hk : l[k]? = some x) (hx : P x = true) (h : ∀ y ∈ l.take k,P y = false) : l.find? P = some x:=by
 induction l generalizing k with
 | nil => simp at hk
 | cons a r ih =>
  cases k with
  | zero => simp at hk;subst hk;simp [hx]
  | succ k =>
   have ha : P a = false:=h a (by simp)
   rw [List.find?_cons,ha]
   exact ih (by simpa using hk) (fun y hy => h y (by simp [hy]))
theorem find_not {α : Type} {P : α → Bool} {l : List α} {k : Nat} (hk : l.length ≤ k) (h : ∀ y ∈ l.take k,P y = false) : l.find? P = none:=by
 rw [List.take_of_length_le hk] at h
 rw [List.find?_eq_none]
 intro y hy;simp [h y hy]
theorem fits1_any (use x : Int) (B : Nat) (W : World) (hc : W.cell? ⟨B,0,none⟩ = some (.int .i64 use)) :
  Calls Tryz.prog 168 #[.int .i64 x,.pointer (some ⟨B,0,none⟩)] W fun r w' => r = .returned (.bool (has use x)) ∧ w' = W:=by
 go_enter Tryz.func168,Tryz.ntmps168
 go_wp2
 go_ret
 exact ⟨rfl,rfl⟩
def PM.fitsL (use : Int) : Bool:=if use < 1 ∨ 63 < use then false else if has use 3 then (if has use 36 && !has use 2 then false else !has use 16 || has use 8) else false
set_option maxHeartbeats 2000000 in
theorem fits_any (use : Int) (W : World) : Calls Tryz.prog 119 #[.int .i64 use] W fun r w' => r = .returned (.bool (fitsL use)) ∧ Below W.heap.size W w':=by
 have HB : Aside (Below W.heap.size W (W.alloc (.cells #[.int .i64 use] 3))):=((Grown.refl W).alloc _).below
 have eg : ∀ args w,(callFunc 168 args).run Tryz.prog w = .ok (.enter 168 args) w:=enters_of Tryz.func168 (by kernel_rfl) rfl
 have hc:=fun x => fits1_any use x W.heap.size (W.alloc (.cells #[.int .i64 use] 3)) (by simp)
 unfold fitsL
 by_cases h1 : use < 1
 ·rw [if_pos (.inl h1)]
  clear hc
  go_enter Tryz.func119,Tryz.ntmps119
  go_wp2
  go_ret
  exact ⟨rfl,HB.out⟩
 by_cases h2 : 63 < use
 ·rw [if_pos (.inr h2)]
  clear hc
  go_enter Tryz.func119,Tryz.ntmps119
  go_wp2
  go_ret
  exact ⟨rfl,HB.out⟩
 rw [if_neg (by omega)]
 cases h3 : has use 3 with
 | false =>
  go_enter Tryz.func119,Tryz.ntmps119
  go_wp2_with ((go_at_fn 168;refine (hc _).mono ?_;rintro e w1 ⟨rfl,hw1⟩;subst w1;(try rw [h3]);(try rw [h36]);(try rw [h2]);(try rw [h16]);(try rw [h8])))
  go_ret
  exact ⟨rfl,HB.out⟩
 | true =>
  cases h36 : has use 36 with
  | false =>
   cases h16 : has use 16 with
   | false =>
    go_enter Tryz.func119,Tryz.ntmps119
    go_wp2_with ((go_at_fn 168;refine (hc _).mono ?_;rintro e w1 ⟨rfl,hw1⟩;subst w1;(try rw [h3]);(try rw [h36]);(try rw [h2]);(try rw [h16]);(try rw [h8])))
    go_ret
    exact ⟨rfl,HB.out⟩
   | true =>
    cases h8 : has use 8 with
    | false =>
     go_enter Tryz.func119,Tryz.ntmps119
     go_wp2_with ((go_at_fn 168;refine (hc _).mono ?_;rintro e w1 ⟨rfl,hw1⟩;subst w1;(try rw [h3]);(try rw [h36]);(try rw [h2]);(try rw [h16]);(try rw [h8])))
     go_ret
     exact ⟨rfl,HB.out⟩
    | true =>
     go_enter Tryz.func119,Tryz.ntmps119
     go_wp2_with ((go_at_fn 168;refine (hc _).mono ?_;rintro e w1 ⟨rfl,hw1⟩;subst w1;(try rw [h3]);(try rw [h36]);(try rw [h2]);(try rw [h16]);(try rw [h8])))
     go_ret
     exact ⟨rfl,HB.out⟩
  | true =>
   cases h2 : has use 2 with
   | false =>
    go_enter Tryz.func119,Tryz.ntmps119
    go_wp2_with ((go_at_fn 168;refine (hc _).mono ?_;rintro e w1 ⟨rfl,hw1⟩;subst w1;(try rw [h3]);(try rw [h36]);(try rw [h2]);(try rw [h16]);(try rw [h8])))
    go_ret
    exact ⟨rfl,HB.out⟩
   | true =>
    cases h16 : has use 16 with
    | false =>
     go_enter Tryz.func119,Tryz.ntmps119
     go_wp2_with ((go_at_fn 168;refine (hc _).mono ?_;rintro e w1 ⟨rfl,hw1⟩;subst w1;(try rw [h3]);(try rw [h36]);(try rw [h2]);(try rw [h16]);(try rw [h8])))
     go_ret
     exact ⟨rfl,HB.out⟩
    | true =>
     cases h8 : has use 8 with
     | false =>
      go_enter Tryz.func119,Tryz.ntmps119
      go_wp2_with ((go_at_fn 168;refine (hc _).mono ?_;rintro e w1 ⟨rfl,hw1⟩;subst w1;(try rw [h3]);(try rw [h36]);(try rw [h2]);(try rw [h16]);(try rw [h8])))
      go_ret
      exact ⟨rfl,HB.out⟩
     | true =>
      go_enter Tryz.func119,Tryz.ntmps119
      go_wp2_with ((go_at_fn 168;refine (hc _).mono ?_;rintro e w1 ⟨rfl,hw1⟩;subst w1;(try rw [h3]);(try rw [h36]);(try rw [h2]);(try rw [h16]);(try rw [h8])))
      go_ret
      exact ⟨rfl,HB.out⟩
end Go.Proofs.YthfeoiffoeagkaaGreatDoor
