/-
  tree.Move: what it answers, and the tree that comes of it.
-/
import Derived.Test.YthfeoiffoeagkaaGreatDoorXA5
import Derived.Laws.StructEq
import Derived.Shelf.SlicesE.Equal
namespace Go.Proofs.YthfeoiffoeagkaaGreatDoor
open Go.RowKit PM Go.Sort
set_option linter.unusedVariables false
def iT (t : List Ent) (f : List UInt8) : Int:=orL [(aH false t).1,lH t f]
def kL (t : List Ent) (f to : List UInt8) : Int:=orL [bD t (aB to),nE t f to]
def bf (t : List Ent) (frm to : ByteArray) : Int :=
 if iT t frm.data.toList = 0 then
  if clean to.data.toList = true then
   if frm.data.toList = to.data.toList then 0
   else if under to.data.toList frm.data.toList = true then 8
   else if kL t frm.data.toList to.data.toList = 0 then (if kX t frm to = true then 4 else 0)
   else kL t frm.data.toList to.data.toList
  else 7
 else iT t frm.data.toList
def kM (t : List Ent) (frm to : ByteArray) (w : World) (r : Ending) (w' : World) : Prop :=
 ∃ l,dA (bf t frm to) l w r w' ∧ (bf t frm to ≠ 0 → l = []) ∧
  (bf t frm to = 0 → (frm.data.toList = to.data.toList → l = t) ∧ (frm.data.toList ≠ to.data.toList → l.Perm (bK t frm to) ∧ l.Pairwise fun a b => ¬ cmp b.p a.p < 0))
theorem Cx (t : List Ent) (f : List UInt8) (r : Int) (hr : Sorted t → r = lH t f) : orL [(aH false t).1,r] = iT t f:=by
 unfold iT
 by_cases h : (aH false t).1 = 0
 ·rw [hr (bP.1 h).sorted]
 ·simp [orL,h]
theorem rW {t : List Ent} {f : List UInt8} (h : iT t f = 0) : Right false t ∧ ∃ e ∈ t,e.p = f:=by
 unfold iT at h
 obtain ⟨h1,h⟩:=iO.1 h
 obtain ⟨h2,_⟩:=iO.1 h
 refine ⟨bP.1 h1,?_⟩
 unfold lH at h2
 split at h2
 ·assumption
 ·omega
theorem kM.err {t : List Ent} {frm to : ByteArray} {w w' : World} {er : Int} (he : er = bf t frm to) (h0 : er ≠ 0) (hB : Below w.heap.size w w') : kM t frm to w (.returned (.tuple #[.slice none 0 0,.int .i64 er])) w':=by
 subst he
 exact ⟨[],dA.none hB,fun _ => rfl,fun h => absurd h h0⟩
set_option maxHeartbeats 8000000 in
set_option maxRecDepth 100000 in
theorem Gu (t : List Ent) (frm to : ByteArray) (m : Int) (p : Option Addr) (cap : Nat) (w : World) (hL : Lies w p t) (hF : Fits t) (hn : t.length < 4611686018427387904) (hcap : t.length ≤ cap) (hnil : p = none → cap = 0)
  (hf : frm.size ≤ maxLen) (ht : to.size ≤ maxLen) (hm : w.cell? ⟨0,0,none⟩ = some (.int .i64 m)) :
  Calls Tryz.prog 183 #[.slice p t.length cap,.string frm,.string to] w (kM t frm to w):=by
 have hwr:=fun W (hB : Below w.heap.size w W) => jY t m p cap W (hL.kept hB) hF hn hcap (held hB hm)
 have hms:=fun W (hB : Below w.heap.size w W) => tY t frm p cap W (hL.kept hB) hF hn hf
 have hcl:=fun W (hB : Below w.heap.size w W) => rV to m W ht (held hB hm)
 have HA : Aside (∀ r : Int,(Sorted t → r = lH t frm.data.toList) → orL [(aH false t).1,r] = iT t frm.data.toList):=Cx t frm.data.toList
 have hB : Below w.heap.size w w:=Below.refl _ _
 have hfld:=qj
 have HER : Aside (bf t frm to = if iT t frm.data.toList = 0 then
  if clean to.data.toList = true then
   if frm.data.toList = to.data.toList then 0
   else if under to.data.toList frm.data.toList = true then 8
   else if kL t frm.data.toList to.data.toList = 0 then (if kX t frm to = true then 4 else 0)
   else kL t frm.data.toList to.data.toList
  else 7
 else iT t frm.data.toList):=rfl
 have HZ : Aside (iT t frm.data.toList = 0 → Right false t ∧ ∃ e ∈ t,e.p = frm.data.toList):=rW
 obtain ⟨n,hnl⟩ : ∃ n,n = t.length:=⟨_,rfl⟩
 have HN : Aside (n = t.length):=hnl
 generalize (aH false t).1 = f at hwr HA
 generalize ((aH false t).2 : Int) = fa at hwr
 generalize iT t frm.data.toList = ask at HA HER HZ
 by_cases hask : ask = 0
 ·subst hask
  have HRT:=HZ.out rfl
  have HR : Aside (Right false t ∧ ∃ e ∈ t,e.p = frm.data.toList):=HRT
  have hf80 : frm.size ≤ 80:=by
   obtain ⟨hr,x,hx,hxp⟩:=HRT
   have:=hr.clean hx
   rw [hxp] at this
   exact bM this
  have HL : Aside (Lies w p t):=hL
  have HFt : Aside (Fits t):=hF
  rw [if_pos rfl] at HER
  cases hct : clean to.data.toList with
  | false =>
   have HE7 : Aside (7 = bf t frm to):=by show _ = _;rw [HER.out,hct];rfl
   rw [hct] at hcl
   rw [← hnl] at hwr hms ⊢
   clear hnl HRT hL hF hn hcap
   go_enter Tryz.func183,Tryz.ntmps183
   go_wp2_with (first
    | (go_at_call 24;refine (hwr _ hB).mono ?_;clear hwr;rintro e w1 ⟨rfl,hN⟩;replace hB:=Below.onto hB hN;clear hN)
    | (go_at_call 217;refine (hms _ hB).mono ?_;clear hms;rintro e w2 ⟨r,rfl,hr,hN⟩;have HE : Aside (orL [f,r] = 0):=HA.out r hr;clear hr HA;replace hB:=Below.onto hB hN;clear hN)
    | (go_at_call 157;refine (gZ _ _ _).mono ?_;rintro e w4 ⟨rfl,hw⟩;subst hw;replace hB:=hB.alloc hB.size (.cells #[.int .i64 f,.int .i64 r] 31);rw [HE.out])
    | (go_at_call 26;refine (hcl _ hB).mono ?_;clear hcl;rintro e w5 ⟨rfl,hN⟩;replace hB:=Below.onto hB hN;clear hN))
   go_ret2
   exact kM.err HE7.out (by decide) hB
  | true =>
   have ht80 : to.size ≤ 80:=bM hct
   rw [hct,if_pos rfl] at HER
   rw [hct] at hcl
   have hn80 : n ≤ 80:=by rw [hnl];exact HRT.1.len
   have hun:=fun W => lD to frm W ht hf
   have hnd : ∀ W,Below w.heap.size w W → Calls Tryz.prog 114 #[.slice p t.length cap,.string to] W fun r w' => r = .returned (.int .i64 (bD t (aB to.data.toList))) ∧ Below W.heap.size W w':=fun W hB => (nZ t to p cap W (hL.kept hB) hF hn ht (by omega)).mono fun r w' ⟨x,h1,h2,h3⟩ => ⟨by rw [h1,h2 HRT.1.sorted],h3⟩
   have hro:=fun W (hB : Below w.heap.size w W) => Ck t frm to p cap W (hL.kept hB) hF hn hf ht HRT.1.sorted
   have hmo:=fun W (hB : Below w.heap.size w W) => FU t frm to m p cap W (hL.kept hB) hnil HRT.1 hf80 ht80 (held hB hm)
   have HA2 : Aside (orL [bD t (aB to.data.toList),nE t frm.data.toList to.data.toList] = kL t frm.data.toList to.data.toList):=rfl
   generalize bD t (aB to.data.toList) = nd at hnd HA2
   generalize nE t frm.data.toList to.data.toList = rm at hro HA2
   generalize kL t frm.data.toList to.data.toList = ask2 at HA2 HER
   rw [← hnl] at hwr hms hnd hro hmo ⊢
   clear hnl HRT hL hF hn hcap
   by_cases hft : frm.data.toList = to.data.toList
   ·have HE0 : Aside (bf t frm to = 0):=by show _ = _;rw [HER.out,if_pos hft]
    obtain ⟨e1,e2⟩:=jS hft
    have HFT : Aside (frm.data.toList = to.data.toList):=hft
    clear hft hun hnd hro hmo HER HA2
    go_enter Tryz.func183,Tryz.ntmps183
    go_wp2_with (first
    | (go_at_call 24;refine (hwr _ hB).mono ?_;clear hwr;rintro e w1 ⟨rfl,hN⟩;replace hB:=Below.onto hB hN;clear hN)
    | (go_at_call 217;refine (hms _ hB).mono ?_;clear hms;rintro e w2 ⟨r,rfl,hr,hN⟩;have HE : Aside (orL [f,r] = 0):=HA.out r hr;clear hr HA;replace hB:=Below.onto hB hN;clear hN)
    | (go_at_call 157;refine (gZ _ _ _).mono ?_;rintro e w4 ⟨rfl,hw⟩;subst hw;replace hB:=hB.alloc hB.size (.cells #[.int .i64 f,.int .i64 r] 31);rw [HE.out];clear HE)
    | (go_at_call 26;refine (hcl _ hB).mono ?_;clear hcl;rintro e w5 ⟨rfl,hN⟩;replace hB:=Below.onto hB hN;clear hN)
    | (at_builtin;refine iM _ rfl _ _ rfl w5.heap.size rfl ?_ p n cap t rfl HN.out ?_ hnil hn80 ?_ ?_))
    ·exact je w5 _ rfl
    ·exact (HL.out.kept hB).grown ((Grown.refl _).alloc _)
    ·simp
    ·intro g c w6 hO hg hB6
     have hX : Below w5.heap.size w5 w6:=((Below.refl _ _).alloc (Nat.le_refl _) _).trans hB6
     have H6 : Aside (Own w6 g c t ∧ Below w.heap.size w w6):=⟨hO,Below.onto hB hX⟩
     clear hO hB6 hX
     go_wp2
     go_ret2
     refine ⟨t,?_,fun h => absurd HE0.out h,fun _ => ⟨fun _ => rfl,fun h => absurd HFT.out h⟩⟩
     rw [HE0.out]
     exact ⟨some ⟨g,0,none⟩,c,by rw [← HN.out];rfl,H6.out.1.lies,H6.out.1.len,nofun,H6.out.2⟩
   ·rw [if_neg hft] at HER
    obtain ⟨e1,e2⟩:=ji hft
    have HFT : Aside (frm.data.toList ≠ to.data.toList):=hft
    clear hft
    cases hut : under to.data.toList frm.data.toList with
    | true =>
     have HE8 : Aside (8 = bf t frm to):=by show _ = _;rw [HER.out,hut];rfl
     rw [hut] at hun
     clear hnd hro hmo HER HA2
     go_enter Tryz.func183,Tryz.ntmps183
     go_wp2_with (first
    | (go_at_call 24;refine (hwr _ hB).mono ?_;clear hwr;rintro e w1 ⟨rfl,hN⟩;replace hB:=Below.onto hB hN;clear hN)
    | (go_at_call 217;refine (hms _ hB).mono ?_;clear hms;rintro e w2 ⟨r,rfl,hr,hN⟩;have HE : Aside (orL [f,r] = 0):=HA.out r hr;clear hr HA;replace hB:=Below.onto hB hN;clear hN)
    | (go_at_call 157;refine (gZ _ _ _).mono ?_;rintro e w4 ⟨rfl,hw⟩;subst hw;replace hB:=hB.alloc hB.size (.cells #[.int .i64 f,.int .i64 r] 31);rw [HE.out];clear HE)
    | (go_at_call 26;refine (hcl _ hB).mono ?_;clear hcl;rintro e w5 ⟨rfl,hN⟩;replace hB:=Below.onto hB hN;clear hN)
    | (go_at_call 186;refine (hun _).mono ?_;rintro rr wx ⟨rfl,hwx⟩;subst wx))
     go_ret2
     exact kM.err HE8.out (by decide) hB
    | false =>
     rw [hut] at hun HER
     rw [if_neg (by decide)] at HER
     by_cases hask2 : ask2 = 0
     ·rw [if_pos hask2] at HER
      subst hask2
      go_enter Tryz.func183,Tryz.ntmps183
      go_wp2_with (first
    | (go_at_call 24;refine (hwr _ hB).mono ?_;clear hwr;rintro e w1 ⟨rfl,hN⟩;replace hB:=Below.onto hB hN;clear hN)
    | (go_at_call 217;refine (hms _ hB).mono ?_;clear hms;rintro e w2 ⟨r,rfl,hr,hN⟩;have HE : Aside (orL [f,r] = 0):=HA.out r hr;clear hr HA;replace hB:=Below.onto hB hN;clear hN)
    | (go_at_call 157;refine (gZ _ _ _).mono ?_;rintro e w4 ⟨rfl,hw⟩;subst hw;replace hB:=hB.alloc hB.size (.cells #[.int .i64 f,.int .i64 r] 31);rw [HE.out];clear HE)
    | (go_at_call 26;refine (hcl _ hB).mono ?_;clear hcl;rintro e w5 ⟨rfl,hN⟩;replace hB:=Below.onto hB hN;clear hN)
    | (go_at_call 186;refine (hun _).mono ?_;rintro rr wx ⟨rfl,hwx⟩;subst wx)
    | (go_at_call 114;refine (hnd _ hB).mono ?_;clear hnd;rintro rr w6 ⟨rfl,hN⟩;replace hB:=Below.onto hB hN;clear hN)
    | (go_at_call 223;refine (hro _ hB).mono ?_;clear hro;rintro rr w7 ⟨rfl,hN⟩;replace hB:=Below.onto hB hN;clear hN)
    | (go_at_call 157;refine (gZ _ _ _).mono ?_;rintro rr w8 ⟨rfl,hw⟩;subst hw;replace hB:=hB.alloc hB.size (.cells #[.int .i64 nd,.int .i64 rm] 31);rw [HA2.out])
    | (go_at_call 224;refine (hmo _ hB).mono ?_;clear hmo;rintro rr w9 (⟨hbad,p9,c9,rfl,hl9,hc9,hn9,hB9⟩ | ⟨hbad,l9,hp9,hs9,p9,c9,rfl,hl9,hc9,hn9,hB9⟩)))
      ·go_ret2
       have h4 : bf t frm to = 4:=by rw [HER.out,if_pos hbad]
       refine ⟨[],?_,fun _ => rfl,fun h => by rw [h4] at h;cases h⟩
       rw [h4]
       exact ⟨p9,c9,rfl,hl9,hc9,hn9,Below.onto hB hB9⟩
      ·go_ret2
       have h0 : bf t frm to = 0:=by rw [HER.out,if_neg (by rw [hbad];decide)]
       refine ⟨l9,?_,fun h => absurd h0 h,fun _ => ⟨fun h => absurd h HFT.out,fun _ => ⟨hp9,hs9.imp (fun h => by omega)⟩⟩⟩
       rw [h0]
       exact ⟨p9,c9,rfl,hl9,hc9,hn9,Below.onto hB hB9⟩
     ·rw [if_neg hask2] at HER
      clear hmo
      go_enter Tryz.func183,Tryz.ntmps183
      go_wp2_with (first
    | (go_at_call 24;refine (hwr _ hB).mono ?_;clear hwr;rintro e w1 ⟨rfl,hN⟩;replace hB:=Below.onto hB hN;clear hN)
    | (go_at_call 217;refine (hms _ hB).mono ?_;clear hms;rintro e w2 ⟨r,rfl,hr,hN⟩;have HE : Aside (orL [f,r] = 0):=HA.out r hr;clear hr HA;replace hB:=Below.onto hB hN;clear hN)
    | (go_at_call 157;refine (gZ _ _ _).mono ?_;rintro e w4 ⟨rfl,hw⟩;subst hw;replace hB:=hB.alloc hB.size (.cells #[.int .i64 f,.int .i64 r] 31);rw [HE.out];clear HE)
    | (go_at_call 26;refine (hcl _ hB).mono ?_;clear hcl;rintro e w5 ⟨rfl,hN⟩;replace hB:=Below.onto hB hN;clear hN)
    | (go_at_call 186;refine (hun _).mono ?_;rintro rr wx ⟨rfl,hwx⟩;subst wx)
    | (go_at_call 114;refine (hnd _ hB).mono ?_;clear hnd;rintro rr w6 ⟨rfl,hN⟩;replace hB:=Below.onto hB hN;clear hN)
    | (go_at_call 223;refine (hro _ hB).mono ?_;clear hro;rintro rr w7 ⟨rfl,hN⟩;replace hB:=Below.onto hB hN;clear hN)
    | (go_at_call 157;refine (gZ _ _ _).mono ?_;rintro rr w8 ⟨rfl,hw⟩;subst hw;replace hB:=hB.alloc hB.size (.cells #[.int .i64 nd,.int .i64 rm] 31);rw [HA2.out]))
      go_ret2
      exact kM.err HER.out.symm hask2 hB
 ·have HEA : Aside (ask = bf t frm to):=by show _ = _;rw [HER.out,if_neg hask]
  rw [← hnl] at hwr hms ⊢
  clear hnl hL hF hn hcap hcl
  go_enter Tryz.func183,Tryz.ntmps183
  go_wp2_with (first
   | (go_at_call 24;refine (hwr _ hB).mono ?_;clear hwr;rintro e w1 ⟨rfl,hN⟩;replace hB:=Below.onto hB hN;clear hN)
   | (go_at_call 217;refine (hms _ hB).mono ?_;clear hms;rintro e w2 ⟨r,rfl,hr,hN⟩;have HE : Aside (orL [f,r] = ask):=HA.out r hr;clear hr HA;replace hB:=Below.onto hB hN;clear hN)
   | (go_at_call 157;refine (gZ _ _ _).mono ?_;rintro e w4 ⟨rfl,hw⟩;subst hw;replace hB:=hB.alloc hB.size (.cells #[.int .i64 f,.int .i64 r] 31);rw [HE.out]))
  go_ret2
  exact kM.err HEA.out hask hB
theorem vX {a b : List Ent} {q : List UInt8} (ha : Sorted a) (hb : Sorted b) (h : ∀ x,x.p = q → (x ∈ a ↔ x ∈ b)) : getL a q = getL b q:=by
 by_cases hq : q = []
 ·rw [hq,dW,dW]
 cases h1 : getL a q with
 | none =>
  have:=(eu h1).2
  exact (bB hq fun e he hp => this e ((h e hp).2 he) hp).symm
 | some x =>
  obtain ⟨hx,hp⟩:=aR hq h1
  have:=iw hb ((h x hp).1 hx) (by rw [hp];exact hq)
  rw [hp] at this;exact this.symm
theorem rH {t : List Ent} {e : Ent} (hs : Sorted t) (he : e.p ≠ []) : getL (putL t e) e.p = some e:=iw (eU hs e) (eG.2 (.inl rfl)) he
theorem wQ {t : List Ent} {e : Ent} {q : List UInt8} (hs : Sorted t) (hq : q ≠ e.p) : getL (putL t e) q = getL t q :=
 vX (eU hs e) hs fun x hx => by
  rw [eG]
  constructor
  ·rintro (rfl | ⟨h,_⟩)
   ·exact absurd hx.symm hq
   ·exact h
  ·intro h;exact .inr ⟨h,by rw [hx];exact hq⟩
theorem wM {t : List Ent} {p q : List UInt8} (hs : Sorted t) (hq : q ≠ p) : getL (remL t p) q = getL t q :=
 vX (pE hs p) hs fun x hx => by
  rw [eZ]
  exact ⟨fun h => h.1,fun h => ⟨h,by rw [hx];exact hq⟩⟩
theorem nM (t : List Ent) (q : ByteArray) (p : Option Addr) (cap : Nat) (w : World) (hL : Lies w p t) (hF : Fits t) (hn : t.length < 4611686018427387904) (hq : q.size ≤ maxLen) (hs : Sorted t) (x : Ent) (b : Bool) (hx : (getL t q.data.toList).getD zeroE = x) (hb : (getL t q.data.toList).isSome = b) :
  Calls Tryz.prog 27 #[.slice p t.length cap,.string q] w fun r w' => r = .returned (.tuple #[.agg #[.string x.path, .int .i64 x.kind, .string x.text, .bool x.opq],.bool b]) ∧ Below w.heap.size w w':=by
 refine (qx t q p cap w hL hF hn hq).mono ?_
 rintro r w' ⟨x',b',rfl,hg,hz,_,hB⟩
 have h1:=Bh (hg hs) hz
 have h2 : (getL t q.data.toList).isSome = b':=by rw [hg hs];cases b' <;> rfl
 rw [← hx,h1,← hb,h2]
 exact ⟨rfl,hB⟩
theorem upA {w W : World} {o o2 : Obj} (h : Below (w.heap.size + 1) (w.alloc o) W) : Below (w.heap.size + 1) (w.alloc o) (W.alloc o2):=h.alloc (by have:=h.size;simpa using this) _
theorem zR {t : List Ent} {k : Nat} {y : Ent} (hy : t[k]? = some y) : ownL (t.take (k + 1)) = ownL (t.take k) ++ (if y.kind = 4 then [] else [fJ y]):=by
 unfold ownL
 rw [dz hy,List.filter_append,List.map_append]
 by_cases h1 : y.kind = 4 <;> simp [h1]
theorem zh (t : List Ent) (k : Nat) : (ownL (t.take k)).length ≤ k:=by
 unfold ownL
 rw [List.length_map]
 refine Nat.le_trans (List.length_filter_le _ _) ?_
 rw [List.length_take];exact Nat.min_le_left _ _
set_option maxHeartbeats 4000000 in
set_option maxRecDepth 100000 in
theorem IK (t : List Ent) (p : Option Addr) (cap : Nat) (w : World) (hL : Lies w p t) (hn80 : t.length ≤ 80) :
  Calls Tryz.prog 158 #[.slice p t.length cap] w (vk (ownL t) w):=by
 have HL : Aside (Lies w p t):=hL
 obtain ⟨n,hnl⟩ : ∃ n,n = t.length:=⟨_,rfl⟩
 have HN : Aside (n = t.length):=hnl
 rw [← hnl] at hn80 ⊢
 clear hnl hL
 go_enter Tryz.func158,Tryz.ntmps158
 go_wp2
 go_loopg [3,8] n (fun gg v i wr => ∃ (k : Nat) (l : List Ent),k ≤ n ∧ n - k ≤ gg ∧ i = .int .i64 k ∧ l.length ≤ k ∧ Aside (Rows wr w.heap.size v l) ∧ Aside (Below w.heap.size w wr) ∧ Aside (l = ownL (t.take k)))
 case atStart => exact ⟨0,[],Nat.zero_le _,by omega,rfl,Nat.le_refl _,Rows.nil _ _,Below.refl _ _,rfl⟩
 case round =>
  obtain ⟨k,l,hk,hgg,rfl,hbl,ST,BW,NM⟩:=hrel
  by_cases hlt : k < n
  ·have hltz : (k : Int) < (n : Int):=by omega
   obtain ⟨y,hy⟩ : ∃ y,t[k]? = some y:=⟨_,List.getElem?_eq_getElem (by have:=HN.out;omega)⟩
   have HY : Aside (t[k]? = some y):=hy
   rcases HL.out with h0 | ⟨b,off,rfl,hb,hc⟩
   ·rw [h0] at hy;simp at hy
   obtain ⟨c0,c1,c2,c3⟩:=Lies.cells hc hb BW.out hy
   clear hc hy
   have hws : w.heap.size ≤ wr.heap.size:=BW.out.size
   by_cases hk4 : y.kind = 4
   ·have HS : Aside (ownL (t.take (k + 1)) = l):=by show _ = _;rw [zR HY.out,if_pos hk4,List.append_nil,NM.out]
    go_wp2
    go_roundg (n - (k + 1))
    case measure => omega
    case rel => exact ⟨k + 1,l,by omega,by omega,by go_num,by omega,ST.out.below ((Grown.refl wr).alloc _).below,BW.out.alloc BW.out.size _,HS.out.symm⟩
   ·have HS : Aside (ownL (t.take (k + 1)) = l ++ [fJ y]):=by show _ = _;rw [zR HY.out,if_neg hk4,NM.out]
    have HA : Aside (Below wr.heap.size wr (wr.alloc (.cells #[.string y.path,.int .i64 y.kind,.string y.text,.bool false] 53))):=((Grown.refl wr).alloc _).below
    have hR1:=ST.out.below HA.out
    go_wp2_with (at_builtin;refine ko (wr.alloc (.cells #[.string y.path,.int .i64 y.kind,.string y.text,.bool false] 53)) (fJ y) rfl _ _ rfl w.heap.size _ l rfl hR1 (by omega) (by simp;omega) _ (by simp) rfl ?_;clear hR1;intro v4 w4 hR4 hB4 hC4 hs4;have HR4 : Aside (Rows w4 w.heap.size v4 (l ++ [fJ y])):=hR4;have HB4 : Aside (Below w.heap.size w w4):=(Below.onto BW.out HA.out).trans hB4;clear hR4 hB4 hC4)
    go_roundg (n - (k + 1))
    case measure => omega
    case rel => exact ⟨k + 1,l ++ [fJ y],by omega,by omega,by go_num,by simp;omega,HR4.out,HB4.out,HS.out.symm⟩
  ·have hltz : ¬ (k : Int) < (n : Int):=by omega
   have HE : Aside (ownL t = l):=by
    show _ = _
    rw [NM.out,List.take_of_length_le (by have:=HN.out;omega)]
   go_wp2
   go_ret
   exact ⟨⟨_,rfl,by rw [HE.out];exact ST.out⟩,BW.out⟩
theorem FL {l t : List Ent} {k : Nat} {y : Ent} (hy : t[k]? = some y) : bR l (t.take (k + 1)) = bR l (t.take k) ++ (if kU l y then [y] else []):=by
 unfold bR
 rw [dz hy,List.filter_append]
 cases h1 : kU l y <;> simp [h1]
theorem yC (l t : List Ent) (k : Nat) : (bR l (t.take k)).length ≤ k:=by
 unfold bR
 refine Nat.le_trans (List.length_filter_le _ _) ?_
 rw [List.length_take];exact Nat.min_le_left _ _
set_option maxHeartbeats 4000000 in
set_option maxRecDepth 100000 in
theorem AB (l t : List Ent) (pl p : Option Addr) (capl cap : Nat) (w : World) (hLl : Lies w pl l) (hL : Lies w p t) (hFl : Fits l) (hF : Fits t) (hs : Sorted l) (hl80 : l.length ≤ 80) (hn80 : t.length ≤ 80) :
  Calls Tryz.prog 159 #[.slice pl l.length capl,.slice p t.length cap] w (vk (bR l t) w):=by
 have HL : Aside (Lies w p t):=hL
 have HFt : Aside (Fits t):=hF
 have HGE : Aside (∀ (y : Ent) W,y ∈ t → Below w.heap.size w W → ∀ x b,(getL l y.p).getD zeroE = x → (getL l y.p).isSome = b → Calls Tryz.prog 27 #[.slice pl l.length capl,.string y.path] W fun r w' => r = .returned (.tuple #[.agg #[.string x.path, .int .i64 x.kind, .string x.text, .bool x.opq],.bool b]) ∧ Below W.heap.size W w') :=
  fun y W hy hB x b hx hb => nM l y.path pl capl W (hLl.kept hB) hFl (by omega) (hF y hy).1 hs x b hx hb
 have HHI : Aside (∀ (y : Ent) W,y ∈ t → Below w.heap.size w W → Calls Tryz.prog 203 #[.slice pl l.length capl,.string y.path] W fun r w' => r = .returned (.bool (bJ l y.p)) ∧ Grown W w') :=
  fun y W hy hB => sG l y.path pl capl W (hLl.kept hB) hFl (by omega) (hF y hy).1
 obtain ⟨n,hnl⟩ : ∃ n,n = t.length:=⟨_,rfl⟩
 have HN : Aside (n = t.length):=hnl
 rw [← hnl] at hn80 ⊢
 obtain ⟨nl,hnll⟩ : ∃ nl,nl = l.length:=⟨_,rfl⟩
 rw [← hnll] at HGE HHI hl80 ⊢
 clear hnl hnll hL hF hLl hFl
 go_enter Tryz.func159,Tryz.ntmps159
 go_wp2
 go_loopg [5,12] n (fun gg v i wr => ∃ (k : Nat) (r : List Ent),k ≤ n ∧ n - k ≤ gg ∧ i = .int .i64 k ∧ r.length ≤ k ∧ Aside (Rows wr w.heap.size v r) ∧ Aside (Below w.heap.size w wr) ∧ Aside (r = bR l (t.take k)))
 case atStart => exact ⟨0,[],Nat.zero_le _,by omega,rfl,Nat.le_refl _,Rows.nil _ _,Below.refl _ _,rfl⟩
 case round =>
  obtain ⟨k,r,hk,hgg,rfl,hbl,ST,BW,NM⟩:=hrel
  by_cases hlt : k < n
  ·have hltz : (k : Int) < (n : Int):=by omega
   obtain ⟨y,hy⟩ : ∃ y,t[k]? = some y:=⟨_,List.getElem?_eq_getElem (by have:=HN.out;omega)⟩
   have HY : Aside (t[k]? = some y):=hy
   have HM : Aside (y ∈ t):=List.mem_of_getElem? hy
   rcases HL.out with h0 | ⟨b,off,rfl,hb,hc⟩
   ·rw [h0] at hy;simp at hy
   obtain ⟨c0,c1,c2,c3⟩:=Lies.cells hc hb BW.out hy
   clear hc hy
   have hws : w.heap.size ≤ wr.heap.size:=BW.out.size
   obtain ⟨⟨xp,xk,xt,xo⟩,hxx⟩ : ∃ x,(getL l y.p).getD zeroE = x:=⟨_,rfl⟩
   obtain ⟨bb,hbb⟩ : ∃ bb,(getL l y.p).isSome = bb:=⟨_,rfl⟩
   have HSE : Aside (kU l y = (!bb && !bJ l y.p)):=by
    show _ = _
    rw [kU,← hbb]
    cases getL l y.p <;> rfl
   have hge:=HGE.out y (wr.alloc (.cells #[.string y.path, .int .i64 y.kind, .string y.text, .bool y.opq] 53)) HM.out (BW.out.alloc BW.out.size _) _ bb hxx hbb
   clear hxx hbb
   have HST : Aside (bR l (t.take (k + 1)) = r ++ (if kU l y then [y] else [])):=by show _ = _;rw [FL HY.out,NM.out]
   cases bb with
   | true =>
    have HS : Aside (bR l (t.take (k + 1)) = r):=by show _ = _;rw [HST.out,HSE.out];simp
    go_wp2_with (go_at_call 27;refine hge.mono ?_;clear hge;rintro rr w2 ⟨rfl,hB2⟩;have HB2 : Aside (Below wr.heap.size wr (w2.alloc (.cells #[.string xp,.int .i64 xk,.string xt,.bool xo] 53))):=oZ (hB2.alloc hB2.size _);clear hB2)
    go_roundg (n - (k + 1))
    case measure => omega
    case rel => exact ⟨k + 1,r,by omega,by omega,by go_num,by omega,ST.out.below HB2.out,Below.onto BW.out HB2.out,HS.out.symm⟩
   | false =>
    have hhi:=fun W => HHI.out y W HM.out
    generalize bJ l y.p = hd at hhi HSE
    cases hd with
    | true =>
     have HS : Aside (bR l (t.take (k + 1)) = r):=by show _ = _;rw [HST.out,HSE.out];simp
     go_wp2_with (first
      | (go_at_call 27;refine hge.mono ?_;clear hge;rintro rr w2 ⟨rfl,hB2⟩;obtain ⟨⟨d0,d1,d2,d3⟩,_⟩:=new4 (by simp) hB2;have hs2:=hB2.size;simp at hs2;have hne2 : wr.heap.size ≠ w2.heap.size:=by omega
         have hlt2 : wr.heap.size < w2.heap.size:=by omega
         have HB2 : Aside (Below wr.heap.size wr (w2.alloc (.cells #[.string xp,.int .i64 xk,.string xt,.bool xo] 53))):=oZ (hB2.alloc hB2.size _);clear hB2)
      | (go_at_call 203;refine (hhi _ (Below.onto BW.out HB2.out)).mono ?_;clear hhi;rintro rr w3 ⟨rfl,hG3⟩;have HB3 : Aside (Below wr.heap.size wr w3):=Below.onto HB2.out hG3.below;clear hG3))
     go_roundg (n - (k + 1))
     case measure => omega
     case rel => exact ⟨k + 1,r,by omega,by omega,by go_num,by omega,ST.out.below HB3.out,Below.onto BW.out HB3.out,HS.out.symm⟩
    | false =>
     have HS : Aside (bR l (t.take (k + 1)) = r ++ [y]):=by show _ = _;rw [HST.out,HSE.out];simp
     go_wp2_with (first
      | (go_at_call 27;refine hge.mono ?_;clear hge;rintro rr w2 ⟨rfl,hB2⟩;obtain ⟨⟨d0,d1,d2,d3⟩,_⟩:=new4 (by simp) hB2;have hs2:=hB2.size;simp at hs2;have hne2 : wr.heap.size ≠ w2.heap.size:=by omega
         have hlt2 : wr.heap.size < w2.heap.size:=by omega
         have HB2 : Aside (Below (wr.alloc (.cells #[.string y.path, .int .i64 y.kind, .string y.text, .bool y.opq] 53)).heap.size (wr.alloc (.cells #[.string y.path, .int .i64 y.kind, .string y.text, .bool y.opq] 53)) (w2.alloc (.cells #[.string xp,.int .i64 xk,.string xt,.bool xo] 53))):=hB2.alloc hB2.size _;clear hB2)
      | (go_at_call 203;refine (hhi _ (Below.onto BW.out (oZ HB2.out))).mono ?_;clear hhi;rintro rr w3 ⟨rfl,hG3⟩;have hB3:=HB2.out.trans (hG3.below.mono HB2.out.size);clear hG3 d0 d1 d2 d3;obtain ⟨⟨d0,d1,d2,d3⟩,_⟩:=new4 (by simp) hB3;have HB3 : Aside (Below wr.heap.size wr w3):=oZ hB3;have hs3:=hB3.size;simp at hs3;clear hB3;have hR1:=ST.out.below HB3.out)
      | (at_builtin;refine ko w3 y rfl _ _ rfl w.heap.size _ r rfl hR1 (by omega) (by omega) _ (by simp) rfl ?_;clear hR1;intro v4 w4 hR4 hB4 hC4 hs4;have HR4 : Aside (Rows w4 w.heap.size v4 (r ++ [y])):=hR4;have HB4 : Aside (Below w.heap.size w w4):=(Below.onto BW.out HB3.out).trans hB4;clear hR4 hB4 hC4))
     go_roundg (n - (k + 1))
     case measure => omega
     case rel => exact ⟨k + 1,r ++ [y],by omega,by omega,by go_num,by simp;omega,HR4.out,HB4.out,HS.out.symm⟩
  ·have hltz : ¬ (k : Int) < (n : Int):=by omega
   have HE : Aside (bR l t = r):=by
    show _ = _
    rw [NM.out,List.take_of_length_le (by have:=HN.out;omega)]
   go_wp2
   go_ret
   exact ⟨⟨_,rfl,by rw [HE.out];exact ST.out⟩,BW.out⟩
theorem wU (t : List Ent) (m : Int) (p : Option Addr) (cap : Nat) (w : World) (hL : Lies w p t) (hF : Fits t) (hn : t.length < 4611686018427387904) (hcap : t.length ≤ cap) (hm : w.cell? ⟨0,0,none⟩ = some (.int .i64 m)) :
  Calls Tryz.prog 110 #[.slice p t.length cap] w fun r w' => r = .returned (.agg #[.int .i64 (aH true t).1,.int .i64 ((aH true t).2 : Nat)]) ∧ Below w.heap.size w w':=by
 have hs:=fun W (hB : Below w.heap.size w W) => qw t true m p cap W (hL.kept hB) hF hn hcap (held hB hm)
 generalize (aH true t).1 = a at hs ⊢
 generalize ((aH true t).2 : Int) = b at hs ⊢
 go_enter Tryz.func110,Tryz.ntmps110
 go_wp2_with (go_at_call 49;refine (hs _ ((Below.refl _ _).alloc (Nat.le_refl _) _)).mono ?_;clear hs;rintro rr w1 ⟨rfl,hB1⟩;obtain ⟨⟨r0,r1⟩,⟨f0,f1⟩⟩:=new2 (by simp) hB1)
 refine bodyPost_ret (v:=.agg #[.int .i64 a,.int .i64 b]) (by simp [results,Tryz.results110,go_sem,r0,r1]) rfl ?_
 exact ⟨rfl,jq (hB1.mono (by simp)) _ _⟩
theorem qA (t : List Ent) (m : Int) (p : Option Addr) (cap : Nat) (w : World) (hL : Lies w p t) (hF : Fits t) (hn : t.length < 4611686018427387904) (hcap : t.length ≤ cap) (hm : w.cell? ⟨0,0,none⟩ = some (.int .i64 m)) :
  Calls Tryz.prog 76 #[.slice p t.length cap] w fun r w' => r = .returned (.agg #[.int .i64 (aH true t).1,.int .i64 ((aH true t).2 : Nat)]) ∧ Below w.heap.size w w':=by
 have hs:=fun W (hB : Below w.heap.size w W) => wU t m p cap W (hL.kept hB) hF hn hcap (held hB hm)
 generalize (aH true t).1 = a at hs ⊢
 generalize ((aH true t).2 : Int) = b at hs ⊢
 go_enter Tryz.func76,Tryz.ntmps76
 go_wp2_with (go_at_call 110;refine (hs _ ((Below.refl _ _).alloc (Nat.le_refl _) _)).mono ?_;clear hs;rintro rr w1 ⟨rfl,hB1⟩;obtain ⟨⟨r0,r1⟩,⟨f0,f1⟩⟩:=new2 (by simp) hB1)
 refine bodyPost_ret (v:=.agg #[.int .i64 a,.int .i64 b]) (by simp [results,Tryz.results76,go_sem,r0,r1]) rfl ?_
 exact ⟨rfl,jq (hB1.mono (by simp)) _ _⟩
theorem uj {ops : Array Oper} {rest : List Oper} {o : Oper} {a : Act} {Q : Exit → Act → World → Prop} (X : World) (hgd : o.guard = none) (s x : Operand)
  (ho : o.op = .call { callee:=.builtin .append,args:=#[s,x],argTypes:=#[23,23] }) (base : Nat) (v : Value) (l : List Ent) (hs : a.eval s = v) (hrow : Rows X base v l) (hlen : l.length ≤ 80) (hbase : base ≤ X.heap.size)
  (p : Option Addr) (n cap : Nat) (t : List Ent) (hx : a.eval x = .slice p n cap) (hn : n = t.length) (hL : Lies X p t) (hnil : p = none → cap = 0) (h80 : n ≤ 80)
  (h : ∀ v' w',Rows w' base v' (l ++ t) → Below base X w' → wpList Tryz.prog ops Q rest (a.put o.dst v') w') :
  wpList Tryz.prog ops Q (o :: rest) a X:=by
 obtain ⟨i0,hi,hz0,hz1,hz2⟩:=nW
 cases p with
 | none =>
  obtain rfl : cap = 0:=hnil rfl
  have ht : t = []:=by
   rcases hL with h | ⟨b,off,he,_⟩
   ·exact h
   ·cases he
  subst ht
  obtain rfl : n = 0:=hn
  refine wpList_append_own_none hgd s x 23 ho base 53 i0 4 Tryz.underlying23 hi v l.length (l.flatMap encE) hs hrow hx ?_
  exact h v X (by rw [List.append_nil];exact hrow) (Below.refl _ _)
 | some ad =>
  refine wpList_append_own X hgd s x 23 ho base 53 i0 _ 4 48 Tryz.underlying23 hi hz0 hz1 hz2 rfl (by decide) v l.length (l.flatMap encE) hs hrow ad n cap (t.flatMap encE) hx (by rw [dK,hn]) (hL.flat (Below.refl _ _)) (fun u hu => gF hu) (by unfold maxLen;omega) (by omega) hbase ?_
  intro v' w' hown hg _
  refine h v' w' ?_ ((Below.refl base X).grown hg hbase (fun j hj => (World.ownsRow.lt hrow j hj).1))
  unfold Rows
  rw [List.length_append,List.flatMap_append,← hn]
  exact hown
def fB (err : Int) (l : List Ent) (w : World) (e : Ending) (w' : World) : Prop :=
 ∃ p c,e = .returned (.tuple #[.slice p l.length c,.int .i64 err]) ∧ Lies w' p l ∧ l.length ≤ c ∧ (p = none → c = 0) ∧ Below w.heap.size w w' ∧ ∀ b off s,p = some ⟨b,off,s⟩ → w.heap.size ≤ b
theorem fB.none {err : Int} {w w' : World} (hB : Below w.heap.size w w') : fB err [] w (.returned (.tuple #[.slice .none 0 0,.int .i64 err])) w':=⟨.none,0,rfl,Lies.nil _ _,Nat.le_refl _,fun _ => rfl,hB,nofun⟩
theorem fB.tree {err : Int} {l : List Ent} {w w' : World} {e : Ending} (h : fB err l w e w') : dA err l w e w':=by
 obtain ⟨p,c,h1,h2,h3,h4,h5,_⟩:=h
 exact ⟨p,c,h1,h2,h3,h4,h5⟩
theorem EP {w w7 : World} {v : Value} {l t : List Ent} (h : Rows w7 w.heap.size v (ownL l ++ bR l t)) (hP : ∀ e ∈ ownL l ++ bR l t,e.path.size ≤ maxLen) (h80 : (ownL l ++ bR l t).length ≤ 80) (hB : Below w.heap.size w w7) (hl : Sorted l) (ht : Sorted t) :
  ∃ p c,v = .slice p (ownL l ++ bR l t).length c ∧ (ownL l ++ bR l t).length ≤ c ∧ (p = none → c = 0) ∧ (∀ b off s,p = some ⟨b,off,s⟩ → w.heap.size ≤ b) ∧
   Calls Tryz.prog 160 #[.slice p (ownL l ++ bR l t).length c,.func (.func 161) #[] #[]] w7 fun e w8 => e = .returned (.tuple #[]) ∧ Lies w8 p (eP l t) ∧ Below w.heap.size w w8:=by
 by_cases hv : v = .slice none 0 0
 ·obtain ⟨p,c,hvv,hL,hc,hn⟩:=h.form
  rw [hv] at hvv
  have h0 : (ownL l ++ bR l t).length = 0:=by injection hvv with _ h _;exact h.symm
  have hp : p = none:=by injection hvv with h _ _;exact h.symm
  have hc0 : c = 0:=hn hp
  subst hp hc0
  have he:=List.eq_nil_of_length_eq_zero h0
  refine ⟨none,0,by rw [hv,h0],by omega,fun _ => rfl,nofun,?_⟩
  rw [h0]
  refine (G7 w7).mono ?_
  rintro e w8 ⟨rfl,rfl⟩
  have : eP l t = []:=(xg hl ht (r:=[]) (by rw [he]) List.Pairwise.nil).symm
  rw [this]
  exact ⟨rfl,Lies.nil _ _,hB⟩
 ·obtain ⟨g,c,e,hg,ho⟩:=Own.iU h hv rfl
  refine ⟨_,c,e,ho.len,nofun,fun b off s he => by cases he;exact hg,?_⟩
  refine (qV _ g c w7 ho hP h80).mono ?_
  rintro e w8 ⟨rfl,l',hp,hs,hL,hG⟩
  rw [xg hl ht hp hs] at hL
  exact ⟨rfl,hL,hB.grown hG hB.size (fun k hk => by cases hk;exact hg)⟩
set_option maxHeartbeats 8000000 in
set_option maxRecDepth 100000 in
theorem Gb (l t : List Ent) (m : Int) (pl p : Option Addr) (capl cap : Nat) (w : World) (hLl : Lies w pl l) (hL : Lies w p t) (hFl : Fits l) (hF : Fits t) (hnl : l.length < 4611686018427387904) (hn : t.length < 4611686018427387904) (hcapl : l.length ≤ capl) (hcap : t.length ≤ cap) (hm : w.cell? ⟨0,0,none⟩ = some (.int .i64 m)) :
  Calls Tryz.prog 112 #[.slice pl l.length capl,.slice p t.length cap] w (fB (dP l t) (if dP l t = 0 then eP l t else []) w):=by
 have hwl:=fun W (hB : Below w.heap.size w W) => qA l m pl capl W (hLl.kept hB) hFl hnl hcapl (held hB hm)
 have hwt:=fun W (hB : Below w.heap.size w W) => jY t m p cap W (hL.kept hB) hF hn hcap (held hB hm)
 have hB : Below w.heap.size w w:=Below.refl _ _
 have hfld:=qj
 obtain ⟨er,hE⟩ : ∃ er,er = dP l t:=⟨_,rfl⟩
 obtain ⟨rl,hl⟩ : ∃ rl,rl = if dP l t = 0 then eP l t else []:=⟨_,rfl⟩
 rw [← hl,← hE]
 by_cases h1 : (aH true l).1 = 0
 ·by_cases h2 : (aH false t).1 = 0
  ·have HRl:=bP.1 h1
   have HRt:=bP.1 h2
   have hl80:=HRl.len
   have ht80:=HRt.len
   have how:=fun W (hB : Below w.heap.size w W) => IK l pl capl W (hLl.kept hB) hl80
   have hth:=fun W (hB : Below w.heap.size w W) => AB l t pl p capl cap W (hLl.kept hB) (hL.kept hB) hFl hF HRl.sorted hl80 ht80
   have HS : Aside (Sorted l ∧ Sorted t):=⟨HRl.sorted,HRt.sorted⟩
   have ho80 : (ownL l).length ≤ 80:=by
    have:=zh l l.length
    rw [List.take_length] at this;omega
   have hh80 : (bR l t).length ≤ 80:=by
    have:=yC l t t.length
    rw [List.take_length] at this;omega
   have HP : Aside (∀ e ∈ ownL l ++ bR l t,e.path.size ≤ maxLen):=fun e he => by
    rcases List.mem_append.1 he with he | he
    ·obtain ⟨y,hy,_,rfl⟩:=gD.1 he
     exact (hFl y hy).1
    ·exact (hF e (fE.1 he).1).1
   have HN : Aside (kK l t = (ownL l ++ bR l t).length):=rfl
   have HOV : er = if 80 < kK l t then 5 else 0:=by rw [hE,dP,if_pos h1,if_pos h2]
   have HRL : Aside (rl = if er = 0 then eP l t else []):=by show _ = _;rw [hl,hE]
   have HON : Aside (kK l t = (eP l t).length):=(uL HRl.sorted HRt.sorted).symm
   rw [sJ HRl] at hwl
   rw [sJ HRt] at hwt
   clear hl hE h1 h2 HRl HRt hLl hL hFl hF hm
   obtain ⟨n,hnn⟩ : ∃ n,n = t.length:=⟨_,rfl⟩
   obtain ⟨nl,hnnl⟩ : ∃ nl,nl = l.length:=⟨_,rfl⟩
   rw [← hnn] at hwt hth
   rw [← hnnl] at hwl how hth
   rw [← hnn,← hnnl]
   clear hnn hnnl hcapl hcap hn hnl hl80 ht80
   by_cases hN : 80 < kK l t
   ·have HZ : Aside (er = 5 ∧ rl = []):=by rw [if_pos hN] at HOV;exact ⟨HOV,by rw [HRL.out,HOV];rfl⟩
    have hNz : (80 : Int) < ((kK l t : Nat) : Int):=by omega
    clear HOV
    go_enter Tryz.func112,Tryz.ntmps112
    go_wp2_with (first
     | (go_at_call 76;refine (hwl _ hB).mono ?_;clear hwl;rintro e w1 ⟨rfl,hN1⟩;replace hB:=Below.onto hB hN1;clear hN1)
     | (go_at_call 24;refine (hwt _ hB).mono ?_;clear hwt;rintro e w2 ⟨rfl,hN2⟩;replace hB:=Below.onto hB hN2;clear hN2)
     | (go_at_call 157;refine (gZ _ _ _).mono ?_;rintro e w4 ⟨rfl,hw⟩;subst hw;replace hB:=hB.alloc hB.size (.cells #[.int .i64 0,.int .i64 0] 31);rw [show orL [0,0] = 0 from rfl])
     | (go_at_call 158;refine (how _ hB).mono ?_;clear how;rintro e w5 ⟨⟨v5,rfl,hR5⟩,hN5⟩;replace hR5:=hR5.mono hB.size;replace hB:=Below.onto hB hN5;clear hN5)
     | (go_at_call 159;refine (hth _ hB).mono ?_;clear hth;rintro e w6 ⟨⟨v6,rfl,hR6⟩,hN6⟩;replace hR5:=hR5.below hN6;replace hB:=Below.onto hB hN6;clear hN6;obtain ⟨p6,c6,rfl,hL6,hc6,hn6⟩:=hR6.form;clear hR6)
     | (at_builtin;refine uj w6 rfl _ _ rfl w.heap.size _ (ownL l) rfl hR5 ho80 hB.size p6 _ c6 (bR l t) rfl rfl hL6 hn6 hh80 ?_;intro v7 w7 hR7 hB7;replace hB:=hB.trans hB7;clear hB7 hR5 hL6;obtain ⟨p7,c7,rfl,hL7,hc7,hn7⟩:=hR7.form;rw [← HN.out] at hc7 ⊢))
    go_ret2
    rw [HZ.out.1,HZ.out.2]
    exact fB.none hB
   ·have HZ : Aside (er = 0 ∧ rl = eP l t):=by rw [if_neg hN] at HOV;exact ⟨HOV,by rw [HRL.out,HOV];rfl⟩
    have hNz : ¬ (80 : Int) < ((kK l t : Nat) : Int):=by omega
    clear HOV
    go_enter Tryz.func112,Tryz.ntmps112
    go_wp2_with (first
     | (go_at_call 76;refine (hwl _ hB).mono ?_;clear hwl;rintro e w1 ⟨rfl,hN1⟩;replace hB:=Below.onto hB hN1;clear hN1)
     | (go_at_call 24;refine (hwt _ hB).mono ?_;clear hwt;rintro e w2 ⟨rfl,hN2⟩;replace hB:=Below.onto hB hN2;clear hN2)
     | (go_at_call 157;refine (gZ _ _ _).mono ?_;rintro e w4 ⟨rfl,hw⟩;subst hw;replace hB:=hB.alloc hB.size (.cells #[.int .i64 0,.int .i64 0] 31);rw [show orL [0,0] = 0 from rfl])
     | (go_at_call 158;refine (how _ hB).mono ?_;clear how;rintro e w5 ⟨⟨v5,rfl,hR5⟩,hN5⟩;replace hR5:=hR5.mono hB.size;replace hB:=Below.onto hB hN5;clear hN5)
     | (go_at_call 159;refine (hth _ hB).mono ?_;clear hth;rintro e w6 ⟨⟨v6,rfl,hR6⟩,hN6⟩;replace hR5:=hR5.below hN6;replace hB:=Below.onto hB hN6;clear hN6;obtain ⟨p6,c6,rfl,hL6,hc6,hn6⟩:=hR6.form;clear hR6)
     | (at_builtin;refine uj w6 rfl _ _ rfl w.heap.size _ (ownL l) rfl hR5 ho80 hB.size p6 _ c6 (bR l t) rfl rfl hL6 hn6 hh80 ?_;intro v7 w7 hR7 hB7;replace hB:=hB.trans hB7;clear hB7 hR5 hL6;obtain ⟨p7,c7,rfl,hc7,hn7,hnw7,hso⟩:=EP hR7 (HP.out) (by rw [← HN.out];omega) hB HS.out.1 HS.out.2;rw [← HN.out] at hc7 hso ⊢)
     | (go_at_call 160;refine hso.mono ?_;clear hso;rintro e w8 ⟨rfl,hL8,hB8⟩))
    go_ret2
    rw [HZ.out.1,HZ.out.2]
    exact ⟨p7,c7,by rw [← HON.out];rfl,hL8,by rw [← HON.out];exact hc7,hn7,hB8,hnw7⟩
  ·have HZ : Aside (er = (aH false t).1 ∧ rl = []):=by
    have : er = (aH false t).1:=by rw [hE,dP,if_pos h1,if_neg h2]
    refine ⟨this,?_⟩
    rw [hl,← hE,this,if_neg h2]
   rw [h1] at hwl
   generalize (aH false t).1 = f at hwt h2 HZ
   generalize ((aH false t).2 : Int) = fa at hwt
   generalize ((aH true l).2 : Int) = fb at hwl
   clear hl hE hLl hL hFl hF hm
   obtain ⟨n,hnn⟩ : ∃ n,n = t.length:=⟨_,rfl⟩
   obtain ⟨nl,hnnl⟩ : ∃ nl,nl = l.length:=⟨_,rfl⟩
   rw [← hnn] at hwt
   rw [← hnnl] at hwl
   rw [← hnn,← hnnl]
   clear hnn hnnl hcapl hcap hn hnl
   have HOR : Aside (orL [0,f] = f):=by show _ = _;rw [orL,if_pos rfl,orL];split <;> simp_all
   go_enter Tryz.func112,Tryz.ntmps112
   go_wp2_with (first
    | (go_at_call 76;refine (hwl _ hB).mono ?_;clear hwl;rintro e w1 ⟨rfl,hN1⟩;replace hB:=Below.onto hB hN1;clear hN1)
    | (go_at_call 24;refine (hwt _ hB).mono ?_;clear hwt;rintro e w2 ⟨rfl,hN2⟩;replace hB:=Below.onto hB hN2;clear hN2)
    | (go_at_call 157;refine (gZ _ _ _).mono ?_;rintro e w4 ⟨rfl,hw⟩;subst hw;replace hB:=hB.alloc hB.size (.cells #[.int .i64 0,.int .i64 f] 31);rw [HOR.out]))
   go_ret2
   rw [HZ.out.1,HZ.out.2]
   exact fB.none hB
 ·have HZ : Aside (er = (aH true l).1 ∧ rl = []):=by
   have : er = (aH true l).1:=by rw [hE,dP,if_neg h1]
   refine ⟨this,?_⟩
   rw [hl,← hE,this,if_neg h1]
  generalize (aH false t).1 = f at hwt
  generalize ((aH false t).2 : Int) = fa at hwt
  generalize (aH true l).1 = g at hwl h1 HZ
  generalize ((aH true l).2 : Int) = fb at hwl
  clear hl hE hLl hL hFl hF hm
  obtain ⟨n,hnn⟩ : ∃ n,n = t.length:=⟨_,rfl⟩
  obtain ⟨nl,hnnl⟩ : ∃ nl,nl = l.length:=⟨_,rfl⟩
  rw [← hnn] at hwt
  rw [← hnnl] at hwl
  rw [← hnn,← hnnl]
  clear hnn hnnl hcapl hcap hn hnl
  have HOR : Aside (orL [g,f] = g):=by show _ = _;rw [orL,if_neg h1]
  go_enter Tryz.func112,Tryz.ntmps112
  go_wp2_with (first
   | (go_at_call 76;refine (hwl _ hB).mono ?_;clear hwl;rintro e w1 ⟨rfl,hN1⟩;replace hB:=Below.onto hB hN1;clear hN1)
   | (go_at_call 24;refine (hwt _ hB).mono ?_;clear hwt;rintro e w2 ⟨rfl,hN2⟩;replace hB:=Below.onto hB hN2;clear hN2)
   | (go_at_call 157;refine (gZ _ _ _).mono ?_;rintro e w4 ⟨rfl,hw⟩;subst hw;replace hB:=hB.alloc hB.size (.cells #[.int .i64 g,.int .i64 f] 31);rw [HOR.out]))
  go_ret2
  rw [HZ.out.1,HZ.out.2]
  exact fB.none hB
theorem neqE (e : Ent) (w : World) : Sem.run Tryz.prog (binOp .neq 53 (.agg #[.string e.path, .int .i64 e.kind, .string e.text, .bool e.opq]) (.agg #[.string e.path, .int .i64 e.kind, .string e.text, .bool e.opq])) w = .ok (.bool false) w:=by
 have u3:=Tryz.underlying3
 have a3:=Tryz.isAgg3
 have z3:=Tryz.sizeOf3
 have u9:=Tryz.underlying9
 have a9:=Tryz.isAgg9
 have z9:=Tryz.sizeOf9
 have u4:=Tryz.underlying4
 have a4:=Tryz.isAgg4
 have z4:=Tryz.sizeOf4
 have hS : Tryz.prog.underlying 53 = some (.struct (Tryz.prog.fieldsOf 53)):=by kernel_rfl
 have hp : Tryz.prog.stoodInHeld 53 = false:=by kernel_rfl
 rw [run_neq_struct,show (10000 : Nat) = 9999 + 1 from rfl,run_equalIn_agg w 9999 53 _ _ hS hp]
 simp only [Program.fieldsOf,Tryz.underlying53]
 go_simp
theorem guardE (op : BinOp) (a b : Operand) (x y : Ent) (w : World) : (eqGuard op 53 a b (.agg #[.string x.path, .int .i64 x.kind, .string x.text, .bool x.opq]) (.agg #[.string y.path, .int .i64 y.kind, .string y.text, .bool y.opq])).run Tryz.prog w = .ok () w :=
 GuardAt.agg (P:=Tryz.prog) (T:=53) (fun e : Ent => #[.string e.path, .int .i64 e.kind, .string e.text, .bool e.opq]) (by kernel_rfl) op a b x y w
set_option maxHeartbeats 2000000 in
theorem oq (l : List Ent) (p p' : Option Addr) (c c' : Nat) (w : World) (hL : Lies w p l) (hL' : Lies w p' l) (hn : l.length < 4611686018427387904) :
  Calls Tryz.prog 23 #[.slice p l.length c,.slice p' l.length c'] w fun e w' => e = .returned (.bool true) ∧ Below w.heap.size w w':=by
 have H1 : Aside (Lies w p l):=hL
 have H2 : Aside (Lies w p' l):=hL'
 obtain ⟨n,hnl⟩ : ∃ n,n = l.length:=⟨_,rfl⟩
 have HN : Aside (n = l.length):=hnl
 rw [← hnl] at hn ⊢
 clear hnl hL hL'
 have hgu:=guardE
 have hneq:=neqE
 go_enter Tryz.func23,Tryz.ntmps23
 go_wp2
 go_loopg [13] n (fun gg s13 wr => ∃ k : Nat,k ≤ n ∧ n - k ≤ gg ∧ s13 = .int .i64 k ∧ Aside (Below w.heap.size w wr))
 case atStart => exact ⟨0,Nat.zero_le _,by omega,rfl,Below.refl _ _⟩
 case round =>
  obtain ⟨k,hk,hgg,rfl,BW⟩:=hrel
  by_cases hlt : k < n
  ·have hltz : (k : Int) < (n : Int):=by omega
   obtain ⟨y,hy⟩ : ∃ y,l[k]? = some y:=⟨_,List.getElem?_eq_getElem (by have:=HN.out;omega)⟩
   rcases H1.out with h0 | ⟨b,off,rfl,hb,hc⟩
   ·rw [h0] at hy;simp at hy
   rcases H2.out with h0 | ⟨b',off',rfl,hb',hc'⟩
   ·rw [h0] at hy;simp at hy
   obtain ⟨c0,c1,c2,c3⟩:=Lies.cells hc hb BW.out hy
   obtain ⟨d0,d1,d2,d3⟩:=Lies.cells hc' hb' BW.out hy
   clear hc hc' hy
   go_wp2
   go_quiet (fail)
   go_wp2
   go_roundg (n - (k + 1))
   case measure => omega
   case rel => exact ⟨k + 1,by omega,by omega,by go_num,below_drewN BW.out _⟩
  ·have hltz : ¬ (k : Int) < (n : Int):=by omega
   go_wp2
   go_ret
   exact ⟨rfl,BW.out⟩
end Go.Proofs.YthfeoiffoeagkaaGreatDoor
