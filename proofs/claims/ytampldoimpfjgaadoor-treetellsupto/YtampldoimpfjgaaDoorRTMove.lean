/-
  What the document's own answer traceref1.Move answers.
-/
import Derived.Test.YtampldoimpfjgaaDoorRTPut
import Derived.Test.YtampldoimpfjgaaDoorRTMath2
namespace Go.Proofs.YtampldoimpfjgaaDoor
open Go.RowKit PM Go.Sort
set_option linter.unusedVariables false

theorem boxK {V W w1 : World} {a b c d : Value} {T : TypeId} (h : Below (V.heap.size + 1) (V.alloc (.cells #[a, b, c, d] T)) W) (g : Below W.heap.size W w1) :
    Below (V.heap.size + 1) (V.alloc (.cells #[a, b, c, d] T)) w1 ∧ V.heap.size ≠ w1.heap.size ∧ V.heap.size < w1.heap.size ∧ w1.cell? ⟨V.heap.size, 1, none⟩ = some b := by
  have hB := up1 h g
  have hs := hB.size
  simp at hs
  obtain ⟨⟨_, x, _, _⟩, _⟩ := new4 (Nat.lt_succ_self _) hB
  exact ⟨hB, by omega, by omega, x⟩
theorem baseK {w V W : World} {o : Obj} (hV : Below w.heap.size w V) (h : Below (V.heap.size + 1) (V.alloc o) W) : Below w.heap.size w W := Below.onto hV (base1 h)
abbrev RefCl (s : ByteArray) (b : Bool) : Prop := ∀ W, Calls Tryd.prog 17 #[.string s] W fun e w' => e = .returned (.bool b) ∧ Below W.heap.size W w'
abbrev RefUn (s d : ByteArray) (b : Bool) : Prop := ∀ W, Calls Tryd.prog 19 #[.string s, .string d] W fun e w' => e = .returned (.bool b) ∧ w' = W
set_option maxHeartbeats 16000000 in
set_option maxRecDepth 100000 in
theorem mvW_1 (p : Option Addr) (n cap : Nat) (frm to : ByteArray) (w : World) (f1 : Int) (f2 : Nat) (h1 : ¬ f1 = 0) (hwr : PutWr w p n cap f1 (f2 : Int)) :
    Calls Tryd.prog 41 #[.slice p n cap, .string frm, .string to] w (TreePost f1 [] w) := by
  have hB : Below w.heap.size w w := Below.refl _ _
  go_enter Tryd.func41, Tryd.ntmps41
  go_wp2_with (go_at_call 30; refine (hwr _ hB).mono ?_; clear hwr; rintro rr w1 ⟨rfl, hN⟩; replace hB := (Below.onto hB hN).alloc (Below.onto hB hN).size (.cells #[.int .i64 f1, .int .i64 (f2 : Int)] 40); clear hN)
  go_quiet (fail)
  replace hB := below_drewN hB nq
  go_wp2
  go_ret2
  exact TreePost.none hB
set_option maxHeartbeats 16000000 in
set_option maxRecDepth 100000 in
theorem mvW_2 (p : Option Addr) (n cap : Nat) (frm to : ByteArray) (w : World) (hwr : PutWr w p n cap 0 0) (zp zt : ByteArray) (zk : Int) (zo : Bool) (hgf : RefGe w frm p n cap zp zk zt zo false) :
    Calls Tryd.prog 41 #[.slice p n cap, .string frm, .string to] w (TreePost 6 [] w) := by
  have hB : Below w.heap.size w w := Below.refl _ _
  go_enter Tryd.func41, Tryd.ntmps41
  go_wp2_with (first
    | (go_at_call 30; refine (hwr _ hB).mono ?_; clear hwr; rintro rr w1 ⟨rfl, hN⟩; replace hB := (Below.onto hB hN).alloc (Below.onto hB hN).size (.cells #[.int .i64 0, .int .i64 0] 40); clear hN)
    | (go_at_call 32; refine (hgf _ hB).mono ?_; clear hgf; rintro rr w2 ⟨rfl, hN⟩; replace hB := (Below.onto hB hN).alloc (Below.onto hB hN).size (.cells #[.string zp, .int .i64 zk, .string zt, .bool zo] 38); clear hN))
  go_ret2
  exact TreePost.none hB
set_option maxHeartbeats 16000000 in
set_option maxRecDepth 100000 in
theorem mvW_3 (p : Option Addr) (n cap : Nat) (frm to : ByteArray) (w : World) (hwr : PutWr w p n cap 0 0) (zp zt : ByteArray) (zk : Int) (zo : Bool) (hgf : RefGe w frm p n cap zp zk zt zo true) (hf0 : frm.data.toList = []) :
    Calls Tryd.prog 41 #[.slice p n cap, .string frm, .string to] w (TreePost 6 [] w) := by
  have hB : Below w.heap.size w w := Below.refl _ _
  have hf1 := empty_of hf0
  go_enter Tryd.func41, Tryd.ntmps41
  go_wp2_with (first
    | (go_at_call 30; refine (hwr _ hB).mono ?_; clear hwr; rintro rr w1 ⟨rfl, hN⟩; replace hB := (Below.onto hB hN).alloc (Below.onto hB hN).size (.cells #[.int .i64 0, .int .i64 0] 40); clear hN)
    | (go_at_call 32; refine (hgf _ hB).mono ?_; clear hgf; rintro rr w2 ⟨rfl, hN⟩; replace hB := (Below.onto hB hN).alloc (Below.onto hB hN).size (.cells #[.string zp, .int .i64 zk, .string zt, .bool zo] 38); clear hN))
  go_ret2
  exact TreePost.none hB
set_option maxHeartbeats 16000000 in
set_option maxRecDepth 100000 in
theorem mvW_4 (p : Option Addr) (n cap : Nat) (frm to : ByteArray) (w : World) (hwr : PutWr w p n cap 0 0) (zp zt : ByteArray) (zk : Int) (zo : Bool) (hgf : RefGe w frm p n cap zp zk zt zo true) (hf0 : ¬ frm.data.toList = []) (hcl : RefCl to false) :
    Calls Tryd.prog 41 #[.slice p n cap, .string frm, .string to] w (TreePost 7 [] w) := by
  have hB : Below w.heap.size w w := Below.refl _ _
  have hf1 := empty_not hf0
  go_enter Tryd.func41, Tryd.ntmps41
  go_wp2_with (first
    | (go_at_call 30; refine (hwr _ hB).mono ?_; clear hwr; rintro rr w1 ⟨rfl, hN⟩; replace hB := (Below.onto hB hN).alloc (Below.onto hB hN).size (.cells #[.int .i64 0, .int .i64 0] 40); clear hN)
    | (go_at_call 32; refine (hgf _ hB).mono ?_; clear hgf; rintro rr w2 ⟨rfl, hN⟩; have HV : Aside (Below w.heap.size w w2) := Below.onto hB hN; clear hN hB; have hT : Below (w2.heap.size + 1) (w2.alloc (.cells #[.string zp, .int .i64 zk, .string zt, .bool zo] 38)) (w2.alloc (.cells #[.string zp, .int .i64 zk, .string zt, .bool zo] 38)) := Below.refl _ _)
    | (go_at_call 17; refine (hcl _).mono ?_; clear hcl; rintro rr w3 ⟨rfl, hN⟩; obtain ⟨hT3, hne, hlt, a1⟩ := boxK hT hN; clear hN hT))
  go_ret2
  exact TreePost.none (baseK HV.out hT3)
set_option maxHeartbeats 16000000 in
set_option maxRecDepth 100000 in
theorem mvW_5 (p : Option Addr) (n cap : Nat) (frm to : ByteArray) (w : World) (hwr : PutWr w p n cap 0 0) (zp zt : ByteArray) (zk : Int) (zo : Bool) (hgf : RefGe w frm p n cap zp zk zt zo true) (hf0 : ¬ frm.data.toList = []) (hcl : RefCl to true) (hft : frm.data.toList = to.data.toList) :
    Calls Tryd.prog 41 #[.slice p n cap, .string frm, .string to] w (fun r w' => r = .returned (.tuple #[.slice p n cap, .int .i64 0]) ∧ Below w.heap.size w w') := by
  have hB : Below w.heap.size w w := Below.refl _ _
  have hf1 := empty_not hf0
  have hf2 : to.toList.isEmpty = false := empty_not (by rw [← hft]; exact hf0)
  obtain ⟨q1, q2⟩ := eq_parts hft
  go_enter Tryd.func41, Tryd.ntmps41
  go_wp2_with (first
    | (go_at_call 30; refine (hwr _ hB).mono ?_; clear hwr; rintro rr w1 ⟨rfl, hN⟩; replace hB := (Below.onto hB hN).alloc (Below.onto hB hN).size (.cells #[.int .i64 0, .int .i64 0] 40); clear hN)
    | (go_at_call 32; refine (hgf _ hB).mono ?_; clear hgf; rintro rr w2 ⟨rfl, hN⟩; have HV : Aside (Below w.heap.size w w2) := Below.onto hB hN; clear hN hB; have hT : Below (w2.heap.size + 1) (w2.alloc (.cells #[.string zp, .int .i64 zk, .string zt, .bool zo] 38)) (w2.alloc (.cells #[.string zp, .int .i64 zk, .string zt, .bool zo] 38)) := Below.refl _ _)
    | (go_at_call 17; refine (hcl _).mono ?_; clear hcl; rintro rr w3 ⟨rfl, hN⟩; obtain ⟨hT3, hne, hlt, a1⟩ := boxK hT hN; clear hN hT))
  go_ret2
  exact ⟨rfl, baseK HV.out hT3⟩
set_option maxHeartbeats 16000000 in
set_option maxRecDepth 100000 in
theorem mvW_6 (p : Option Addr) (n cap : Nat) (frm to : ByteArray) (w : World) (hwr : PutWr w p n cap 0 0) (zp zt : ByteArray) (zk : Int) (zo : Bool) (hgf : RefGe w frm p n cap zp zk zt zo true) (hf0 : ¬ frm.data.toList = []) (hcl : RefCl to true) (hft : ¬ frm.data.toList = to.data.toList) (hun : RefUn to frm true) :
    Calls Tryd.prog 41 #[.slice p n cap, .string frm, .string to] w (TreePost 8 [] w) := by
  have hB : Below w.heap.size w w := Below.refl _ _
  have hf1 := empty_not hf0
  obtain ⟨q1, q2⟩ := ne_parts hft
  go_enter Tryd.func41, Tryd.ntmps41
  go_wp2_with (first
    | (go_at_call 30; refine (hwr _ hB).mono ?_; clear hwr; rintro rr w1 ⟨rfl, hN⟩; replace hB := (Below.onto hB hN).alloc (Below.onto hB hN).size (.cells #[.int .i64 0, .int .i64 0] 40); clear hN)
    | (go_at_call 32; refine (hgf _ hB).mono ?_; clear hgf; rintro rr w2 ⟨rfl, hN⟩; have HV : Aside (Below w.heap.size w w2) := Below.onto hB hN; clear hN hB; have hT : Below (w2.heap.size + 1) (w2.alloc (.cells #[.string zp, .int .i64 zk, .string zt, .bool zo] 38)) (w2.alloc (.cells #[.string zp, .int .i64 zk, .string zt, .bool zo] 38)) := Below.refl _ _)
    | (go_at_call 17; refine (hcl _).mono ?_; clear hcl; rintro rr w3 ⟨rfl, hN⟩; obtain ⟨hT3, hne, hlt, a1⟩ := boxK hT hN; clear hN hT)
    | (go_at_call 19; refine (hun _).mono ?_; clear hun; rintro rr wx ⟨rfl, hwx⟩; subst wx))
  go_ret2
  exact TreePost.none (baseK HV.out hT3)
set_option maxHeartbeats 16000000 in
set_option maxRecDepth 100000 in
theorem mvW_7 (p : Option Addr) (n cap : Nat) (frm to : ByteArray) (w : World) (hwr : PutWr w p n cap 0 0) (zp zt : ByteArray) (zk : Int) (zo : Bool) (hgf : RefGe w frm p n cap zp zk zt zo true) (hf0 : ¬ frm.data.toList = []) (hcl : RefCl to true) (hft : ¬ frm.data.toList = to.data.toList) (hun : RefUn to frm false) (hcu : RefCu to) (xp xt : ByteArray) (xk : Int) (xo : Bool) (hgd : RefGd w to p n cap xp xk xt xo false) :
    Calls Tryd.prog 41 #[.slice p n cap, .string frm, .string to] w (TreePost 6 [] w) := by
  have hB : Below w.heap.size w w := Below.refl _ _
  have hf1 := empty_not hf0
  obtain ⟨q1, q2⟩ := ne_parts hft
  go_enter Tryd.func41, Tryd.ntmps41
  go_wp2_with (first
    | (go_at_call 30; refine (hwr _ hB).mono ?_; clear hwr; rintro rr w1 ⟨rfl, hN⟩; replace hB := (Below.onto hB hN).alloc (Below.onto hB hN).size (.cells #[.int .i64 0, .int .i64 0] 40); clear hN)
    | (go_at_call 32; refine (hgf _ hB).mono ?_; clear hgf; rintro rr w2 ⟨rfl, hN⟩; have HV : Aside (Below w.heap.size w w2) := Below.onto hB hN; clear hN hB; have hT : Below (w2.heap.size + 1) (w2.alloc (.cells #[.string zp, .int .i64 zk, .string zt, .bool zo] 38)) (w2.alloc (.cells #[.string zp, .int .i64 zk, .string zt, .bool zo] 38)) := Below.refl _ _)
    | (go_at_call 17; refine (hcl _).mono ?_; clear hcl; rintro rr w3 ⟨rfl, hN⟩; obtain ⟨hT3, hne, hlt, a1⟩ := boxK hT hN; clear hN hT)
    | (go_at_call 19; refine (hun _).mono ?_; clear hun; rintro rr wx ⟨rfl, hwx⟩; subst wx)
    | (go_at_call 21; refine (hcu _).mono ?_; clear hcu; rintro rr w4 ⟨⟨d, nm, rfl, hd, hnm⟩, hG⟩; clear hnm hne hlt a1; obtain ⟨hT4, hne, hlt, a1⟩ := boxK hT3 hG.below; clear hG hT3)
    | (go_at_call 32; refine (hgd _ d hd (baseK HV.out hT4)).mono ?_; clear hgd; rintro rr w5 ⟨rfl, hN⟩; clear hne hlt a1; obtain ⟨hT5, hne, hlt, a1⟩ := boxK hT4 hN; clear hN hT4; replace hT5 := hT5.alloc (Nat.succ_le_of_lt hlt) (.cells #[.string xp, .int .i64 xk, .string xt, .bool xo] 38)))
  go_ret2
  exact TreePost.none (baseK HV.out hT5)
set_option maxHeartbeats 16000000 in
set_option maxRecDepth 100000 in
theorem mvW_8 (p : Option Addr) (n cap : Nat) (frm to : ByteArray) (w : World) (hwr : PutWr w p n cap 0 0) (zp zt : ByteArray) (zk : Int) (zo : Bool) (hgf : RefGe w frm p n cap zp zk zt zo true) (hf0 : ¬ frm.data.toList = []) (hcl : RefCl to true) (hft : ¬ frm.data.toList = to.data.toList) (hun : RefUn to frm false) (hcu : RefCu to) (xp xt : ByteArray) (xk : Int) (xo : Bool) (hgd : RefGd w to p n cap xp xk xt xo true) (hkk : ¬ xk = 2) :
    Calls Tryd.prog 41 #[.slice p n cap, .string frm, .string to] w (TreePost 10 [] w) := by
  have hB : Below w.heap.size w w := Below.refl _ _
  have hf1 := empty_not hf0
  obtain ⟨q1, q2⟩ := ne_parts hft
  go_enter Tryd.func41, Tryd.ntmps41
  go_wp2_with (first
    | (go_at_call 30; refine (hwr _ hB).mono ?_; clear hwr; rintro rr w1 ⟨rfl, hN⟩; replace hB := (Below.onto hB hN).alloc (Below.onto hB hN).size (.cells #[.int .i64 0, .int .i64 0] 40); clear hN)
    | (go_at_call 32; refine (hgf _ hB).mono ?_; clear hgf; rintro rr w2 ⟨rfl, hN⟩; have HV : Aside (Below w.heap.size w w2) := Below.onto hB hN; clear hN hB; have hT : Below (w2.heap.size + 1) (w2.alloc (.cells #[.string zp, .int .i64 zk, .string zt, .bool zo] 38)) (w2.alloc (.cells #[.string zp, .int .i64 zk, .string zt, .bool zo] 38)) := Below.refl _ _)
    | (go_at_call 17; refine (hcl _).mono ?_; clear hcl; rintro rr w3 ⟨rfl, hN⟩; obtain ⟨hT3, hne, hlt, a1⟩ := boxK hT hN; clear hN hT)
    | (go_at_call 19; refine (hun _).mono ?_; clear hun; rintro rr wx ⟨rfl, hwx⟩; subst wx)
    | (go_at_call 21; refine (hcu _).mono ?_; clear hcu; rintro rr w4 ⟨⟨d, nm, rfl, hd, hnm⟩, hG⟩; clear hnm hne hlt a1; obtain ⟨hT4, hne, hlt, a1⟩ := boxK hT3 hG.below; clear hG hT3)
    | (go_at_call 32; refine (hgd _ d hd (baseK HV.out hT4)).mono ?_; clear hgd; rintro rr w5 ⟨rfl, hN⟩; clear hne hlt a1; obtain ⟨hT5, hne, hlt, a1⟩ := boxK hT4 hN; clear hN hT4; replace hT5 := hT5.alloc (Nat.succ_le_of_lt hlt) (.cells #[.string xp, .int .i64 xk, .string xt, .bool xo] 38)))
  go_ret2
  exact TreePost.none (baseK HV.out hT5)
end Go.Proofs.YtampldoimpfjgaaDoor
namespace Go.Proofs.YtampldoimpfjgaaDoor
open Go.RowKit PM Go.Sort
set_option linter.unusedVariables false

set_option maxHeartbeats 16000000 in
set_option maxRecDepth 100000 in
theorem mvW_9 (p : Option Addr) (n cap : Nat) (frm to : ByteArray) (w : World) (hwr : PutWr w p n cap 0 0) (zp zt : ByteArray) (zk : Int) (zo : Bool) (hgf : RefGe w frm p n cap zp zk zt zo true) (hf0 : ¬ frm.data.toList = []) (hcl : RefCl to true) (hft : ¬ frm.data.toList = to.data.toList) (hun : RefUn to frm false) (hcu : RefCu to) (xp xt : ByteArray) (xk : Int) (xo : Bool) (hgd : RefGd w to p n cap xp 2 xt xo true) (yp yt : ByteArray) (yk : Int) (yo : Bool) (hgt : RefGe w to p n cap yp yk yt yo true) (hka : ¬ zk = 2) (hkb : yk = 2) :
    Calls Tryd.prog 41 #[.slice p n cap, .string frm, .string to] w (TreePost 9 [] w) := by
  have hB : Below w.heap.size w w := Below.refl _ _
  have hf1 := empty_not hf0
  obtain ⟨q1, q2⟩ := ne_parts hft
  subst hkb
  go_enter Tryd.func41, Tryd.ntmps41
  go_wp2_with (first
    | (go_at_call 30; refine (hwr _ hB).mono ?_; clear hwr; rintro rr w1 ⟨rfl, hN⟩; replace hB := (Below.onto hB hN).alloc (Below.onto hB hN).size (.cells #[.int .i64 0, .int .i64 0] 40); clear hN)
    | (go_at_call 32; refine (hgf _ hB).mono ?_; clear hgf; rintro rr w2 ⟨rfl, hN⟩; have HV : Aside (Below w.heap.size w w2) := Below.onto hB hN; clear hN hB; have hT : Below (w2.heap.size + 1) (w2.alloc (.cells #[.string zp, .int .i64 zk, .string zt, .bool zo] 38)) (w2.alloc (.cells #[.string zp, .int .i64 zk, .string zt, .bool zo] 38)) := Below.refl _ _)
    | (go_at_call 17; refine (hcl _).mono ?_; clear hcl; rintro rr w3 ⟨rfl, hN⟩; obtain ⟨hT3, hne, hlt, a1⟩ := boxK hT hN; clear hN hT)
    | (go_at_call 19; refine (hun _).mono ?_; clear hun; rintro rr wx ⟨rfl, hwx⟩; subst wx)
    | (go_at_call 21; refine (hcu _).mono ?_; clear hcu; rintro rr w4 ⟨⟨d, nm, rfl, hd, hnm⟩, hG⟩; clear hnm hne hlt a1; obtain ⟨hT4, hne, hlt, a1⟩ := boxK hT3 hG.below; clear hG hT3)
    | (go_at_call 32; refine (hgd _ d hd (baseK HV.out hT4)).mono ?_; clear hgd; rintro rr w5 ⟨rfl, hN⟩; clear hne hlt a1; obtain ⟨hT5, hne, hlt, a1⟩ := boxK hT4 hN; clear hN hT4; replace hT5 := hT5.alloc (Nat.succ_le_of_lt hlt) (.cells #[.string xp, .int .i64 2, .string xt, .bool xo] 38))
    | (go_at_call 32; refine (hgt _ (baseK HV.out hT5)).mono ?_; clear hgt; rintro rr w6 ⟨rfl, hN⟩; clear hne hlt a1; obtain ⟨hT6, hne, hlt, a1⟩ := boxK hT5 hN; clear hN hT5; replace hT6 := hT6.alloc (Nat.succ_le_of_lt hlt) (.cells #[.string yp, .int .i64 2, .string yt, .bool yo] 38)))
  go_ret2
  exact TreePost.none (baseK HV.out hT6)
set_option maxHeartbeats 16000000 in
set_option maxRecDepth 100000 in
theorem mvW_10 (p : Option Addr) (n cap : Nat) (frm to : ByteArray) (w : World) (hwr : PutWr w p n cap 0 0) (zp zt : ByteArray) (zk : Int) (zo : Bool) (hgf : RefGe w frm p n cap zp zk zt zo true) (hf0 : ¬ frm.data.toList = []) (hcl : RefCl to true) (hft : ¬ frm.data.toList = to.data.toList) (hun : RefUn to frm false) (hcu : RefCu to) (xp xt : ByteArray) (xk : Int) (xo : Bool) (hgd : RefGd w to p n cap xp 2 xt xo true) (yp yt : ByteArray) (yk : Int) (yo : Bool) (hgt : RefGe w to p n cap yp yk yt yo true) (hka : zk = 2) (hkb : ¬ yk = 2) :
    Calls Tryd.prog 41 #[.slice p n cap, .string frm, .string to] w (TreePost 10 [] w) := by
  have hB : Below w.heap.size w w := Below.refl _ _
  have hf1 := empty_not hf0
  obtain ⟨q1, q2⟩ := ne_parts hft
  subst hka
  go_enter Tryd.func41, Tryd.ntmps41
  go_wp2_with (first
    | (go_at_call 30; refine (hwr _ hB).mono ?_; clear hwr; rintro rr w1 ⟨rfl, hN⟩; replace hB := (Below.onto hB hN).alloc (Below.onto hB hN).size (.cells #[.int .i64 0, .int .i64 0] 40); clear hN)
    | (go_at_call 32; refine (hgf _ hB).mono ?_; clear hgf; rintro rr w2 ⟨rfl, hN⟩; have HV : Aside (Below w.heap.size w w2) := Below.onto hB hN; clear hN hB; have hT : Below (w2.heap.size + 1) (w2.alloc (.cells #[.string zp, .int .i64 2, .string zt, .bool zo] 38)) (w2.alloc (.cells #[.string zp, .int .i64 2, .string zt, .bool zo] 38)) := Below.refl _ _)
    | (go_at_call 17; refine (hcl _).mono ?_; clear hcl; rintro rr w3 ⟨rfl, hN⟩; obtain ⟨hT3, hne, hlt, a1⟩ := boxK hT hN; clear hN hT)
    | (go_at_call 19; refine (hun _).mono ?_; clear hun; rintro rr wx ⟨rfl, hwx⟩; subst wx)
    | (go_at_call 21; refine (hcu _).mono ?_; clear hcu; rintro rr w4 ⟨⟨d, nm, rfl, hd, hnm⟩, hG⟩; clear hnm hne hlt a1; obtain ⟨hT4, hne, hlt, a1⟩ := boxK hT3 hG.below; clear hG hT3)
    | (go_at_call 32; refine (hgd _ d hd (baseK HV.out hT4)).mono ?_; clear hgd; rintro rr w5 ⟨rfl, hN⟩; clear hne hlt a1; obtain ⟨hT5, hne, hlt, a1⟩ := boxK hT4 hN; clear hN hT4; replace hT5 := hT5.alloc (Nat.succ_le_of_lt hlt) (.cells #[.string xp, .int .i64 2, .string xt, .bool xo] 38))
    | (go_at_call 32; refine (hgt _ (baseK HV.out hT5)).mono ?_; clear hgt; rintro rr w6 ⟨rfl, hN⟩; clear hne hlt a1; obtain ⟨hT6, hne, hlt, a1⟩ := boxK hT5 hN; clear hN hT5; replace hT6 := hT6.alloc (Nat.succ_le_of_lt hlt) (.cells #[.string yp, .int .i64 yk, .string yt, .bool yo] 38)))
  go_ret2
  exact TreePost.none (baseK HV.out hT6)
set_option maxHeartbeats 16000000 in
set_option maxRecDepth 100000 in
theorem mvW_11 (p : Option Addr) (n cap : Nat) (frm to : ByteArray) (w : World) (hwr : PutWr w p n cap 0 0) (zp zt : ByteArray) (zk : Int) (zo : Bool) (hgf : RefGe w frm p n cap zp zk zt zo true) (hf0 : ¬ frm.data.toList = []) (hcl : RefCl to true) (hft : ¬ frm.data.toList = to.data.toList) (hun : RefUn to frm false) (hcu : RefCu to) (xp xt : ByteArray) (xk : Int) (xo : Bool) (hgd : RefGd w to p n cap xp 2 xt xo true) (yp yt : ByteArray) (yk : Int) (yo : Bool) (hgt : RefGe w to p n cap yp yk yt yo true) (hka : zk = 2) (hkb : yk = 2) (nk : Nat) (hnk : 0 < nk) (hna : RefNa w to p n cap nk) :
    Calls Tryd.prog 41 #[.slice p n cap, .string frm, .string to] w (TreePost 11 [] w) := by
  have hB : Below w.heap.size w w := Below.refl _ _
  have hf1 := empty_not hf0
  obtain ⟨q1, q2⟩ := ne_parts hft
  have hnz : (0 : Int) < (nk : Int) := by omega
  subst hka hkb
  go_enter Tryd.func41, Tryd.ntmps41
  go_wp2_with (first
    | (go_at_call 30; refine (hwr _ hB).mono ?_; clear hwr; rintro rr w1 ⟨rfl, hN⟩; replace hB := (Below.onto hB hN).alloc (Below.onto hB hN).size (.cells #[.int .i64 0, .int .i64 0] 40); clear hN)
    | (go_at_call 32; refine (hgf _ hB).mono ?_; clear hgf; rintro rr w2 ⟨rfl, hN⟩; have HV : Aside (Below w.heap.size w w2) := Below.onto hB hN; clear hN hB; have hT : Below (w2.heap.size + 1) (w2.alloc (.cells #[.string zp, .int .i64 2, .string zt, .bool zo] 38)) (w2.alloc (.cells #[.string zp, .int .i64 2, .string zt, .bool zo] 38)) := Below.refl _ _)
    | (go_at_call 17; refine (hcl _).mono ?_; clear hcl; rintro rr w3 ⟨rfl, hN⟩; obtain ⟨hT3, hne, hlt, a1⟩ := boxK hT hN; clear hN hT)
    | (go_at_call 19; refine (hun _).mono ?_; clear hun; rintro rr wx ⟨rfl, hwx⟩; subst wx)
    | (go_at_call 21; refine (hcu _).mono ?_; clear hcu; rintro rr w4 ⟨⟨d, nm, rfl, hd, hnm⟩, hG⟩; clear hnm hne hlt a1; obtain ⟨hT4, hne, hlt, a1⟩ := boxK hT3 hG.below; clear hG hT3)
    | (go_at_call 32; refine (hgd _ d hd (baseK HV.out hT4)).mono ?_; clear hgd; rintro rr w5 ⟨rfl, hN⟩; clear hne hlt a1; obtain ⟨hT5, hne, hlt, a1⟩ := boxK hT4 hN; clear hN hT4; replace hT5 := hT5.alloc (Nat.succ_le_of_lt hlt) (.cells #[.string xp, .int .i64 2, .string xt, .bool xo] 38))
    | (go_at_call 32; refine (hgt _ (baseK HV.out hT5)).mono ?_; clear hgt; rintro rr w6 ⟨rfl, hN⟩; clear hne hlt a1; obtain ⟨hT6, hne, hlt, a1⟩ := boxK hT5 hN; clear hN hT5; replace hT6 := hT6.alloc (Nat.succ_le_of_lt hlt) (.cells #[.string yp, .int .i64 2, .string yt, .bool yo] 38))
    | (go_at_call 60; refine (hna _ (baseK HV.out hT6)).mono ?_; clear hna; rintro rr w7 ⟨⟨a7, c7, rfl⟩, hN⟩; have hB := Below.onto (baseK HV.out hT6) hN; clear hN hT6 hne hlt a1))
  go_ret2
  exact TreePost.none hB
set_option maxHeartbeats 16000000 in
set_option maxRecDepth 100000 in
theorem mvW_12 (p : Option Addr) (n cap : Nat) (frm to : ByteArray) (w : World) (hwr : PutWr w p n cap 0 0) (zp zt : ByteArray) (zk : Int) (zo : Bool) (hgf : RefGe w frm p n cap zp zk zt zo true) (hf0 : ¬ frm.data.toList = []) (hcl : RefCl to true) (hft : ¬ frm.data.toList = to.data.toList) (hun : RefUn to frm false) (hcu : RefCu to) (xp xt : ByteArray) (xk : Int) (xo : Bool) (hgd : RefGd w to p n cap xp 2 xt xo true) (yp yt : ByteArray) (yk : Int) (yo : Bool) (hgt : RefGe w to p n cap yp yk yt yo true) (hka : ¬ zk = 2) (hkb : ¬ yk = 2) (nk : Nat) (hnk : 0 < nk) (hna : RefNa w to p n cap nk) :
    Calls Tryd.prog 41 #[.slice p n cap, .string frm, .string to] w (TreePost 11 [] w) := by
  have hB : Below w.heap.size w w := Below.refl _ _
  have hf1 := empty_not hf0
  obtain ⟨q1, q2⟩ := ne_parts hft
  have hnz : (0 : Int) < (nk : Int) := by omega
  have hka1 : (zk == 2) = false := by simpa using hka
  have hka2 : decide (zk = 2) = false := by simpa using hka
  have hkb1 : (yk == 2) = false := by simpa using hkb
  have hkb2 : decide (yk = 2) = false := by simpa using hkb
  go_enter Tryd.func41, Tryd.ntmps41
  go_wp2_with (first
    | (go_at_call 30; refine (hwr _ hB).mono ?_; clear hwr; rintro rr w1 ⟨rfl, hN⟩; replace hB := (Below.onto hB hN).alloc (Below.onto hB hN).size (.cells #[.int .i64 0, .int .i64 0] 40); clear hN)
    | (go_at_call 32; refine (hgf _ hB).mono ?_; clear hgf; rintro rr w2 ⟨rfl, hN⟩; have HV : Aside (Below w.heap.size w w2) := Below.onto hB hN; clear hN hB; have hT : Below (w2.heap.size + 1) (w2.alloc (.cells #[.string zp, .int .i64 zk, .string zt, .bool zo] 38)) (w2.alloc (.cells #[.string zp, .int .i64 zk, .string zt, .bool zo] 38)) := Below.refl _ _)
    | (go_at_call 17; refine (hcl _).mono ?_; clear hcl; rintro rr w3 ⟨rfl, hN⟩; obtain ⟨hT3, hne, hlt, a1⟩ := boxK hT hN; clear hN hT)
    | (go_at_call 19; refine (hun _).mono ?_; clear hun; rintro rr wx ⟨rfl, hwx⟩; subst wx)
    | (go_at_call 21; refine (hcu _).mono ?_; clear hcu; rintro rr w4 ⟨⟨d, nm, rfl, hd, hnm⟩, hG⟩; clear hnm hne hlt a1; obtain ⟨hT4, hne, hlt, a1⟩ := boxK hT3 hG.below; clear hG hT3)
    | (go_at_call 32; refine (hgd _ d hd (baseK HV.out hT4)).mono ?_; clear hgd; rintro rr w5 ⟨rfl, hN⟩; clear hne hlt a1; obtain ⟨hT5, hne, hlt, a1⟩ := boxK hT4 hN; clear hN hT4; replace hT5 := hT5.alloc (Nat.succ_le_of_lt hlt) (.cells #[.string xp, .int .i64 2, .string xt, .bool xo] 38))
    | (go_at_call 32; refine (hgt _ (baseK HV.out hT5)).mono ?_; clear hgt; rintro rr w6 ⟨rfl, hN⟩; clear hne hlt a1; obtain ⟨hT6, hne, hlt, a1⟩ := boxK hT5 hN; clear hN hT5; replace hT6 := hT6.alloc (Nat.succ_le_of_lt hlt) (.cells #[.string yp, .int .i64 yk, .string yt, .bool yo] 38))
    | (go_at_call 60; refine (hna _ (baseK HV.out hT6)).mono ?_; clear hna; rintro rr w7 ⟨⟨a7, c7, rfl⟩, hN⟩; have hB := Below.onto (baseK HV.out hT6) hN; clear hN hT6 hne hlt a1))
  go_ret2
  exact TreePost.none hB
end Go.Proofs.YtampldoimpfjgaaDoor
namespace Go.Proofs.YtampldoimpfjgaaDoor
open Go.RowKit PM Go.Sort
set_option linter.unusedVariables false

abbrev RefW2 (t : List Ent) (frm to : ByteArray) : Prop := ∀ W p c, Lies W p (remUnder t frm.data.toList) → Calls Tryd.prog 70 #[.slice p (remUnder t frm.data.toList).length c, .string to] W (RowsPost (baseL t frm.data.toList to.data.toList) W)
/-- Some entry that goes along has no clean path there. -/
def badMove' (t : List Ent) (frm to : ByteArray) : Bool := t.any fun e => inM frm.data.toList e && !clean (mvE frm to e).p
set_option maxHeartbeats 16000000 in
set_option maxRecDepth 100000 in
theorem mvW_13 (p : Option Addr) (n cap : Nat) (frm to : ByteArray) (w : World) (hwr : PutWr w p n cap 0 0) (zp zt : ByteArray) (zk : Int) (zo : Bool) (hgf : RefGe w frm p n cap zp zk zt zo true) (hf0 : ¬ frm.data.toList = []) (hcl : RefCl to true) (hft : ¬ frm.data.toList = to.data.toList) (hun : RefUn to frm false) (hcu : RefCu to) (xp xt : ByteArray) (xk : Int) (xo : Bool) (hgd : RefGd w to p n cap xp 2 xt xo true) (yp yt : ByteArray) (yk : Int) (yo : Bool) (hgt : RefGe w to p n cap yp yk yt yo false) (t : List Ent) (hL : Lies w p t) (HN : Aside (n = t.length)) (hR : Right false t) (hf80 : frm.size ≤ 80) (ht80 : to.size ≤ 80) (hw1 : RefWo w frm p n cap (remUnder t frm.data.toList)) (hw2 : RefW2 t frm to) :
    Calls Tryd.prog 41 #[.slice p n cap, .string frm, .string to] w (fun r w' => (badMove' t frm to = true ∧ TreePost 4 [] w r w') ∨ (badMove' t frm to = false ∧ TreePost 0 (rmK t frm to t.length) w r w')) := by
  have hB : Below w.heap.size w w := Below.refl _ _
  have hf1 := empty_not hf0
  obtain ⟨q1, q2⟩ := ne_parts hft
  have HL : Aside (Lies w p t) := hL
  have HR : Aside (Right false t) := hR
  have hn80 : n ≤ 80 := by have := hR.len; have := HN.out; omega
  have HP80 : Aside (∀ y ∈ t, y.path.size ≤ 80) := fun y hy => clean_size (hR.clean hy)
  clear hL hR
  go_enter Tryd.func41, Tryd.ntmps41
  go_wp2_with (first
    | (go_at_call 30; refine (hwr _ hB).mono ?_; clear hwr; rintro rr w1 ⟨rfl, hN⟩; replace hB := (Below.onto hB hN).alloc (Below.onto hB hN).size (.cells #[.int .i64 0, .int .i64 0] 40); clear hN)
    | (go_at_call 32; refine (hgf _ hB).mono ?_; clear hgf; rintro rr w2 ⟨rfl, hN⟩; have HV : Aside (Below w.heap.size w w2) := Below.onto hB hN; clear hN hB; have hT : Below (w2.heap.size + 1) (w2.alloc (.cells #[.string zp, .int .i64 zk, .string zt, .bool zo] 38)) (w2.alloc (.cells #[.string zp, .int .i64 zk, .string zt, .bool zo] 38)) := Below.refl _ _)
    | (go_at_call 17; refine (hcl _).mono ?_; clear hcl; rintro rr w3 ⟨rfl, hN⟩; obtain ⟨hT3, hne, hlt, a1⟩ := boxK hT hN; clear hN hT)
    | (go_at_call 19; refine (hun _).mono ?_; clear hun; rintro rr wx ⟨rfl, hwx⟩; subst wx)
    | (go_at_call 21; refine (hcu _).mono ?_; clear hcu; rintro rr w4 ⟨⟨d, nm, rfl, hd, hnm⟩, hG⟩; clear hnm hne hlt a1; obtain ⟨hT4, hne, hlt, a1⟩ := boxK hT3 hG.below; clear hG hT3)
    | (go_at_call 32; refine (hgd _ d hd (baseK HV.out hT4)).mono ?_; clear hgd; rintro rr w5 ⟨rfl, hN⟩; clear hne hlt a1; obtain ⟨hT5, hne, hlt, a1⟩ := boxK hT4 hN; clear hN hT4; replace hT5 := hT5.alloc (Nat.succ_le_of_lt hlt) (.cells #[.string xp, .int .i64 2, .string xt, .bool xo] 38))
    | (go_at_call 32; refine (hgt _ (baseK HV.out hT5)).mono ?_; clear hgt; rintro rr w6 ⟨rfl, hN⟩; clear hne hlt a1; obtain ⟨hT6, hne, hlt, a1⟩ := boxK hT5 hN; clear hN hT5; replace hT6 := hT6.alloc (Nat.succ_le_of_lt hlt) (.cells #[.string yp, .int .i64 yk, .string yt, .bool yo] 38); have hB := baseK HV.out hT6; clear hT6)
    | (go_at_call 70; refine (hw1 _ hB).mono ?_; clear hw1; rintro rr w8 ⟨⟨v8, rfl, hR8⟩, hN⟩; replace hB := Below.onto hB hN; clear hN; obtain ⟨p8, c8, rfl, hL8, hc8, hn8⟩ := hR8.form; clear hR8)
    | (go_at_call 70; refine (hw2 _ p8 c8 hL8).mono ?_; clear hw2; rintro rr w9 ⟨⟨v9, rfl, hR9⟩, hN⟩; have HR9 : Aside (Rows w9 w.heap.size v9 (baseL t frm.data.toList to.data.toList)) := hR9.mono hB.size; have HB9 : Aside (Below w.heap.size w w9) := Below.onto hB hN; clear hN hR9 hB hL8))
  go_loopg [16, 99] n (fun gg v i wr => ∃ k : Nat, k ≤ n ∧ n - k ≤ gg ∧ i = .int .i64 k ∧ Aside (Rows wr w.heap.size v (rmK t frm to k)) ∧ Aside (Below w.heap.size w wr) ∧ Aside (((t.take k).any fun e => inM frm.data.toList e && !clean (mvE frm to e).p) = false))
  case atStart => exact ⟨0, Nat.zero_le _, by omega, rfl, HR9.out, HB9.out, by simp [Aside]⟩
  case round =>
    obtain ⟨k, hk, hgg, rfl, ST, BW, NB⟩ := hrel
    by_cases hlt : k < n
    · have hltz : (k : Int) < (n : Int) := by omega
      obtain ⟨y, hy⟩ : ∃ y, t[k]? = some y := ⟨_, List.getElem?_eq_getElem (by have := HN.out; omega)⟩
      have HY : Aside (t[k]? = some y) := hy
      have hy80 := HP80.out y (List.mem_of_getElem? hy)
      rcases HL.out with h0 | ⟨b, off, rfl, hb, hc⟩
      · rw [h0] at hy; simp at hy
      obtain ⟨c0, c1, c2, c3⟩ := Lies.cells hc hb BW.out hy
      clear hc hy
      have hws : w.heap.size ≤ wr.heap.size := BW.out.size
      have hun := fun W => refUnder_any y.path frm W (by unfold maxLen; omega) (by unfold maxLen; omega)
      cases hin : inM frm.data.toList y with
      | false =>
        have hp1 : ¬ y.path.data.toList = frm.data.toList := fun e => by
          unfold inM at hin; rw [show y.p = y.path.data.toList from rfl, e] at hin; simp at hin
        have hp2 : under y.path.data.toList frm.data.toList = false := by
          unfold inM at hin; exact (Bool.or_eq_false_iff.1 hin).2
        obtain ⟨e1, e2⟩ := ne_parts hp1
        rw [hp2] at hun
        clear hp1 hp2
        have HS : Aside (rmK t frm to (k + 1) = rmK t frm to k) := rmK_skip HY.out hin
        have HNB : Aside (((t.take (k + 1)).any fun e => inM frm.data.toList e && !clean (mvE frm to e).p) = false) := bad_step HY.out NB.out (by rw [hin]; rfl)
        go_wp2_with (go_at_call 19; refine (hun _).mono ?_; rintro rr wx ⟨rfl, hwx⟩; subst wx)
        go_roundg (n - (k + 1))
        case measure => omega
        case rel => exact ⟨k + 1, by omega, by omega, by go_num, by rw [HS.out]; exact ST.out.below ((Grown.refl wr).alloc _).below, (BW.out.alloc BW.out.size _ : Below _ _ _), HNB.out⟩
      | true =>
        have hsz := inM_size hin
        have hszz : (frm.size : Int) ≤ (y.path.size : Int) := by omega
        have hways : (y.path.data.toList = frm.data.toList) ∨ (¬ y.path.data.toList = frm.data.toList ∧ under y.path.data.toList frm.data.toList = true) := by
          unfold inM at hin
          by_cases h : y.path.data.toList = frm.data.toList
          · exact .inl h
          · refine .inr ⟨h, ?_⟩
            rcases Bool.or_eq_true_iff.1 hin with g | g
            · exact absurd (of_decide_eq_true g) h
            · exact g
        have HSX : Aside (rmK t frm to (k + 1) = withL (rmK t frm to k) (mvE frm to y)) := rmK_step HR.out.sorted HY.out hin
        obtain ⟨new, hnew⟩ : ∃ new, to ++ y.path.extract frm.size y.path.size = new := ⟨_, rfl⟩
        have HMV : Aside (mvE frm to y = ⟨new, y.kind, y.text, y.opq⟩) := by show _ = _; rw [← hnew]; rfl
        have hcc : new.size ≤ 160 := by rw [← hnew]; simp; omega
        have hcl := fun W => refClean_any new W (by omega)
        have HX : Aside (Below wr.heap.size wr (wr.alloc (.cells #[.string new, .int .i64 y.kind, .string y.text, .bool y.opq] 38))) := ((Grown.refl wr).alloc _).below
        cases hcn : clean new.data.toList with
        | false =>
          rw [hcn] at hcl
          have HBAD : Aside (badMove' t frm to = true) := List.any_eq_true.2 ⟨y, List.mem_of_getElem? HY.out, by rw [hin, HMV.out]; show (true && !clean new.data.toList) = true; rw [hcn]; rfl⟩
          rcases hways with h1 | ⟨h1, h2⟩
          · obtain ⟨e1, e2⟩ := eq_parts h1
            clear h1 hun
            go_wp2_with (go_at_call 17; refine (hcl _).mono ?_; clear hcl; rintro rr w3 ⟨rfl, hN⟩; have HB3 : Aside (Below w.heap.size w w3) := Below.onto BW.out (Below.onto HX.out hN); clear hN)
            go_ret2
            exact .inl ⟨HBAD.out, TreePost.none HB3.out⟩
          · obtain ⟨e1, e2⟩ := ne_parts h1
            rw [h2] at hun
            clear h1 h2
            go_wp2_with (first | (go_at_call 19; refine (hun _).mono ?_; clear hun; rintro rr wx ⟨rfl, hwx⟩; subst wx) | (go_at_call 17; refine (hcl _).mono ?_; clear hcl; rintro rr w3 ⟨rfl, hN⟩; have HB3 : Aside (Below w.heap.size w w3) := Below.onto BW.out (Below.onto HX.out hN); clear hN))
            go_ret2
            exact .inl ⟨HBAD.out, TreePost.none HB3.out⟩
        | true =>
          rw [hcn] at hcl
          have HNB : Aside (((t.take (k + 1)).any fun e => inM frm.data.toList e && !clean (mvE frm to e).p) = false) := bad_step HY.out NB.out (by rw [HMV.out]; show (_ && !clean new.data.toList) = false; rw [hcn]; simp)
          have hwi : ∀ W v, Rows W w.heap.size v (rmK t frm to k) → Calls Tryd.prog 66 #[v, .agg #[.string new, .int .i64 y.kind, .string y.text, .bool y.opq]] W (RowsPost (rmK t frm to (k + 1)) W) := fun W v hv => by
            obtain ⟨p', c', rfl, hL', _, _⟩ := hv.form
            rw [HSX.out, HMV.out]
            refine refWith_any (rmK t frm to k) ⟨new, y.kind, y.text, y.opq⟩ p' c' W hL' (rmK_all (fun x hx => by have := HP80.out x hx; omega) (fun x hx hi => ?_)) (by show new.size ≤ _; omega) (Nat.le_trans (rmK_len HR.out.sorted) HR.out.len)
            have hxc : clean (mvE frm to x).p = true := by
              cases hh : clean (mvE frm to x).p with
              | true => rfl
              | false =>
                have := NB.out
                rw [List.any_eq_false] at this
                exact absurd (by rw [hi, hh]; rfl) (this x hx)
            have : (mvE frm to x).path.size ≤ 80 := clean_size hxc
            omega
          rcases hways with h1 | ⟨h1, h2⟩
          · obtain ⟨e1, e2⟩ := eq_parts h1
            clear h1 hun
            go_wp2_with (first
              | (go_at_call 17; refine (hcl _).mono ?_; clear hcl; rintro rr w3 ⟨rfl, hN⟩; obtain ⟨⟨d0, d1, d2, d3⟩, _⟩ := new4 (by simp) hN; have hX3 := Below.onto HX.out hN; have hR3 := ST.out.below hX3; clear hN)
              | (go_at_call 66; refine (hwi _ _ hR3).mono ?_; clear hwi hR3; rintro rr w4 ⟨⟨v4, rfl, hR4⟩, hN4⟩; have HR4 : Aside (Rows w4 w.heap.size v4 (rmK t frm to (k + 1))) := hR4.mono (Below.onto BW.out hX3).size; have HB4 : Aside (Below w.heap.size w w4) := Below.onto (Below.onto BW.out hX3) hN4; clear hR4 hN4))
            go_roundg (n - (k + 1))
            case measure => omega
            case rel => exact ⟨k + 1, by omega, by omega, by go_num, HR4.out, HB4.out, HNB.out⟩
          · obtain ⟨e1, e2⟩ := ne_parts h1
            rw [h2] at hun
            clear h1 h2
            go_wp2_with (first
              | (go_at_call 19; refine (hun _).mono ?_; clear hun; rintro rr wx ⟨rfl, hwx⟩; subst wx)
              | (go_at_call 17; refine (hcl _).mono ?_; clear hcl; rintro rr w3 ⟨rfl, hN⟩; obtain ⟨⟨d0, d1, d2, d3⟩, _⟩ := new4 (by simp) hN; have hX3 := Below.onto HX.out hN; have hR3 := ST.out.below hX3; clear hN)
              | (go_at_call 66; refine (hwi _ _ hR3).mono ?_; clear hwi hR3; rintro rr w4 ⟨⟨v4, rfl, hR4⟩, hN4⟩; have HR4 : Aside (Rows w4 w.heap.size v4 (rmK t frm to (k + 1))) := hR4.mono (Below.onto BW.out hX3).size; have HB4 : Aside (Below w.heap.size w w4) := Below.onto (Below.onto BW.out hX3) hN4; clear hR4 hN4))
            go_roundg (n - (k + 1))
            case measure => omega
            case rel => exact ⟨k + 1, by omega, by omega, by go_num, HR4.out, HB4.out, HNB.out⟩
    · obtain rfl : k = n := by omega
      have hltz : ¬ (k : Int) < (k : Int) := by omega
      have HGOOD : Aside (badMove' t frm to = false) := by
        show _ = _
        have := NB.out
        rw [HN.out, List.take_length] at this
        exact this
      go_wp2
      go_ret2
      exact .inr ⟨HGOOD.out, rows_end ST.out (by rw [HN.out]) BW.out⟩
end Go.Proofs.YtampldoimpfjgaaDoor
namespace Go.Proofs.YtampldoimpfjgaaDoor
open Go.RowKit PM Go.Sort
set_option linter.unusedVariables false

set_option maxHeartbeats 16000000 in
set_option maxRecDepth 100000 in
theorem mvW_14 (p : Option Addr) (n cap : Nat) (frm to : ByteArray) (w : World) (hwr : PutWr w p n cap 0 0) (zp zt : ByteArray) (zk : Int) (zo : Bool) (hgf : RefGe w frm p n cap zp zk zt zo true) (hf0 : ¬ frm.data.toList = []) (hcl : RefCl to true) (hft : ¬ frm.data.toList = to.data.toList) (hun : RefUn to frm false) (hcu : RefCu to) (xp xt : ByteArray) (xk : Int) (xo : Bool) (hgd : RefGd w to p n cap xp 2 xt xo true) (yp yt : ByteArray) (yk : Int) (yo : Bool) (hgt : RefGe w to p n cap yp yk yt yo true) (hka : zk = 2) (hkb : yk = 2) (hna : RefNa w to p n cap 0) (t : List Ent) (hL : Lies w p t) (HN : Aside (n = t.length)) (hR : Right false t) (hf80 : frm.size ≤ 80) (ht80 : to.size ≤ 80) (hw1 : RefWo w frm p n cap (remUnder t frm.data.toList)) (hw2 : RefW2 t frm to) :
    Calls Tryd.prog 41 #[.slice p n cap, .string frm, .string to] w (fun r w' => (badMove' t frm to = true ∧ TreePost 4 [] w r w') ∨ (badMove' t frm to = false ∧ TreePost 0 (rmK t frm to t.length) w r w')) := by
  have hB : Below w.heap.size w w := Below.refl _ _
  have hf1 := empty_not hf0
  obtain ⟨q1, q2⟩ := ne_parts hft
  subst hka hkb
  have HL : Aside (Lies w p t) := hL
  have HR : Aside (Right false t) := hR
  have hn80 : n ≤ 80 := by have := hR.len; have := HN.out; omega
  have HP80 : Aside (∀ y ∈ t, y.path.size ≤ 80) := fun y hy => clean_size (hR.clean hy)
  clear hL hR
  go_enter Tryd.func41, Tryd.ntmps41
  go_wp2_with (first
    | (go_at_call 30; refine (hwr _ hB).mono ?_; clear hwr; rintro rr w1 ⟨rfl, hN⟩; replace hB := (Below.onto hB hN).alloc (Below.onto hB hN).size (.cells #[.int .i64 0, .int .i64 0] 40); clear hN)
    | (go_at_call 32; refine (hgf _ hB).mono ?_; clear hgf; rintro rr w2 ⟨rfl, hN⟩; have HV : Aside (Below w.heap.size w w2) := Below.onto hB hN; clear hN hB; have hT : Below (w2.heap.size + 1) (w2.alloc (.cells #[.string zp, .int .i64 2, .string zt, .bool zo] 38)) (w2.alloc (.cells #[.string zp, .int .i64 2, .string zt, .bool zo] 38)) := Below.refl _ _)
    | (go_at_call 17; refine (hcl _).mono ?_; clear hcl; rintro rr w3 ⟨rfl, hN⟩; obtain ⟨hT3, hne, hlt, a1⟩ := boxK hT hN; clear hN hT)
    | (go_at_call 19; refine (hun _).mono ?_; clear hun; rintro rr wx ⟨rfl, hwx⟩; subst wx)
    | (go_at_call 21; refine (hcu _).mono ?_; clear hcu; rintro rr w4 ⟨⟨d, nm, rfl, hd, hnm⟩, hG⟩; clear hnm hne hlt a1; obtain ⟨hT4, hne, hlt, a1⟩ := boxK hT3 hG.below; clear hG hT3)
    | (go_at_call 32; refine (hgd _ d hd (baseK HV.out hT4)).mono ?_; clear hgd; rintro rr w5 ⟨rfl, hN⟩; clear hne hlt a1; obtain ⟨hT5, hne, hlt, a1⟩ := boxK hT4 hN; clear hN hT4; replace hT5 := hT5.alloc (Nat.succ_le_of_lt hlt) (.cells #[.string xp, .int .i64 2, .string xt, .bool xo] 38))
    | (go_at_call 32; refine (hgt _ (baseK HV.out hT5)).mono ?_; clear hgt; rintro rr w6 ⟨rfl, hN⟩; clear hne hlt a1; obtain ⟨hT6, hne, hlt, a1⟩ := boxK hT5 hN; clear hN hT5; replace hT6 := hT6.alloc (Nat.succ_le_of_lt hlt) (.cells #[.string yp, .int .i64 2, .string yt, .bool yo] 38))
    | (go_at_call 60; refine (hna _ (baseK HV.out hT6)).mono ?_; clear hna; rintro rr w7 ⟨⟨a7, c7, rfl⟩, hN⟩; have hB := Below.onto (baseK HV.out hT6) hN; clear hN hT6 hne hlt a1)
    | (go_at_call 70; refine (hw1 _ hB).mono ?_; clear hw1; rintro rr w8 ⟨⟨v8, rfl, hR8⟩, hN⟩; replace hB := Below.onto hB hN; clear hN; obtain ⟨p8, c8, rfl, hL8, hc8, hn8⟩ := hR8.form; clear hR8)
    | (go_at_call 70; refine (hw2 _ p8 c8 hL8).mono ?_; clear hw2; rintro rr w9 ⟨⟨v9, rfl, hR9⟩, hN⟩; have HR9 : Aside (Rows w9 w.heap.size v9 (baseL t frm.data.toList to.data.toList)) := hR9.mono hB.size; have HB9 : Aside (Below w.heap.size w w9) := Below.onto hB hN; clear hN hR9 hB hL8))
  go_loopg [16, 99] n (fun gg v i wr => ∃ k : Nat, k ≤ n ∧ n - k ≤ gg ∧ i = .int .i64 k ∧ Aside (Rows wr w.heap.size v (rmK t frm to k)) ∧ Aside (Below w.heap.size w wr) ∧ Aside (((t.take k).any fun e => inM frm.data.toList e && !clean (mvE frm to e).p) = false))
  case atStart => exact ⟨0, Nat.zero_le _, by omega, rfl, HR9.out, HB9.out, by simp [Aside]⟩
  case round =>
    obtain ⟨k, hk, hgg, rfl, ST, BW, NB⟩ := hrel
    by_cases hlt : k < n
    · have hltz : (k : Int) < (n : Int) := by omega
      obtain ⟨y, hy⟩ : ∃ y, t[k]? = some y := ⟨_, List.getElem?_eq_getElem (by have := HN.out; omega)⟩
      have HY : Aside (t[k]? = some y) := hy
      have hy80 := HP80.out y (List.mem_of_getElem? hy)
      rcases HL.out with h0 | ⟨b, off, rfl, hb, hc⟩
      · rw [h0] at hy; simp at hy
      obtain ⟨c0, c1, c2, c3⟩ := Lies.cells hc hb BW.out hy
      clear hc hy
      have hws : w.heap.size ≤ wr.heap.size := BW.out.size
      have hun := fun W => refUnder_any y.path frm W (by unfold maxLen; omega) (by unfold maxLen; omega)
      cases hin : inM frm.data.toList y with
      | false =>
        have hp1 : ¬ y.path.data.toList = frm.data.toList := fun e => by
          unfold inM at hin; rw [show y.p = y.path.data.toList from rfl, e] at hin; simp at hin
        have hp2 : under y.path.data.toList frm.data.toList = false := by
          unfold inM at hin; exact (Bool.or_eq_false_iff.1 hin).2
        obtain ⟨e1, e2⟩ := ne_parts hp1
        rw [hp2] at hun
        clear hp1 hp2
        have HS : Aside (rmK t frm to (k + 1) = rmK t frm to k) := rmK_skip HY.out hin
        have HNB : Aside (((t.take (k + 1)).any fun e => inM frm.data.toList e && !clean (mvE frm to e).p) = false) := bad_step HY.out NB.out (by rw [hin]; rfl)
        go_wp2_with (go_at_call 19; refine (hun _).mono ?_; rintro rr wx ⟨rfl, hwx⟩; subst wx)
        go_roundg (n - (k + 1))
        case measure => omega
        case rel => exact ⟨k + 1, by omega, by omega, by go_num, by rw [HS.out]; exact ST.out.below ((Grown.refl wr).alloc _).below, (BW.out.alloc BW.out.size _ : Below _ _ _), HNB.out⟩
      | true =>
        have hsz := inM_size hin
        have hszz : (frm.size : Int) ≤ (y.path.size : Int) := by omega
        have hways : (y.path.data.toList = frm.data.toList) ∨ (¬ y.path.data.toList = frm.data.toList ∧ under y.path.data.toList frm.data.toList = true) := by
          unfold inM at hin
          by_cases h : y.path.data.toList = frm.data.toList
          · exact .inl h
          · refine .inr ⟨h, ?_⟩
            rcases Bool.or_eq_true_iff.1 hin with g | g
            · exact absurd (of_decide_eq_true g) h
            · exact g
        have HSX : Aside (rmK t frm to (k + 1) = withL (rmK t frm to k) (mvE frm to y)) := rmK_step HR.out.sorted HY.out hin
        obtain ⟨new, hnew⟩ : ∃ new, to ++ y.path.extract frm.size y.path.size = new := ⟨_, rfl⟩
        have HMV : Aside (mvE frm to y = ⟨new, y.kind, y.text, y.opq⟩) := by show _ = _; rw [← hnew]; rfl
        have hcc : new.size ≤ 160 := by rw [← hnew]; simp; omega
        have hcl := fun W => refClean_any new W (by omega)
        have HX : Aside (Below wr.heap.size wr (wr.alloc (.cells #[.string new, .int .i64 y.kind, .string y.text, .bool y.opq] 38))) := ((Grown.refl wr).alloc _).below
        cases hcn : clean new.data.toList with
        | false =>
          rw [hcn] at hcl
          have HBAD : Aside (badMove' t frm to = true) := List.any_eq_true.2 ⟨y, List.mem_of_getElem? HY.out, by rw [hin, HMV.out]; show (true && !clean new.data.toList) = true; rw [hcn]; rfl⟩
          rcases hways with h1 | ⟨h1, h2⟩
          · obtain ⟨e1, e2⟩ := eq_parts h1
            clear h1 hun
            go_wp2_with (go_at_call 17; refine (hcl _).mono ?_; clear hcl; rintro rr w3 ⟨rfl, hN⟩; have HB3 : Aside (Below w.heap.size w w3) := Below.onto BW.out (Below.onto HX.out hN); clear hN)
            go_ret2
            exact .inl ⟨HBAD.out, TreePost.none HB3.out⟩
          · obtain ⟨e1, e2⟩ := ne_parts h1
            rw [h2] at hun
            clear h1 h2
            go_wp2_with (first | (go_at_call 19; refine (hun _).mono ?_; clear hun; rintro rr wx ⟨rfl, hwx⟩; subst wx) | (go_at_call 17; refine (hcl _).mono ?_; clear hcl; rintro rr w3 ⟨rfl, hN⟩; have HB3 : Aside (Below w.heap.size w w3) := Below.onto BW.out (Below.onto HX.out hN); clear hN))
            go_ret2
            exact .inl ⟨HBAD.out, TreePost.none HB3.out⟩
        | true =>
          rw [hcn] at hcl
          have HNB : Aside (((t.take (k + 1)).any fun e => inM frm.data.toList e && !clean (mvE frm to e).p) = false) := bad_step HY.out NB.out (by rw [HMV.out]; show (_ && !clean new.data.toList) = false; rw [hcn]; simp)
          have hwi : ∀ W v, Rows W w.heap.size v (rmK t frm to k) → Calls Tryd.prog 66 #[v, .agg #[.string new, .int .i64 y.kind, .string y.text, .bool y.opq]] W (RowsPost (rmK t frm to (k + 1)) W) := fun W v hv => by
            obtain ⟨p', c', rfl, hL', _, _⟩ := hv.form
            rw [HSX.out, HMV.out]
            refine refWith_any (rmK t frm to k) ⟨new, y.kind, y.text, y.opq⟩ p' c' W hL' (rmK_all (fun x hx => by have := HP80.out x hx; omega) (fun x hx hi => ?_)) (by show new.size ≤ _; omega) (Nat.le_trans (rmK_len HR.out.sorted) HR.out.len)
            have hxc : clean (mvE frm to x).p = true := by
              cases hh : clean (mvE frm to x).p with
              | true => rfl
              | false =>
                have := NB.out
                rw [List.any_eq_false] at this
                exact absurd (by rw [hi, hh]; rfl) (this x hx)
            have : (mvE frm to x).path.size ≤ 80 := clean_size hxc
            omega
          rcases hways with h1 | ⟨h1, h2⟩
          · obtain ⟨e1, e2⟩ := eq_parts h1
            clear h1 hun
            go_wp2_with (first
              | (go_at_call 17; refine (hcl _).mono ?_; clear hcl; rintro rr w3 ⟨rfl, hN⟩; obtain ⟨⟨d0, d1, d2, d3⟩, _⟩ := new4 (by simp) hN; have hX3 := Below.onto HX.out hN; have hR3 := ST.out.below hX3; clear hN)
              | (go_at_call 66; refine (hwi _ _ hR3).mono ?_; clear hwi hR3; rintro rr w4 ⟨⟨v4, rfl, hR4⟩, hN4⟩; have HR4 : Aside (Rows w4 w.heap.size v4 (rmK t frm to (k + 1))) := hR4.mono (Below.onto BW.out hX3).size; have HB4 : Aside (Below w.heap.size w w4) := Below.onto (Below.onto BW.out hX3) hN4; clear hR4 hN4))
            go_roundg (n - (k + 1))
            case measure => omega
            case rel => exact ⟨k + 1, by omega, by omega, by go_num, HR4.out, HB4.out, HNB.out⟩
          · obtain ⟨e1, e2⟩ := ne_parts h1
            rw [h2] at hun
            clear h1 h2
            go_wp2_with (first
              | (go_at_call 19; refine (hun _).mono ?_; clear hun; rintro rr wx ⟨rfl, hwx⟩; subst wx)
              | (go_at_call 17; refine (hcl _).mono ?_; clear hcl; rintro rr w3 ⟨rfl, hN⟩; obtain ⟨⟨d0, d1, d2, d3⟩, _⟩ := new4 (by simp) hN; have hX3 := Below.onto HX.out hN; have hR3 := ST.out.below hX3; clear hN)
              | (go_at_call 66; refine (hwi _ _ hR3).mono ?_; clear hwi hR3; rintro rr w4 ⟨⟨v4, rfl, hR4⟩, hN4⟩; have HR4 : Aside (Rows w4 w.heap.size v4 (rmK t frm to (k + 1))) := hR4.mono (Below.onto BW.out hX3).size; have HB4 : Aside (Below w.heap.size w w4) := Below.onto (Below.onto BW.out hX3) hN4; clear hR4 hN4))
            go_roundg (n - (k + 1))
            case measure => omega
            case rel => exact ⟨k + 1, by omega, by omega, by go_num, HR4.out, HB4.out, HNB.out⟩
    · obtain rfl : k = n := by omega
      have hltz : ¬ (k : Int) < (k : Int) := by omega
      have HGOOD : Aside (badMove' t frm to = false) := by
        show _ = _
        have := NB.out
        rw [HN.out, List.take_length] at this
        exact this
      go_wp2
      go_ret2
      exact .inr ⟨HGOOD.out, rows_end ST.out (by rw [HN.out]) BW.out⟩
end Go.Proofs.YtampldoimpfjgaaDoor
namespace Go.Proofs.YtampldoimpfjgaaDoor
open Go.RowKit PM Go.Sort
set_option linter.unusedVariables false

set_option maxHeartbeats 16000000 in
set_option maxRecDepth 100000 in
theorem mvW_15 (p : Option Addr) (n cap : Nat) (frm to : ByteArray) (w : World) (hwr : PutWr w p n cap 0 0) (zp zt : ByteArray) (zk : Int) (zo : Bool) (hgf : RefGe w frm p n cap zp zk zt zo true) (hf0 : ¬ frm.data.toList = []) (hcl : RefCl to true) (hft : ¬ frm.data.toList = to.data.toList) (hun : RefUn to frm false) (hcu : RefCu to) (xp xt : ByteArray) (xk : Int) (xo : Bool) (hgd : RefGd w to p n cap xp 2 xt xo true) (yp yt : ByteArray) (yk : Int) (yo : Bool) (hgt : RefGe w to p n cap yp yk yt yo true) (hka : ¬ zk = 2) (hkb : ¬ yk = 2) (hna : RefNa w to p n cap 0) (t : List Ent) (hL : Lies w p t) (HN : Aside (n = t.length)) (hR : Right false t) (hf80 : frm.size ≤ 80) (ht80 : to.size ≤ 80) (hw1 : RefWo w frm p n cap (remUnder t frm.data.toList)) (hw2 : RefW2 t frm to) :
    Calls Tryd.prog 41 #[.slice p n cap, .string frm, .string to] w (fun r w' => (badMove' t frm to = true ∧ TreePost 4 [] w r w') ∨ (badMove' t frm to = false ∧ TreePost 0 (rmK t frm to t.length) w r w')) := by
  have hB : Below w.heap.size w w := Below.refl _ _
  have hf1 := empty_not hf0
  obtain ⟨q1, q2⟩ := ne_parts hft
  have hka1 : (zk == 2) = false := by simpa using hka
  have hka2 : decide (zk = 2) = false := by simpa using hka
  have hkb1 : (yk == 2) = false := by simpa using hkb
  have hkb2 : decide (yk = 2) = false := by simpa using hkb
  have HL : Aside (Lies w p t) := hL
  have HR : Aside (Right false t) := hR
  have hn80 : n ≤ 80 := by have := hR.len; have := HN.out; omega
  have HP80 : Aside (∀ y ∈ t, y.path.size ≤ 80) := fun y hy => clean_size (hR.clean hy)
  clear hL hR
  go_enter Tryd.func41, Tryd.ntmps41
  go_wp2_with (first
    | (go_at_call 30; refine (hwr _ hB).mono ?_; clear hwr; rintro rr w1 ⟨rfl, hN⟩; replace hB := (Below.onto hB hN).alloc (Below.onto hB hN).size (.cells #[.int .i64 0, .int .i64 0] 40); clear hN)
    | (go_at_call 32; refine (hgf _ hB).mono ?_; clear hgf; rintro rr w2 ⟨rfl, hN⟩; have HV : Aside (Below w.heap.size w w2) := Below.onto hB hN; clear hN hB; have hT : Below (w2.heap.size + 1) (w2.alloc (.cells #[.string zp, .int .i64 zk, .string zt, .bool zo] 38)) (w2.alloc (.cells #[.string zp, .int .i64 zk, .string zt, .bool zo] 38)) := Below.refl _ _)
    | (go_at_call 17; refine (hcl _).mono ?_; clear hcl; rintro rr w3 ⟨rfl, hN⟩; obtain ⟨hT3, hne, hlt, a1⟩ := boxK hT hN; clear hN hT)
    | (go_at_call 19; refine (hun _).mono ?_; clear hun; rintro rr wx ⟨rfl, hwx⟩; subst wx)
    | (go_at_call 21; refine (hcu _).mono ?_; clear hcu; rintro rr w4 ⟨⟨d, nm, rfl, hd, hnm⟩, hG⟩; clear hnm hne hlt a1; obtain ⟨hT4, hne, hlt, a1⟩ := boxK hT3 hG.below; clear hG hT3)
    | (go_at_call 32; refine (hgd _ d hd (baseK HV.out hT4)).mono ?_; clear hgd; rintro rr w5 ⟨rfl, hN⟩; clear hne hlt a1; obtain ⟨hT5, hne, hlt, a1⟩ := boxK hT4 hN; clear hN hT4; replace hT5 := hT5.alloc (Nat.succ_le_of_lt hlt) (.cells #[.string xp, .int .i64 2, .string xt, .bool xo] 38))
    | (go_at_call 32; refine (hgt _ (baseK HV.out hT5)).mono ?_; clear hgt; rintro rr w6 ⟨rfl, hN⟩; clear hne hlt a1; obtain ⟨hT6, hne, hlt, a1⟩ := boxK hT5 hN; clear hN hT5; replace hT6 := hT6.alloc (Nat.succ_le_of_lt hlt) (.cells #[.string yp, .int .i64 yk, .string yt, .bool yo] 38))
    | (go_at_call 60; refine (hna _ (baseK HV.out hT6)).mono ?_; clear hna; rintro rr w7 ⟨⟨a7, c7, rfl⟩, hN⟩; have hB := Below.onto (baseK HV.out hT6) hN; clear hN hT6 hne hlt a1)
    | (go_at_call 70; refine (hw1 _ hB).mono ?_; clear hw1; rintro rr w8 ⟨⟨v8, rfl, hR8⟩, hN⟩; replace hB := Below.onto hB hN; clear hN; obtain ⟨p8, c8, rfl, hL8, hc8, hn8⟩ := hR8.form; clear hR8)
    | (go_at_call 70; refine (hw2 _ p8 c8 hL8).mono ?_; clear hw2; rintro rr w9 ⟨⟨v9, rfl, hR9⟩, hN⟩; have HR9 : Aside (Rows w9 w.heap.size v9 (baseL t frm.data.toList to.data.toList)) := hR9.mono hB.size; have HB9 : Aside (Below w.heap.size w w9) := Below.onto hB hN; clear hN hR9 hB hL8))
  go_loopg [16, 99] n (fun gg v i wr => ∃ k : Nat, k ≤ n ∧ n - k ≤ gg ∧ i = .int .i64 k ∧ Aside (Rows wr w.heap.size v (rmK t frm to k)) ∧ Aside (Below w.heap.size w wr) ∧ Aside (((t.take k).any fun e => inM frm.data.toList e && !clean (mvE frm to e).p) = false))
  case atStart => exact ⟨0, Nat.zero_le _, by omega, rfl, HR9.out, HB9.out, by simp [Aside]⟩
  case round =>
    obtain ⟨k, hk, hgg, rfl, ST, BW, NB⟩ := hrel
    by_cases hlt : k < n
    · have hltz : (k : Int) < (n : Int) := by omega
      obtain ⟨y, hy⟩ : ∃ y, t[k]? = some y := ⟨_, List.getElem?_eq_getElem (by have := HN.out; omega)⟩
      have HY : Aside (t[k]? = some y) := hy
      have hy80 := HP80.out y (List.mem_of_getElem? hy)
      rcases HL.out with h0 | ⟨b, off, rfl, hb, hc⟩
      · rw [h0] at hy; simp at hy
      obtain ⟨c0, c1, c2, c3⟩ := Lies.cells hc hb BW.out hy
      clear hc hy
      have hws : w.heap.size ≤ wr.heap.size := BW.out.size
      have hun := fun W => refUnder_any y.path frm W (by unfold maxLen; omega) (by unfold maxLen; omega)
      cases hin : inM frm.data.toList y with
      | false =>
        have hp1 : ¬ y.path.data.toList = frm.data.toList := fun e => by
          unfold inM at hin; rw [show y.p = y.path.data.toList from rfl, e] at hin; simp at hin
        have hp2 : under y.path.data.toList frm.data.toList = false := by
          unfold inM at hin; exact (Bool.or_eq_false_iff.1 hin).2
        obtain ⟨e1, e2⟩ := ne_parts hp1
        rw [hp2] at hun
        clear hp1 hp2
        have HS : Aside (rmK t frm to (k + 1) = rmK t frm to k) := rmK_skip HY.out hin
        have HNB : Aside (((t.take (k + 1)).any fun e => inM frm.data.toList e && !clean (mvE frm to e).p) = false) := bad_step HY.out NB.out (by rw [hin]; rfl)
        go_wp2_with (go_at_call 19; refine (hun _).mono ?_; rintro rr wx ⟨rfl, hwx⟩; subst wx)
        go_roundg (n - (k + 1))
        case measure => omega
        case rel => exact ⟨k + 1, by omega, by omega, by go_num, by rw [HS.out]; exact ST.out.below ((Grown.refl wr).alloc _).below, (BW.out.alloc BW.out.size _ : Below _ _ _), HNB.out⟩
      | true =>
        have hsz := inM_size hin
        have hszz : (frm.size : Int) ≤ (y.path.size : Int) := by omega
        have hways : (y.path.data.toList = frm.data.toList) ∨ (¬ y.path.data.toList = frm.data.toList ∧ under y.path.data.toList frm.data.toList = true) := by
          unfold inM at hin
          by_cases h : y.path.data.toList = frm.data.toList
          · exact .inl h
          · refine .inr ⟨h, ?_⟩
            rcases Bool.or_eq_true_iff.1 hin with g | g
            · exact absurd (of_decide_eq_true g) h
            · exact g
        have HSX : Aside (rmK t frm to (k + 1) = withL (rmK t frm to k) (mvE frm to y)) := rmK_step HR.out.sorted HY.out hin
        obtain ⟨new, hnew⟩ : ∃ new, to ++ y.path.extract frm.size y.path.size = new := ⟨_, rfl⟩
        have HMV : Aside (mvE frm to y = ⟨new, y.kind, y.text, y.opq⟩) := by show _ = _; rw [← hnew]; rfl
        have hcc : new.size ≤ 160 := by rw [← hnew]; simp; omega
        have hcl := fun W => refClean_any new W (by omega)
        have HX : Aside (Below wr.heap.size wr (wr.alloc (.cells #[.string new, .int .i64 y.kind, .string y.text, .bool y.opq] 38))) := ((Grown.refl wr).alloc _).below
        cases hcn : clean new.data.toList with
        | false =>
          rw [hcn] at hcl
          have HBAD : Aside (badMove' t frm to = true) := List.any_eq_true.2 ⟨y, List.mem_of_getElem? HY.out, by rw [hin, HMV.out]; show (true && !clean new.data.toList) = true; rw [hcn]; rfl⟩
          rcases hways with h1 | ⟨h1, h2⟩
          · obtain ⟨e1, e2⟩ := eq_parts h1
            clear h1 hun
            go_wp2_with (go_at_call 17; refine (hcl _).mono ?_; clear hcl; rintro rr w3 ⟨rfl, hN⟩; have HB3 : Aside (Below w.heap.size w w3) := Below.onto BW.out (Below.onto HX.out hN); clear hN)
            go_ret2
            exact .inl ⟨HBAD.out, TreePost.none HB3.out⟩
          · obtain ⟨e1, e2⟩ := ne_parts h1
            rw [h2] at hun
            clear h1 h2
            go_wp2_with (first | (go_at_call 19; refine (hun _).mono ?_; clear hun; rintro rr wx ⟨rfl, hwx⟩; subst wx) | (go_at_call 17; refine (hcl _).mono ?_; clear hcl; rintro rr w3 ⟨rfl, hN⟩; have HB3 : Aside (Below w.heap.size w w3) := Below.onto BW.out (Below.onto HX.out hN); clear hN))
            go_ret2
            exact .inl ⟨HBAD.out, TreePost.none HB3.out⟩
        | true =>
          rw [hcn] at hcl
          have HNB : Aside (((t.take (k + 1)).any fun e => inM frm.data.toList e && !clean (mvE frm to e).p) = false) := bad_step HY.out NB.out (by rw [HMV.out]; show (_ && !clean new.data.toList) = false; rw [hcn]; simp)
          have hwi : ∀ W v, Rows W w.heap.size v (rmK t frm to k) → Calls Tryd.prog 66 #[v, .agg #[.string new, .int .i64 y.kind, .string y.text, .bool y.opq]] W (RowsPost (rmK t frm to (k + 1)) W) := fun W v hv => by
            obtain ⟨p', c', rfl, hL', _, _⟩ := hv.form
            rw [HSX.out, HMV.out]
            refine refWith_any (rmK t frm to k) ⟨new, y.kind, y.text, y.opq⟩ p' c' W hL' (rmK_all (fun x hx => by have := HP80.out x hx; omega) (fun x hx hi => ?_)) (by show new.size ≤ _; omega) (Nat.le_trans (rmK_len HR.out.sorted) HR.out.len)
            have hxc : clean (mvE frm to x).p = true := by
              cases hh : clean (mvE frm to x).p with
              | true => rfl
              | false =>
                have := NB.out
                rw [List.any_eq_false] at this
                exact absurd (by rw [hi, hh]; rfl) (this x hx)
            have : (mvE frm to x).path.size ≤ 80 := clean_size hxc
            omega
          rcases hways with h1 | ⟨h1, h2⟩
          · obtain ⟨e1, e2⟩ := eq_parts h1
            clear h1 hun
            go_wp2_with (first
              | (go_at_call 17; refine (hcl _).mono ?_; clear hcl; rintro rr w3 ⟨rfl, hN⟩; obtain ⟨⟨d0, d1, d2, d3⟩, _⟩ := new4 (by simp) hN; have hX3 := Below.onto HX.out hN; have hR3 := ST.out.below hX3; clear hN)
              | (go_at_call 66; refine (hwi _ _ hR3).mono ?_; clear hwi hR3; rintro rr w4 ⟨⟨v4, rfl, hR4⟩, hN4⟩; have HR4 : Aside (Rows w4 w.heap.size v4 (rmK t frm to (k + 1))) := hR4.mono (Below.onto BW.out hX3).size; have HB4 : Aside (Below w.heap.size w w4) := Below.onto (Below.onto BW.out hX3) hN4; clear hR4 hN4))
            go_roundg (n - (k + 1))
            case measure => omega
            case rel => exact ⟨k + 1, by omega, by omega, by go_num, HR4.out, HB4.out, HNB.out⟩
          · obtain ⟨e1, e2⟩ := ne_parts h1
            rw [h2] at hun
            clear h1 h2
            go_wp2_with (first
              | (go_at_call 19; refine (hun _).mono ?_; clear hun; rintro rr wx ⟨rfl, hwx⟩; subst wx)
              | (go_at_call 17; refine (hcl _).mono ?_; clear hcl; rintro rr w3 ⟨rfl, hN⟩; obtain ⟨⟨d0, d1, d2, d3⟩, _⟩ := new4 (by simp) hN; have hX3 := Below.onto HX.out hN; have hR3 := ST.out.below hX3; clear hN)
              | (go_at_call 66; refine (hwi _ _ hR3).mono ?_; clear hwi hR3; rintro rr w4 ⟨⟨v4, rfl, hR4⟩, hN4⟩; have HR4 : Aside (Rows w4 w.heap.size v4 (rmK t frm to (k + 1))) := hR4.mono (Below.onto BW.out hX3).size; have HB4 : Aside (Below w.heap.size w w4) := Below.onto (Below.onto BW.out hX3) hN4; clear hR4 hN4))
            go_roundg (n - (k + 1))
            case measure => omega
            case rel => exact ⟨k + 1, by omega, by omega, by go_num, HR4.out, HB4.out, HNB.out⟩
    · obtain rfl : k = n := by omega
      have hltz : ¬ (k : Int) < (k : Int) := by omega
      have HGOOD : Aside (badMove' t frm to = false) := by
        show _ = _
        have := NB.out
        rw [HN.out, List.take_length] at this
        exact this
      go_wp2
      go_ret2
      exact .inr ⟨HGOOD.out, rows_end ST.out (by rw [HN.out]) BW.out⟩
end Go.Proofs.YtampldoimpfjgaaDoor
namespace Go.Proofs.YtampldoimpfjgaaDoor
open Go.RowKit PM Go.Sort
set_option linter.unusedVariables false

theorem full_names {t : List Ent} {q : List UInt8} (HR : Right false t) (h0 : q ≠ []) : fullL t q = if (namesL t q).length = 0 then 0 else 11 := by
  by_cases hk : (namesL t q).length = 0
  · rw [if_pos hk]
    have hu := (names_none HR h0).1 hk
    unfold fullL
    rw [if_neg]
    intro h
    obtain ⟨x, hx, hux⟩ := List.any_eq_true.1 h
    rw [hu x hx] at hux
    cases hux
  · rw [if_neg hk]
    unfold fullL
    rw [if_pos]
    apply Classical.byContradiction
    intro hc
    apply hk
    rw [names_none HR h0]
    intro x hx
    cases hu : under x.p q with
    | false => rfl
    | true => exact absurd (List.any_eq_true.2 ⟨x, hx, hu⟩) hc
theorem moveL_err {t : List Ent} {frm to : ByteArray} {er : Int} (h : moveErr t frm to = er) (h0 : er ≠ 0) : moveL t frm to = [] := by rw [moveL, if_neg (by rw [h]; exact h0)]
theorem refMove_any (t : List Ent) (frm to : ByteArray) (p : Option Addr) (cap : Nat) (w : World) (hL : Lies w p t) (hF : ∀ e ∈ t, e.path.size ≤ 1048576 ∧ e.text.size ≤ 1048576) (hn : t.length < 4611686018427387904) (hcap : t.length ≤ cap) (hnil : p = none → cap = 0) (hf : frm.size ≤ 1048576) (ht : to.size ≤ 1048576) :
    Calls Tryd.prog 41 #[.slice p t.length cap, .string frm, .string to] w (TreePost (moveErr t frm to) (moveL t frm to) w) := by
  have hwr : PutWr w p t.length cap (faultL false t).1 ((faultL false t).2 : Nat) := fun W hB => refWrong_any t false p cap W (hL.kept hB) hF hn hcap
  have err : ∀ er : Int, moveErr t frm to = er → er ≠ 0 → Calls Tryd.prog 41 #[.slice p t.length cap, .string frm, .string to] w (TreePost er [] w) → Calls Tryd.prog 41 #[.slice p t.length cap, .string frm, .string to] w (TreePost (moveErr t frm to) (moveL t frm to) w) := fun er h h0 hc => by
    rw [moveL_err h h0, h]; exact hc
  by_cases h1 : ¬ (faultL false t).1 = 0
  · have hA : moveAsk t frm.data.toList = (faultL false t).1 := by rw [moveAsk, orL, if_neg h1]
    refine err _ (by rw [moveErr, if_neg (by rw [hA]; exact h1), hA]) h1 ?_
    exact mvW_1 p t.length cap frm to w _ _ h1 hwr
  replace h1 : (faultL false t).1 = 0 := Decidable.not_not.1 h1
  have HR : Right false t := faultL_zero.1 h1
  have h80 := HR.len
  rw [faultL_right HR] at hwr
  have hwr : PutWr w p t.length cap 0 0 := hwr
  have hg : ∀ s : ByteArray, ∀ x : Ent, ∀ bb, (getL t s.data.toList).getD zeroE = x → (getL t s.data.toList).isSome = bb → RefGe w s p t.length cap x.path x.kind x.text x.opq bb := fun s x bb hxx hbb W hB => refGet_any t s p cap W (hL.kept hB) hn x bb hxx hbb
  have hmiss : moveAsk t frm.data.toList = missL t frm.data.toList := by
    rw [moveAsk, orL, if_pos h1, orL]
    split
    · rename_i h; rw [h]; rfl
    · rfl
  by_cases hf0 : frm.data.toList = []
  · have hA : moveAsk t frm.data.toList = 6 := by
      rw [hmiss, missL, if_neg]
      rintro ⟨e, he, hp⟩; exact HR.ne he (hp.trans hf0)
    refine err 6 (by rw [moveErr, if_neg (by rw [hA]; decide), hA]) (by decide) ?_
    exact mvW_3 p t.length cap frm to w hwr _ _ _ _ (hg frm dirE true (by rw [hf0, getL_nil]; rfl) (by rw [hf0, getL_nil]; rfl)) hf0
  cases hgf : getL t frm.data.toList with
  | none =>
    have hA : moveAsk t frm.data.toList = 6 := by
      rw [hmiss, missL, if_neg]
      rintro ⟨e, he, hp⟩; exact (getL_none hgf).2 e he hp
    refine err 6 (by rw [moveErr, if_neg (by rw [hA]; decide), hA]) (by decide) ?_
    exact mvW_2 p t.length cap frm to w hwr _ _ _ _ (hg frm zeroE false (by rw [hgf]; rfl) (by rw [hgf]; rfl))
  | some a =>
  obtain ⟨ham, hap⟩ := getL_some hf0 hgf
  have hA : moveAsk t frm.data.toList = 0 := by rw [hmiss, missL, if_pos ⟨a, ham, hap⟩]
  have hga := hg frm a true (by rw [hgf]; rfl) (by rw [hgf]; rfl)
  have hcl : RefCl to (clean to.data.toList) := fun W => refClean_any to W (by omega)
  have hE : moveErr t frm to = if clean to.data.toList = true then
      if frm.data.toList = to.data.toList then 0
      else if under to.data.toList frm.data.toList = true then 8
      else if moveAsk2 t frm.data.toList to.data.toList = 0 then (if badMove t frm to = true then 4 else 0)
      else moveAsk2 t frm.data.toList to.data.toList
    else 7 := by rw [moveErr, if_pos hA]
  cases hct : clean to.data.toList with
  | false =>
    rw [hct] at hcl hE
    exact err 7 hE (by decide) (mvW_4 p t.length cap frm to w hwr _ _ _ _ hga hf0 hcl)
  | true =>
  rw [hct, if_pos rfl] at hE
  rw [hct] at hcl
  by_cases hft : frm.data.toList = to.data.toList
  · rw [if_pos hft] at hE
    rw [moveL, hE, if_pos rfl, if_pos hft]
    refine (mvW_5 p t.length cap frm to w hwr _ _ _ _ hga hf0 hcl hft).mono ?_
    rintro r w' ⟨rfl, hB⟩
    exact ⟨p, cap, rfl, hL.kept hB, hcap, hnil, hB⟩
  rw [if_neg hft] at hE
  have hun : RefUn to frm (under to.data.toList frm.data.toList) := fun W => refUnder_any to frm W (by unfold maxLen; omega) (by unfold maxLen; omega)
  cases hut : under to.data.toList frm.data.toList with
  | true =>
    rw [hut] at hun hE
    exact err 8 hE (by decide) (mvW_6 p t.length cap frm to w hwr _ _ _ _ hga hf0 hcl hft hun)
  | false =>
  rw [hut, if_neg (by decide)] at hE
  rw [hut] at hun
  have ht0 : to.data.toList ≠ [] := clean_ne hct
  have hcu : RefCu to := fun W => refCut_grown to W (by omega)
  have hgd : ∀ x : Ent, ∀ bb, (getL t (dirOf to.data.toList)).getD zeroE = x → (getL t (dirOf to.data.toList)).isSome = bb → RefGd w to p t.length cap x.path x.kind x.text x.opq bb := fun x bb hxx hbb W d hd hB => by
    have hd' : d.data.toList = dirOf to.data.toList := hd
    exact refGet_any t d p cap W (hL.kept hB) hn x bb (by rw [hd']; exact hxx) (by rw [hd']; exact hbb)
  rcases getL_cases t (dirOf to.data.toList) with ⟨g1, g2⟩ | ⟨x, g1, g2, g3⟩ | ⟨x, g1, g2, g3⟩
  · have h2 : moveAsk2 t frm.data.toList to.data.toList = 6 := by rw [moveAsk2, orL, if_neg (by rw [g2]; decide), g2]
    rw [h2, if_neg (by decide)] at hE
    exact err 6 hE (by decide) (mvW_7 p t.length cap frm to w hwr _ _ _ _ hga hf0 hcl hft hun hcu _ _ _ _ (hgd zeroE false (by rw [g1]; rfl) (by rw [g1]; rfl)))
  · have h2 : moveAsk2 t frm.data.toList to.data.toList = 10 := by rw [moveAsk2, orL, if_neg (by rw [g3]; decide), g3]
    rw [h2, if_neg (by decide)] at hE
    exact err 10 hE (by decide) (mvW_8 p t.length cap frm to w hwr _ _ _ _ hga hf0 hcl hft hun hcu _ _ _ _ (hgd x true (by rw [g1]; rfl) (by rw [g1]; rfl)) g2)
  have hgdx := hgd x true (by rw [g1]; rfl) (by rw [g1]; rfl)
  rw [g2] at hgdx
  have h2 : moveAsk2 t frm.data.toList to.data.toList = roomL t frm.data.toList to.data.toList := by
    rw [moveAsk2, orL, if_pos g3, orL]
    split
    · rename_i h; rw [h]; rfl
    · rfl
  rw [h2] at hE
  have hf80 : frm.size ≤ 80 := by
    have := HR.clean ham
    rw [hap] at this
    exact clean_size this
  have ht80 : to.size ≤ 80 := clean_size hct
  have hw1 : RefWo w frm p t.length cap (remUnder t frm.data.toList) := fun W hB => refWithout_any t frm p cap W (hL.kept hB) (fun x hx => (hF x hx).1) (by unfold maxLen; omega) h80
  have hw2 : RefW2 t frm to := fun W p' c' hL' => refWithout_any (remUnder t frm.data.toList) to p' c' W hL' (fun x hx => (hF x (mem_remUnder.1 hx).1).1) (by unfold maxLen; omega) (Nat.le_trans (List.length_filter_le _ _) h80)
  have hba : badMove t frm to = badMove' t frm to := bad_all hft hut
  have fin : roomL t frm.data.toList to.data.toList = 0 → ∀ r w', ((badMove' t frm to = true ∧ TreePost 4 [] w r w') ∨ (badMove' t frm to = false ∧ TreePost 0 (rmK t frm to t.length) w r w')) → TreePost (moveErr t frm to) (moveL t frm to) w r w' := fun h0 r w' h => by
    rw [h0, if_pos rfl, hba] at hE
    rcases h with ⟨hb, h⟩ | ⟨hb, h⟩
    · rw [hb, if_pos rfl] at hE
      rw [moveL_err hE (by decide), hE]; exact h
    · rw [hb, if_neg (by decide)] at hE
      rw [moveL, hE, if_pos rfl, if_neg hft]; exact h
  cases hgt : getL t to.data.toList with
  | none =>
    have h0 : roomL t frm.data.toList to.data.toList = 0 := by rw [roomL, hgt]
    exact (mvW_13 p t.length cap frm to w hwr _ _ _ _ hga hf0 hcl hft hun hcu _ _ 0 _ hgdx _ _ _ _ (hg to zeroE false (by rw [hgt]; rfl) (by rw [hgt]; rfl)) t hL rfl HR hf80 ht80 hw1 hw2).mono (fin h0)
  | some b =>
    have hgb := hg to b true (by rw [hgt]; rfl) (by rw [hgt]; rfl)
    have hro : roomL t frm.data.toList to.data.toList = if (b.kind == 2) && !(a.kind == 2) then 9 else if !(b.kind == 2) && (a.kind == 2) then 10 else fullL t to.data.toList := by rw [roomL, hgt, hgf]; rfl
    have hna := refNa t to p cap w hL hF h80
    have hfn := full_names HR ht0
    by_cases ha : a.kind = 2 <;> by_cases hb : b.kind = 2
    · have hr : roomL t frm.data.toList to.data.toList = fullL t to.data.toList := by rw [hro]; simp [ha, hb]
      by_cases hk : (namesL t to.data.toList).length = 0
      · rw [hk] at hna
        rw [if_pos hk] at hfn
        exact (mvW_14 p t.length cap frm to w hwr _ _ _ _ hga hf0 hcl hft hun hcu _ _ 0 _ hgdx _ _ _ _ hgb ha hb hna t hL rfl HR hf80 ht80 hw1 hw2).mono (fin (hr.trans hfn))
      · rw [if_neg hk] at hfn
        rw [hr, hfn, if_neg (by decide)] at hE
        exact err 11 hE (by decide) (mvW_11 p t.length cap frm to w hwr _ _ _ _ hga hf0 hcl hft hun hcu _ _ 0 _ hgdx _ _ _ _ hgb ha hb _ (by omega) hna)
    · have hr : roomL t frm.data.toList to.data.toList = 10 := by rw [hro]; simp [ha, hb]
      rw [hr, if_neg (by decide)] at hE
      exact err 10 hE (by decide) (mvW_10 p t.length cap frm to w hwr _ _ _ _ hga hf0 hcl hft hun hcu _ _ 0 _ hgdx _ _ _ _ hgb ha hb)
    · have hr : roomL t frm.data.toList to.data.toList = 9 := by rw [hro]; simp [ha, hb]
      rw [hr, if_neg (by decide)] at hE
      exact err 9 hE (by decide) (mvW_9 p t.length cap frm to w hwr _ _ _ _ hga hf0 hcl hft hun hcu _ _ 0 _ hgdx _ _ _ _ hgb ha hb)
    · have hr : roomL t frm.data.toList to.data.toList = fullL t to.data.toList := by rw [hro]; simp [ha, hb]
      by_cases hk : (namesL t to.data.toList).length = 0
      · rw [hk] at hna
        rw [if_pos hk] at hfn
        exact (mvW_15 p t.length cap frm to w hwr _ _ _ _ hga hf0 hcl hft hun hcu _ _ 0 _ hgdx _ _ _ _ hgb ha hb hna t hL rfl HR hf80 ht80 hw1 hw2).mono (fin (hr.trans hfn))
      · rw [if_neg hk] at hfn
        rw [hr, hfn, if_neg (by decide)] at hE
        exact err 11 hE (by decide) (mvW_12 p t.length cap frm to w hwr _ _ _ _ hga hf0 hcl hft hun hcu _ _ 0 _ hgdx _ _ _ _ hgb ha hb _ (by omega) hna)
end Go.Proofs.YtampldoimpfjgaaDoor
