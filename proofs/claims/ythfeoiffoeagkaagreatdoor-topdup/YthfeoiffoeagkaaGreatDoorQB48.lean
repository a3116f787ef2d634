/-
  TopDup.
-/
import Derived.Test.YthfeoiffoeagkaaGreatDoorQA46
namespace Go.Proofs.YthfeoiffoeagkaaGreatDoor
open Go.RowKit PM Go.Sort
set_option linter.unusedVariables false
def dupL (n m : Int) : List Cl:=[⟨1,0,0,1,0,⟨#[100,105,114,47,97]⟩,⟨#[]⟩,⟨#[]⟩,false⟩,⟨13,0,0,0,0,⟨#[]⟩,⟨#[]⟩,⟨#[]⟩,false⟩,⟨1,0,0,1,0,⟨#[100,105,114,47,97]⟩,⟨#[]⟩,⟨#[]⟩,false⟩,⟨3,0,0,n,0,⟨#[]⟩,⟨#[]⟩,⟨#[]⟩,false⟩,⟨3,0,1,m,0,⟨#[]⟩,⟨#[]⟩,⟨#[]⟩,false⟩,⟨3,0,2,m,0,⟨#[]⟩,⟨#[]⟩,⟨#[]⟩,false⟩]
noncomputable def dupT (n m : Nat) : List (Int × List UInt8):=(runB (dupL n m)).2.map fun a => (a.n,a.text.data.toList)
def dupW (n m : Nat) : List (Int × List UInt8) := 
 let x:=min n 3
 [(0,[]),(1,[]),(2,[]),(x,[111,110,101].take x),((min (x + m) 3 - x : Nat),([111,110,101].drop x).take m),(min m 3,[111,110,101].take m)]
set_option maxRecDepth 1000000 in
set_option maxHeartbeats 4000000 in
theorem dup_all : ∀ n,n < 11 → ∀ m,m < 11 → dupT n m = dupW n m:=by decide +kernel
theorem dup_cut : ∀ n,n < 11 → ∀ m,m < 11 → ([111,110,101] : List UInt8).take (min n 3) ++ (([111,110,101] : List UInt8).drop (min n 3)).take m = ((ByteArray.mk #[111,110,101]).extract 0 (min (min n 3 + m) 3)).data.toList:=by decide +kernel
theorem dup_cut2 : ∀ m,m < 11 → ([111,110,101] : List UInt8).take m = ((ByteArray.mk #[111,110,101]).extract 0 (min m 3)).data.toList:=by decide +kernel
theorem an_pair {l : List An} {i : Nat} {n : Int} {t : List UInt8} (h : (l.map fun a => (a.n,a.text.data.toList))[i]? = some (n,t)) : ∃ a,l[i]? = some a ∧ a.n = n ∧ a.text.data.toList = t:=by
 rw [List.getElem?_map] at h
 obtain ⟨a,ha,he⟩:=Option.map_eq_some_iff.1 h
 exact ⟨a,ha,congrArg Prod.fst he,congrArg Prod.snd he⟩
set_option maxRecDepth 100000 in
set_option maxHeartbeats 1000000 in
theorem topDup_in (n m : Nat) (hn : n ≤ 10) (hm : m ≤ 10) (w : World) (hg : Gl w.heap.size w) : TrueC 15 #[.int .i64 n,.int .i64 m] w:=by
 have hal:=topAlive_any w hg
 obtain ⟨X,hX⟩ : ∃ X,X = min n 3:=⟨_,rfl⟩
 obtain ⟨K,hK⟩ : ∃ K,K = min (X + m) 3:=⟨_,rfl⟩
 obtain ⟨K2,hK2⟩ : ∃ K2,K2 = min m 3:=⟨_,rfl⟩
 have hpl : ∀ (W : World) (b b' : Nat) (H cc : Nat),UnOK W ⟨none,0,[]⟩ [⟨some ⟨b,0,none⟩,3,base6⟩] (some ⟨b',0,none⟩) 1 → Gl W.heap.size W → LiesC W (some ⟨H,0,none⟩) (dupL n m) →
   Calls Tryz.prog 16 #[.agg #[.slice none 0 0,.slice (some ⟨b',0,none⟩) 1 1],.slice (some ⟨H,0,none⟩) 6 cc] W (fun r w' => ∃ a0 k0 c0 a1 k1 c1 ps sn sc op b ac t3 t4,r = .returned (.tuple #[.agg #[.slice a0 k0 c0,.slice a1 k1 c1,.slice ps sn sc,.int .i64 op],.slice (some ⟨b,0,none⟩) 6 ac,.int .i64 0]) ∧ w'.cell? ⟨b,5,none⟩ = some (.int .i64 1) ∧ w'.cell? ⟨b,9,none⟩ = some (.int .i64 2) ∧ w'.cell? ⟨b,14,none⟩ = some (.string t3) ∧ w'.cell? ⟨b,18,none⟩ = some (.string t4) ∧ (9223372036854775807 < t3.size + t4.size) = False ∧ t3 ++ t4 = (ByteArray.mk #[111,110,101]).extract 0 K ∧ w'.cell? ⟨b,22,none⟩ = some (.string ((ByteArray.mk #[111,110,101]).extract 0 K2)) ∧ Below W.heap.size W w'):=fun W b b' H cc hU hG hC => by
  refine (top_play (dupL n m) 6 rfl (by simp [dupL]) (by simp [dupL]) (fun c hc => by simp only [dupL,List.mem_cons,List.not_mem_nil,or_false] at hc;rcases hc with rfl | rfl | rfl | rfl | rfl | rfl <;> exact ⟨Nat.le_of_ble_eq_true rfl,Nat.le_of_ble_eq_true rfl,Nat.le_of_ble_eq_true rfl⟩) W b b' H cc hU hG hC).mono fun r w' ⟨y,pl,cl,ps,sc,yn,ln,sn,op,b1,ac,e,hB,hx⟩ => ?_
  obtain ⟨e1,e2,e3,e4⟩:=hx.out
  have hd : ((runB (dupL n m)).2.map fun a => (a.n,a.text.data.toList)) = dupW n m:=dup_all n (by omega) m (by omega)
  obtain ⟨a1,ha1,hn1,ht1⟩:=an_pair (i:=1) (by rw [hd];rfl)
  obtain ⟨a2,ha2,hn2,ht2⟩:=an_pair (i:=2) (by rw [hd];rfl)
  obtain ⟨a3,ha3,hn3,ht3⟩:=an_pair (i:=3) (by rw [hd];rfl)
  obtain ⟨a4,ha4,hn4,ht4⟩:=an_pair (i:=4) (by rw [hd];rfl)
  obtain ⟨a5,ha5,hn5,ht5⟩:=an_pair (i:=5) (by rw [hd];rfl)
  obtain ⟨_,_,_,_,g1,_⟩:=e4 1 a1 ha1
  obtain ⟨_,_,_,_,g2,_⟩:=e4 2 a2 ha2
  obtain ⟨_,_,_,_,_,g3,_⟩:=e4 3 a3 ha3
  obtain ⟨_,_,_,_,_,g4,_⟩:=e4 4 a4 ha4
  obtain ⟨_,_,_,_,_,g5,_⟩:=e4 5 a5 ha5
  rw [hn1] at g1
  rw [hn2] at g2
  have h3 : a3.text.size ≤ 3:=by rw [← szl,ht3];simp;omega
  have h4 : a4.text.size ≤ 3:=by rw [← szl,ht4];simp;omega
  have h34 : a3.text ++ a4.text = (ByteArray.mk #[111,110,101]).extract 0 K:=by
   apply ba_ext
   rw [hK,hX]
   have : (a3.text ++ a4.text).data.toList = a3.text.data.toList ++ a4.text.data.toList:=by simp
   rw [this,ht3,ht4]
   exact dup_cut n (by omega) m (by omega)
  have h5 : a5.text = (ByteArray.mk #[111,110,101]).extract 0 K2:=by
   apply ba_ext
   rw [ht5,hK2]
   exact dup_cut2 m (by omega)
  rw [h5] at g5
  exact ⟨_,_,_,_,_,_,_,_,_,_,_,_,_,_,e,g1,g2,g3,g4,by simp;omega,h34,g5,hB⟩
 have HG : Aside (Gl w.heap.size w):=hg
 have x1 : min (n : Int) 3 = (X : Int):=by omega
 have x2 : min ((X : Int) + (m : Int)) 3 = (K : Int):=by omega
 have x3 : min (m : Int) 3 = (K2 : Int):=by omega
 have x4 : X ≤ 3:=by omega
 have x5 : K ≤ 3:=by omega
 have x6 : K2 ≤ 3:=by omega
 have x7 : IntKind.i64.wrap ((X : Int) + (m : Int)) = (X : Int) + (m : Int):=by rw [IntKind.wrap_i64];omega
 have x8 : (0 : Int) ≤ (K : Int):=by omega
 have x9 : (K : Int) ≤ 3:=by omega
 have x10 : (0 : Int) ≤ (K2 : Int):=by omega
 have x11 : (K2 : Int) ≤ 3:=by omega
 have n0 : ¬ (n : Int) < 0:=by omega
 have m0 : ¬ (m : Int) < 0:=by omega
 have n10 : ¬ (10 : Int) < n:=by omega
 have m10 : ¬ (10 : Int) < m:=by omega
 clear hX hK hK2 hn hm
 clear hg
 go_enter Tryz.func15,Tryz.ntmps15
 go_wp2_with (first
  | (go_at_call 32;refine hal.mono ?_;clear hal;rintro r w2 ⟨rfl,hB2⟩;have H2 : Aside (Below w.heap.size w w2):=hB2;clear hB2;have hbase:=base_any w2)
  | (go_at_call 36;refine hbase.mono ?_;clear hbase;rintro r w3 ⟨b,b',rfl,hU,hB3⟩;have H3 : Aside (UnOK w3 ⟨none,0,[]⟩ [⟨some ⟨b,0,none⟩,3,base6⟩] (some ⟨b',0,none⟩) 1 ∧ Below w.heap.size w w3):=⟨hU,Below.onto H2.out hB3⟩;clear hU hB3;have H4 : Aside (Below w3.heap.size w3 w3):=Below.refl _ _)
  | (go_at_call 33;refine (open_call _ _ _).mono ?_;rintro r w4 ⟨rfl,hB4⟩;replace H4 : Aside (Below w3.heap.size w3 w4):=Below.onto H4.out hB4;clear hB4)
  | (go_at_call 34;refine (on_call _ _ _ _ _).mono ?_;rintro r w4 ⟨rfl,hB4⟩;replace H4 : Aside (Below w3.heap.size w3 w4):=Below.onto H4.out hB4;clear hB4)
  | (go_at_call 16;have HB : Aside (Below w3.heap.size w3 (w4.alloc (.cells ((dupL n m).flatMap encC).toArray 50))):=Below.onto H4.out ((Grown.refl w4).alloc _).below;refine (hpl _ b b' _ _ (H3.out.1.kept HB.out) (HG.out.up (Below.onto H3.out.2 HB.out)) (liesC_new w4 (dupL n m) _ rfl)).mono ?_;clear hpl;rintro r w7 ⟨a0,k0,c0,a1,k1,c1,ps,sn,sc,op,b1,ac,t3,t4,rfl,q1,q2,q3,q4,qs,q34,q5,hB7⟩;replace q1:=Lib.cell?_alloc_some (.cells #[.slice a0 k0 c0,.slice a1 k1 c1,.slice ps sn sc,.int .i64 op] 29) q1;replace q2:=Lib.cell?_alloc_some (.cells #[.slice a0 k0 c0,.slice a1 k1 c1,.slice ps sn sc,.int .i64 op] 29) q2;replace q3:=Lib.cell?_alloc_some (.cells #[.slice a0 k0 c0,.slice a1 k1 c1,.slice ps sn sc,.int .i64 op] 29) q3;replace q4:=Lib.cell?_alloc_some (.cells #[.slice a0 k0 c0,.slice a1 k1 c1,.slice ps sn sc,.int .i64 op] 29) q4;replace q5:=Lib.cell?_alloc_some (.cells #[.slice a0 k0 c0,.slice a1 k1 c1,.slice ps sn sc,.int .i64 op] 29) q5;have H7 : Aside (Below w.heap.size w w7):=Below.onto (Below.onto H3.out.2 HB.out) hB7;clear hB7))
 go_region_held3 (fun w' => w'.cell? ⟨b1,5,none⟩ = some (.int .i64 1) ∧ w'.cell? ⟨b1,9,none⟩ = some (.int .i64 2) ∧ w'.cell? ⟨b1,14,none⟩ = some (.string t3) ∧ w'.cell? ⟨b1,18,none⟩ = some (.string t4) ∧ w'.cell? ⟨b1,22,none⟩ = some (.string ((ByteArray.mk #[111,110,101]).extract 0 K2))) (go_keep) (fail)
 go_wp2
 go_ret
 exact ⟨rfl,(H7.out.alloc H7.out.size _).drew⟩
theorem topDup_out (n m : Int) (h : n < 0 ∨ m < 0 ∨ 10 < n ∨ 10 < m) (w : World) (hg : Gl w.heap.size w) : TrueC 15 #[.int .i64 n,.int .i64 m] w:=by
 have hal:=topAlive_any w hg
 clear hg
 have hb : (decide (n < 0) || decide (m < 0) || decide (10 < n) || decide (10 < m)) = true:=by
  simp only [Bool.or_eq_true,decide_eq_true_eq]
  omega
 have h1 : ¬ (0 ≤ n ∧ 0 ≤ m ∧ n ≤ 10 ∧ m ≤ 10):=by omega
 have h2 : ¬ (((0 ≤ n ∧ 0 ≤ m) ∧ n ≤ 10) ∧ m ≤ 10):=by omega
 go_enter Tryz.func15,Tryz.ntmps15
 go_wp2_with (first
  | (go_at_call 32;refine hal.mono ?_;clear hal;rintro r w2 ⟨rfl,hB2⟩;have H2 : Aside (Below w.heap.size w w2):=hB2;clear hB2))
 all_goals go_ret
 all_goals exact ⟨rfl,H2.out⟩
theorem topDup_law (n m : Int) (w : World) (hg : Gl w.heap.size w) : TrueC 15 #[.int .i64 n,.int .i64 m] w:=by
 by_cases h : n < 0 ∨ m < 0 ∨ 10 < n ∨ 10 < m
 ·exact topDup_out n m h w hg
 ·obtain ⟨a,rfl⟩:=Int.eq_ofNat_of_zero_le (show 0 ≤ n by omega)
  obtain ⟨b,rfl⟩:=Int.eq_ofNat_of_zero_le (show 0 ≤ m by omega)
  exact topDup_in a b (by omega) (by omega) w hg
end Go.Proofs.YthfeoiffoeagkaaGreatDoor
