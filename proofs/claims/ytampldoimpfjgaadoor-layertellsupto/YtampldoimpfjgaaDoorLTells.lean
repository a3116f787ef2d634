/-
  The walk of the statement LayerTells: it answers true, and writes nothing that was there.
-/
import Derived.Test.YtampldoimpfjgaaDoorRLAll
import Derived.Test.YtampldoimpfjgaaDoorLOver
import Derived.Test.YtampldoimpfjgaaDoorTSame
namespace Go.Proofs.YtampldoimpfjgaaDoor
open Go.RowKit PM Go.Sort
set_option linter.unusedVariables false

theorem neqF3 (a b : Int) (w : World) : Sem.run Tryd.prog (binOp .neq 40 (.agg #[.int .i64 a, .int .i64 b]) (.agg #[.int .i64 a, .int .i64 b])) w = .ok (.bool false) w := by
  have u3 := Tryd.underlying3
  have a3 := Tryd.isAgg3
  have z3 := Tryd.sizeOf3
  have u9 := Tryd.underlying29
  have a9 := Tryd.isAgg29
  have z9 := Tryd.sizeOf29
  have hS : Tryd.prog.underlying 40 = some (.struct (Tryd.prog.fieldsOf 40)) := by kernel_rfl
  have hp : Tryd.prog.stoodInHeld 40 = false := by kernel_rfl
  rw [run_neq_struct, show (10000 : Nat) = 9999 + 1 from rfl, run_equalIn_agg w 9999 40 _ _ hS hp]
  simp only [Program.fieldsOf, Tryd.underlying40]
  go_simp
theorem guardF3 (op : BinOp) (a b : Operand) (x1 x2 y1 y2 : Int) (w : World) : (eqGuard op 40 a b (.agg #[.int .i64 x1, .int .i64 x2]) (.agg #[.int .i64 y1, .int .i64 y2])).run Tryd.prog w = .ok () w :=
  GuardAt.agg (P := Tryd.prog) (T := 40) (fun e : Int × Int => #[.int .i64 e.1, .int .i64 e.2]) (by kernel_rfl) op a b (x1, x2) (y1, y2) w
theorem over_le {l t : List Ent} (h : overErr l t = 0) : (overL l t).length ≤ 80 := (over_right h).len
set_option maxHeartbeats 2000000 in
set_option maxRecDepth 100000 in
theorem ltells_walk (ls : List Lay) (t : List Ent) (q : ByteArray) (m : Int) (p pt : Option Addr) (cap capt : Nat) (w : World) (hT : LiesT w p ls) (hOK : ∀ x ∈ ls, LayOK w x) (hsm : ∀ x ∈ ls, ∀ e ∈ x.es, e.path.size ≤ 1048576 ∧ e.text.size ≤ 1048576) (hn62 : ls.length < 4611686018427387904)
    (hL : Lies w pt t) (hF : ∀ e ∈ t, e.path.size ≤ 1048576 ∧ e.text.size ≤ 1048576) (hnt : t.length < 4611686018427387904) (hcapt : t.length ≤ capt) (hq : q.size ≤ 1048576) (hm : w.cell? ⟨0, 0, none⟩ = some (.int .i64 m)) :
    Calls Tryd.prog 10 #[.slice p ls.length cap, .slice pt t.length capt, .string q] w fun r w' => r = .returned (.bool true) ∧ Below w.heap.size w w' := by
  have hF' : Fits t := fun x hx => by have := hF x hx; unfold maxLen; omega
  have hmx : (1048576 : Nat) ≤ maxLen := by unfold maxLen; omega
  have HMG1 : Aside (∀ W, Below w.heap.size w W → Calls Tryd.prog 48 #[.slice p ls.length cap] W (TreePost (mergeL (ls.map (·.es))).1 (mergeL (ls.map (·.es))).2 W)) := fun W hB => merge_any ls m p cap W (by rcases hT with h | ⟨b, off, hp, hb, hc⟩; exact .inl h; exact .inr ⟨b, off, hp, Nat.lt_of_lt_of_le hb hB.size, fun j x hx => (hB.cell (p := ⟨b, off + j, none⟩) hb).trans (hc j x hx)⟩) (fun x hx => (hOK x hx).kept hB) (held hB hm)
  have HMG2 : Aside (∀ W, Below w.heap.size w W → Calls Tryd.prog 49 #[.slice p ls.length cap] W (TreePost (mergeL (ls.map (·.es))).1 (mergeL (ls.map (·.es))).2 W)) := fun W hB => refMerge_any ls p cap W (by rcases hT with h | ⟨b, off, hp, hb, hc⟩; exact .inl h; exact .inr ⟨b, off, hp, Nat.lt_of_lt_of_le hb hB.size, fun j x hx => (hB.cell (p := ⟨b, off + j, none⟩) hb).trans (hc j x hx)⟩) (fun x hx => (hOK x hx).kept hB) hsm
  have HML : Aside ((mergeL (ls.map (·.es))).2.length ≤ 80) := by
    show _ ≤ _
    by_cases h0 : (mergeL (ls.map (·.es))).1 = 0
    · unfold mergeL at h0 ⊢
      split
      · simp
      · rename_i h5
        rw [if_neg h5] at h0
        exact (mergeF_right h0).len
    · unfold mergeL at h0 ⊢
      split
      · simp
      · rename_i h5
        rw [if_neg h5] at h0
        rw [mergeF_none h0]; simp
  have HX : Aside (∀ x ∈ ls, ∀ W, Below w.heap.size w W →
      (Calls Tryd.prog 43 #[.slice x.ad x.es.length x.cap] W fun r w' => r = .returned (.agg #[.int .i64 (faultL true x.es).1, .int .i64 ((faultL true x.es).2 : Nat)]) ∧ Below W.heap.size W w') ∧
      (Calls Tryd.prog 30 #[.slice x.ad x.es.length x.cap, .bool true] W fun r w' => r = .returned (.agg #[.int .i64 (faultL true x.es).1, .int .i64 ((faultL true x.es).2 : Nat)]) ∧ Below W.heap.size W w') ∧
      ((faultL true x.es).1 = 0 → (Calls Tryd.prog 44 #[.slice x.ad x.es.length x.cap, .string q] W fun r w' => r = .returned (.bool (hidesL x.es q.data.toList)) ∧ Below W.heap.size W w') ∧
        (Calls Tryd.prog 45 #[.slice x.ad x.es.length x.cap, .string q] W fun r w' => r = .returned (.bool (hidesL x.es q.data.toList)) ∧ Below W.heap.size W w')) ∧
      (Calls Tryd.prog 46 #[.slice x.ad x.es.length x.cap, .slice pt t.length capt] W (TreePost (overErr x.es t) (if overErr x.es t = 0 then overL x.es t else []) W)) ∧
      (Calls Tryd.prog 47 #[.slice x.ad x.es.length x.cap, .slice pt t.length capt] W (TreePost (overErr x.es t) (if overErr x.es t = 0 then overL x.es t else []) W))) := fun x hx W hB => by
    have ho := (hOK x hx).kept hB
    have hs := hsm x hx
    refine ⟨layerWrong_any x.es m x.ad x.cap W ho.lies ho.fits ho.small ho.cap (held hB hm), refWrong_any x.es true x.ad x.cap W ho.lies hs ho.small ho.cap, fun h0 => ⟨?_, ?_⟩, over_any x.es t m x.ad pt x.cap capt W ho.lies (hL.kept hB) ho.fits hF' ho.small hnt ho.cap hcapt (held hB hm), refOver_any x.es t x.ad pt x.cap capt W ho.lies (hL.kept hB) hs hF ho.small hnt ho.cap hcapt⟩
    · exact (hides_any x.es q x.ad x.cap W ho.lies ho.fits ho.small (by omega)).mono fun r w' ⟨h1, h2⟩ => ⟨h1, h2.below⟩
    · have := refHides_any x.es q x.ad x.cap W ho.lies ho.small (by omega)
      rw [refHid_eq (faultL_zero.1 h0)] at this
      exact this
  have HLE : Aside (∀ x : Lay, (if overErr x.es t = 0 then overL x.es t else []).length ≤ 80) := fun x => by
    split
    · rename_i h; exact over_le h
    · simp
  have hcl := fun W => refClean_any q W (by omega)
  have hqF := neqF3
  have hgF := guardF3
  have hfld := field40
  have HT : Aside (LiesT w p ls) := hT
  obtain ⟨n, hnl⟩ : ∃ n, n = ls.length := ⟨_, rfl⟩
  have HN : Aside (n = ls.length) := hnl
  obtain ⟨nt, hntl⟩ : ∃ nt, nt = t.length := ⟨_, rfl⟩
  rw [← hnl] at hn62 HMG1 HMG2
  rw [← hntl] at HX
  rw [← hnl, ← hntl]
  clear hnl hntl hT hOK hsm hL hF hF' hnt hcapt hm hmx
  go_enter Tryd.func10, Tryd.ntmps10
  go_wp2
  go_loopg [19] n (fun gg i wr => ∃ k : Nat, k ≤ n ∧ n - k ≤ gg ∧ i = .int .i64 k ∧ Aside (Below w.heap.size w wr))
  case atStart => exact ⟨0, Nat.zero_le _, by omega, rfl, Below.refl _ _⟩
  case round =>
    obtain ⟨k, hk, hgg, rfl, BW⟩ := hrel
    have hB := BW.out
    clear BW
    by_cases hlt : k < n
    · have hltz : (k : Int) < (n : Int) := by omega
      obtain ⟨x, hx⟩ : ∃ x, ls[k]? = some x := ⟨_, List.getElem?_eq_getElem (by have := HN.out; omega)⟩
      have hX := fun W (hB : Below w.heap.size w W) => HX.out x (List.mem_of_getElem? hx) W hB
      have hle := HLE.out x
      rcases HT.out with h0 | ⟨b, off, rfl, hb, hc⟩
      · rw [h0] at hx; simp at hx
      have c0 := (hB.cell (p := ⟨b, off + k, none⟩) hb).trans (hc k x hx)
      clear hc hx HX HLE HMG1 HMG2 HML
      have x1 := fun W hB => (hX W hB).1
      have x2 := fun W hB => (hX W hB).2.1
      have X3 : Aside ((faultL true x.es).1 = 0 → ∀ W, Below w.heap.size w W → (Calls Tryd.prog 44 #[.slice x.ad x.es.length x.cap, .string q] W fun r w' => r = .returned (.bool (hidesL x.es q.data.toList)) ∧ Below W.heap.size W w') ∧ (Calls Tryd.prog 45 #[.slice x.ad x.es.length x.cap, .string q] W fun r w' => r = .returned (.bool (hidesL x.es q.data.toList)) ∧ Below W.heap.size W w')) := fun h W hB => (hX W hB).2.2.1 h
      have x5 := fun W hB => (hX W hB).2.2.2.1
      have x6 := fun W hB => (hX W hB).2.2.2.2
      clear hX
      generalize (if overErr x.es t = 0 then overL x.es t else []) = lo at x5 x6 hle
      generalize overErr x.es t = er at x5 x6
      by_cases hf : (faultL true x.es).1 = 0
      · have x3 := fun W hB => (X3.out hf W hB).1
        have x4 := fun W hB => (X3.out hf W hB).2
        clear X3
        rw [hf] at x1 x2
        generalize ((faultL true x.es).2 : Int) = f2 at x1 x2
        generalize hidesL x.es q.data.toList = hd at x3 x4
        clear hf
        obtain ⟨xa, xc, xe⟩ := x
        simp only at x1 x2 x3 x4 x5 x6 c0
        obtain ⟨xn, hxn⟩ : ∃ xn, xn = xe.length := ⟨_, rfl⟩
        rw [← hxn] at x1 x2 x3 x4 x5 x6 c0
        clear hxn
        by_cases hq0 : q.data.toList = []
        · have hqe := empty_of hq0
          clear hcl
          go_wp2_with (first
            | (go_at_call 43; refine (x1 _ hB).mono ?_; clear x1; rintro rr w1 ⟨rfl, hN⟩; replace hB := Below.onto hB hN; clear hN)
            | (go_at_call 30; refine (x2 _ hB).mono ?_; rintro rr w2 ⟨rfl, hN⟩; replace hB := Below.onto hB hN; clear hN)
            | (go_at_call 44; refine (x3 _ hB).mono ?_; clear x3; rintro rr w4 ⟨rfl, hN⟩; replace hB := Below.onto hB hN; clear hN)
            | (go_at_call 45; refine (x4 _ hB).mono ?_; clear x4; rintro rr w5 ⟨rfl, hN⟩; replace hB := Below.onto hB hN; clear hN)
            | (go_at_call 46; refine (x5 _ hB).mono ?_; clear x5; rintro rr w6 ⟨pa, ca, rfl, hLa, hca, hna, hN⟩; replace hB := Below.onto hB hN; clear hN hca hna)
            | (go_at_call 47; refine (x6 _ hB).mono ?_; clear x6; rintro rr w7 ⟨pb, cb, rfl, hLb, hcb, hnb, hN⟩; replace hB := Below.onto hB hN; replace hLa := hLa.kept hN; clear hN hcb hnb)
            | (go_at_call 37; refine (same_any _ pa pb ca cb _ hLa hLb (by omega)).mono ?_; clear hLa hLb; rintro rr w8 ⟨rfl, hN⟩; replace hB := Below.onto hB hN; clear hN))
          go_roundg (n - (k + 1))
          case measure => omega
          case rel => exact ⟨k + 1, by omega, by omega, by go_num, hB⟩
        · have hqe := empty_not hq0
          cases hcc : clean q.data.toList with
          | true =>
            rw [hcc] at hcl
            go_wp2_with (first
              | (go_at_call 43; refine (x1 _ hB).mono ?_; clear x1; rintro rr w1 ⟨rfl, hN⟩; replace hB := Below.onto hB hN; clear hN)
              | (go_at_call 30; refine (x2 _ hB).mono ?_; rintro rr w2 ⟨rfl, hN⟩; replace hB := Below.onto hB hN; clear hN)
              | (go_at_call 17; refine (hcl _).mono ?_; rintro rr w3 ⟨rfl, hN⟩; replace hB := Below.onto hB hN; clear hN)
              | (go_at_call 44; refine (x3 _ hB).mono ?_; clear x3; rintro rr w4 ⟨rfl, hN⟩; replace hB := Below.onto hB hN; clear hN)
              | (go_at_call 45; refine (x4 _ hB).mono ?_; clear x4; rintro rr w5 ⟨rfl, hN⟩; replace hB := Below.onto hB hN; clear hN)
              | (go_at_call 46; refine (x5 _ hB).mono ?_; clear x5; rintro rr w6 ⟨pa, ca, rfl, hLa, hca, hna, hN⟩; replace hB := Below.onto hB hN; clear hN hca hna)
              | (go_at_call 47; refine (x6 _ hB).mono ?_; clear x6; rintro rr w7 ⟨pb, cb, rfl, hLb, hcb, hnb, hN⟩; replace hB := Below.onto hB hN; replace hLa := hLa.kept hN; clear hN hcb hnb)
              | (go_at_call 37; refine (same_any _ pa pb ca cb _ hLa hLb (by omega)).mono ?_; clear hLa hLb; rintro rr w8 ⟨rfl, hN⟩; replace hB := Below.onto hB hN; clear hN))
            go_roundg (n - (k + 1))
            case measure => omega
            case rel => exact ⟨k + 1, by omega, by omega, by go_num, hB⟩
          | false =>
            rw [hcc] at hcl
            clear x3 x4
            go_wp2_with (first
              | (go_at_call 43; refine (x1 _ hB).mono ?_; clear x1; rintro rr w1 ⟨rfl, hN⟩; replace hB := Below.onto hB hN; clear hN)
              | (go_at_call 30; refine (x2 _ hB).mono ?_; rintro rr w2 ⟨rfl, hN⟩; replace hB := Below.onto hB hN; clear hN)
              | (go_at_call 17; refine (hcl _).mono ?_; rintro rr w3 ⟨rfl, hN⟩; replace hB := Below.onto hB hN; clear hN)
              | (go_at_call 46; refine (x5 _ hB).mono ?_; clear x5; rintro rr w6 ⟨pa, ca, rfl, hLa, hca, hna, hN⟩; replace hB := Below.onto hB hN; clear hN hca hna)
              | (go_at_call 47; refine (x6 _ hB).mono ?_; clear x6; rintro rr w7 ⟨pb, cb, rfl, hLb, hcb, hnb, hN⟩; replace hB := Below.onto hB hN; replace hLa := hLa.kept hN; clear hN hcb hnb)
              | (go_at_call 37; refine (same_any _ pa pb ca cb _ hLa hLb (by omega)).mono ?_; clear hLa hLb; rintro rr w8 ⟨rfl, hN⟩; replace hB := Below.onto hB hN; clear hN))
            go_roundg (n - (k + 1))
            case measure => omega
            case rel => exact ⟨k + 1, by omega, by omega, by go_num, hB⟩
      · clear X3
        generalize (faultL true x.es).1 = f1 at x1 x2 hf
        generalize ((faultL true x.es).2 : Int) = f2 at x1 x2
        obtain ⟨xa, xc, xe⟩ := x
        simp only at x1 x2 x5 x6 c0
        obtain ⟨xn, hxn⟩ : ∃ xn, xn = xe.length := ⟨_, rfl⟩
        rw [← hxn] at x1 x2 x5 x6 c0
        clear hxn hcl
        go_wp2_with (first
          | (go_at_call 43; refine (x1 _ hB).mono ?_; clear x1; rintro rr w1 ⟨rfl, hN⟩; replace hB := Below.onto hB hN; clear hN)
          | (go_at_call 30; refine (x2 _ hB).mono ?_; rintro rr w2 ⟨rfl, hN⟩; replace hB := Below.onto hB hN; clear hN)
          | (go_at_call 46; refine (x5 _ hB).mono ?_; clear x5; rintro rr w6 ⟨pa, ca, rfl, hLa, hca, hna, hN⟩; replace hB := Below.onto hB hN; clear hN hca hna)
          | (go_at_call 47; refine (x6 _ hB).mono ?_; clear x6; rintro rr w7 ⟨pb, cb, rfl, hLb, hcb, hnb, hN⟩; replace hB := Below.onto hB hN; replace hLa := hLa.kept hN; clear hN hcb hnb)
          | (go_at_call 37; refine (same_any _ pa pb ca cb _ hLa hLb (by omega)).mono ?_; clear hLa hLb; rintro rr w8 ⟨rfl, hN⟩; replace hB := Below.onto hB hN; clear hN))
        go_roundg (n - (k + 1))
        case measure => omega
        case rel => exact ⟨k + 1, by omega, by omega, by go_num, hB⟩
    · have hltz : ¬ (k : Int) < (n : Int) := by omega
      have hm1 := HMG1.out
      have hm2 := HMG2.out
      have hle := HML.out
      clear HMG1 HMG2 HML HX HLE hcl
      generalize (mergeL (ls.map (·.es))).1 = er at hm1 hm2
      generalize (mergeL (ls.map (·.es))).2 = lo at hm1 hm2 hle
      go_wp2_with (first
        | (go_at_call 48; refine (hm1 _ hB).mono ?_; clear hm1; rintro rr w6 ⟨pa, ca, rfl, hLa, hca, hna, hN⟩; replace hB := Below.onto hB hN; clear hN hca hna)
        | (go_at_call 49; refine (hm2 _ hB).mono ?_; clear hm2; rintro rr w7 ⟨pb, cb, rfl, hLb, hcb, hnb, hN⟩; replace hB := Below.onto hB hN; replace hLa := hLa.kept hN; clear hN hcb hnb)
        | (go_at_call 37; refine (same_any _ pa pb ca cb _ hLa hLb (by omega)).mono ?_; clear hLa hLb; rintro rr w8 ⟨rfl, hN⟩; replace hB := Below.onto hB hN; clear hN))
      go_ret
      exact ⟨rfl, hB⟩
end Go.Proofs.YtampldoimpfjgaaDoor
