/-
  (*sys.opening).lock.
-/
import Derived.Test.YthfeoiffoeagkaaGreatDoorQA35
import Derived.Test.YthfeoiffoeagkaaGreatDoorShelfS
namespace Go.Proofs.YthfeoiffoeagkaaGreatDoor
open Go.RowKit PM Go.Sort
set_option linter.unusedVariables false
theorem rowsN {w : World} {base : Nat} {v : Value} {l : List LK.Lk} (h : LK.Rows w base v l) : ∃ p c, v = .slice p l.length c ∧ LK.Lies w p l ∧ l.length ≤ c ∧ (p = none → c = 0) ∧ ∀ b off s, p = some ⟨b, off, s⟩ → base ≤ b := by
 by_cases hv : v = .slice none 0 0
 ·have hl : l = [] := by
   obtain ⟨h1, ⟨_, h2⟩ | ⟨g, cap, cur, hv', _⟩⟩ := h
   ·exact List.eq_nil_of_length_eq_zero h2
   ·rw [hv'] at hv; cases hv
  subst hl
  exact ⟨none, 0, hv, LK.Lies.nil _ _, Nat.le_refl _, fun _ => rfl, nofun⟩
 ·obtain ⟨g, c, e, hg, ho⟩ := LK.Own.of_row h hv rfl
  exact ⟨_, c, e, ho.lies, ho.len, nofun, fun b off s e => (by cases e; exact hg)⟩
namespace PM
open Classical in
noncomputable def lockRes (free : Bool) (l : List LK.Lk) (x : LK.Lk) : Int × List LK.Lk := if h : ∃ r : Int × List LK.Lk, LK.KM.SetSpec free l x r.1 r.2 then Classical.choose h else (0, [])
theorem lockRes_eq {free : Bool} {l : List LK.Lk} {x : LK.Lk} {e : Int} {m : List LK.Lk} (h : LK.KM.SetSpec free l x e m) : e = (lockRes free l x).1 ∧ m = (lockRes free l x).2 := by
 have hx : ∃ r : Int × List LK.Lk, LK.KM.SetSpec free l x r.1 r.2 := ⟨(e, m), h⟩
 rw [lockRes, dif_pos hx]
 exact LK.KM.spec_unique h (Classical.choose_spec hx)
end PM
set_option maxRecDepth 100000 in
set_option maxHeartbeats 4000000 in
theorem sysLock_any {base : Nat} {W : World} {S : Nat} {s : Sy} {L : Lay6} (h : SysAt base W S s L) (g : FuncId) (eg : ∀ args w, (callFunc g args).run Tryz.prog w = .ok (.enter g args) w) (free : Bool) (hch : ∀ (Y : World) (l : List LK.Lk) (x : LK.Lk) (p : Option Addr) (cap : Nat), LK.Lies Y p l → l.length < 4611686018427387904 → l.length ≤ cap → Calls Tryz.prog g #[.slice p l.length cap, .agg #[.int .i64 x.o, .int .i64 x.f, .int .i64 x.t, .bool x.a]] Y (LK.ChangePost free l x Y)) (j : Nat) (o : Opn) (f : Fl) (ho : s.opens[j]? = some o) (hf : s.files[o.file]? = some f) (hlk : f.locks.length ≤ 1000) (ck co cf cn cm : Int) (cp ct cx : ByteArray) (ca : Bool) :
  Calls Tryz.prog 140 #[.pointer (some ⟨L.ob j, 0, none⟩), .agg #[.int .i64 ck, .int .i64 co, .int .i64 cf, .int .i64 cn, .int .i64 cm, .string cp, .string ct, .string cx, .bool ca], .func (.func g) #[] #[]] W (StepPost base S s L (lockRes free f.locks ⟨co, cn, cm, ca⟩).1 (s.setF o.file { f with locks := (lockRes free f.locks ⟨co, cn, cm, ca⟩).2 }) (ans 0 ⟨#[]⟩) W) := by
 obtain ⟨X, hX⟩ : ∃ X, (W.alloc (.cells #[.pointer (some ⟨L.ob j, 0, none⟩)] 78)).alloc (.cells #[.int .i64 ck, .int .i64 co, .int .i64 cf, .int .i64 cn, .int .i64 cm, .string cp, .string ct, .string cx, .bool ca] 50) = X := ⟨_, rfl⟩
 have hBX : Below W.heap.size W X := by rw [← hX]; exact ((Below.refl _ _).alloc (Nat.le_refl _) _).alloc (by simp) _
 have hsX : X.heap.size = W.heap.size + 2 := by rw [← hX]; simp
 have hk := h.kept hBX
 obtain ⟨⟨c0, _, _⟩, _⟩ := hk.ocells ho
 obtain ⟨⟨_, _, g2⟩, _, _, fz⟩ := hk.fcells hf
 have hi := (List.getElem?_eq_some_iff.1 hf).1
 have hj := (List.getElem?_eq_some_iff.1 ho).1
 have hFX := hk.flt hi
 have hOX := hk.olt hj
 have hFW := h.flt hi
 have hOW := h.olt hj
 have hPX : W.heap.size < X.heap.size := by omega
 have hCX : W.heap.size + 1 < X.heap.size := by omega
 have b0 : X.cell? ⟨W.heap.size, 0, none⟩ = some (.pointer (some ⟨L.ob j, 0, none⟩)) := by simp [World.cell?, box1_new hX]
 have k1 : X.cell? ⟨W.heap.size + 1, 1, none⟩ = some (.int .i64 co) := by simp [World.cell?, box2_new hX]
 have k3 : X.cell? ⟨W.heap.size + 1, 3, none⟩ = some (.int .i64 cn) := by simp [World.cell?, box2_new hX]
 have k4 : X.cell? ⟨W.heap.size + 1, 4, none⟩ = some (.int .i64 cm) := by simp [World.cell?, box2_new hX]
 have k8 : X.cell? ⟨W.heap.size + 1, 8, none⟩ = some (.bool ca) := by simp [World.cell?, box2_new hX]
 have hd := hk.data.now.locks o.file f hf
 obtain ⟨fb, hfb⟩ : ∃ fb, fb = L.fb o.file := ⟨_, rfl⟩
 obtain ⟨lp, hlp⟩ : ∃ lp, lp = (L.lp o.file).1 := ⟨_, rfl⟩
 obtain ⟨lc, hlc⟩ : ∃ lc, lc = (L.lp o.file).2 := ⟨_, rfl⟩
 obtain ⟨n0, hn0⟩ : ∃ n0, n0 = f.locks.length := ⟨_, rfl⟩
 obtain ⟨er, her⟩ : ∃ er, er = (lockRes free f.locks ⟨co, cn, cm, ca⟩).1 := ⟨_, rfl⟩
 obtain ⟨ml, hml⟩ : ∃ ml, ml = (lockRes free f.locks ⟨co, cn, cm, ca⟩).2 := ⟨_, rfl⟩
 obtain ⟨n, hn⟩ : ∃ n, n = ml.length := ⟨_, rfl⟩
 rw [← hfb, ← hlp, ← hlc, ← hn0] at g2
 rw [← hfb] at c0 hFX hFW
 rw [← hlp, ← hlc] at hd
 have hpt : ∀ Y, Below X.heap.size X Y → Calls Tryz.prog g #[.slice lp n0 lc, .agg #[.int .i64 co, .int .i64 cn, .int .i64 cm, .bool ca]] Y (fun r w' => ∃ p c, r = .returned (.tuple #[.slice p n c, .int .i64 er]) ∧ Aside (LK.Lies w' p ml ∧ ml.length ≤ c ∧ (p = none → c = 0) ∧ (∀ b off s, p = some ⟨b, off, s⟩ → Y.heap.size ≤ b) ∧ Below Y.heap.size Y w')) := fun Y hY => by
  have := hch Y f.locks ⟨co, cn, cm, ca⟩ lp lc (hd.1.kept hY) (by omega) hd.2.1
  rw [← hn0] at this
  refine this.mono fun r w' ⟨v, err, m, e, hr, hs, hB⟩ => ?_
  obtain ⟨e1, e2⟩ := lockRes_eq hs
  obtain ⟨p, c, ev, q1, q2, q3, q4⟩ := rowsN hr
  subst ev
  rw [e1, ← her] at e
  rw [e2, ← hml] at e q1 q2
  exact ⟨p, c, by rw [e, hn], q1, q2, q3, q4, hB⟩
 have HA : Aside (SysAt base W S s L ∧ s.opens[j]? = some o ∧ s.files[o.file]? = some f ∧ fb = L.fb o.file ∧ n = ml.length ∧ Below W.heap.size W X) := ⟨h, ho, hf, hfb, hn, hBX⟩
 rw [← her, ← hml]
 have HX : Aside ((W.alloc (.cells #[.pointer (some ⟨L.ob j, 0, none⟩)] 78)).alloc (.cells #[.int .i64 ck, .int .i64 co, .int .i64 cf, .int .i64 cn, .int .i64 cm, .string cp, .string ct, .string cx, .bool ca] 50) = X) := hX
 have n1 := World.new_ne X ⟨W.heap.size, 0, none⟩ b0
 have n2 := World.new_ne X ⟨W.heap.size + 1, 1, none⟩ k1
 have n3 := World.new_ne X ⟨L.ob j, 0, none⟩ c0
 have n4 := World.new_ne X ⟨fb, 2, none⟩ g2
 clear h ho hf hfb hn hBX hk hd hlp hlc hn0 her hml hX hi hj hch fz
 have hnl : ¬ fb = W.heap.size := by omega
 clear hsX
 go_enter Tryz.func140, Tryz.ntmps140
 go_wp2
 rw [HX.out]
 by_cases hz : er = 0
 ·subst hz
  go_region_held3 (fun w' => w'.cell? ⟨W.heap.size, 0, none⟩ = some (.pointer (some ⟨L.ob j, 0, none⟩)) ∧ w'.cell? ⟨L.ob j, 0, none⟩ = some (.pointer (some ⟨fb, 0, none⟩)) ∧ w'.cell? ⟨fb, 2, none⟩ = some (.slice lp n0 lc) ∧ w'.cell? ⟨(W.heap.size + 1), 1, none⟩ = some (.int .i64 co) ∧ w'.cell? ⟨(W.heap.size + 1), 3, none⟩ = some (.int .i64 cn) ∧ w'.cell? ⟨(W.heap.size + 1), 4, none⟩ = some (.int .i64 cm) ∧ w'.cell? ⟨(W.heap.size + 1), 8, none⟩ = some (.bool ca)) (go_keep) (first
   | (go_at_fn g; refine (Calls.mono (hpt _ (Below.refl _ _).drew) ?_); clear hpt; rintro r w7 ⟨p, c, rfl, H7⟩; have hB7 : Below X.heap.size X w7 := ((Below.refl _ _).drew).trans H7.out.2.2.2.2; have z0 := (hB7.cell (p := ⟨W.heap.size, 0, none⟩) hPX).trans b0; have z1 := (hB7.cell (p := ⟨L.ob j, 0, none⟩) hOX).trans c0; have z2 := (hB7.cell (p := ⟨fb, 2, none⟩) hFX).trans g2; have z3 := (hB7.cell (p := ⟨(W.heap.size + 1), 1, none⟩) hCX).trans k1; have z4 := (hB7.cell (p := ⟨(W.heap.size + 1), 3, none⟩) hCX).trans k3; have z5 := (hB7.cell (p := ⟨(W.heap.size + 1), 4, none⟩) hCX).trans k4; have z6 := (hB7.cell (p := ⟨(W.heap.size + 1), 8, none⟩) hCX).trans k8)
   | (go_at_fn g; refine (Calls.mono (hpt _ (((Below.refl _ _).alloc (Nat.le_refl _) _).drew)) ?_); clear hpt; rintro r w7 ⟨p, c, rfl, H7⟩; have hB7 : Below X.heap.size X w7 := (((Below.refl _ _).alloc (Nat.le_refl _) _).drew).trans (H7.out.2.2.2.2.mono (by rw [show ∀ o, (X.alloc o).drew.heap.size = X.heap.size + 1 from fun o => World.size_alloc X o]; omega)); have z0 := (hB7.cell (p := ⟨W.heap.size, 0, none⟩) hPX).trans b0; have z1 := (hB7.cell (p := ⟨L.ob j, 0, none⟩) hOX).trans c0; have z2 := (hB7.cell (p := ⟨fb, 2, none⟩) hFX).trans g2; have z3 := (hB7.cell (p := ⟨(W.heap.size + 1), 1, none⟩) hCX).trans k1; have z4 := (hB7.cell (p := ⟨(W.heap.size + 1), 3, none⟩) hCX).trans k3; have z5 := (hB7.cell (p := ⟨(W.heap.size + 1), 4, none⟩) hCX).trans k4; have z6 := (hB7.cell (p := ⟨(W.heap.size + 1), 8, none⟩) hCX).trans k8; have x0 : w7.cell? ⟨X.heap.size, 0, none⟩ = some (.slice none 0 0) := (H7.out.2.2.2.2.cell (p := ⟨X.heap.size, 0, none⟩) (by show X.heap.size < _; rw [show ∀ o, (X.alloc o).drew.heap.size = X.heap.size + 1 from fun o => World.size_alloc X o]; omega)).trans (by simp); have f0 : w7.frozen? ⟨X.heap.size, 0, none⟩ = false := (H7.out.2.2.2.2.frozen (p := ⟨X.heap.size, 0, none⟩) (by show X.heap.size < _; rw [show ∀ o, (X.alloc o).drew.heap.size = X.heap.size + 1 from fun o => World.size_alloc X o]; omega)).trans (by simp)))
  ·have HF : Aside (StepPost base S s L 0 (s.setF o.file { f with locks := ml }) (ans 0 ⟨#[]⟩) W (.returned (.tuple #[.func (.func 191) #[] #[.pointer (some ⟨w7.heap.size, 0, none⟩), .pointer (some ⟨W.heap.size, 0, none⟩)], .int .i64 0])) (w7.alloc (.cells #[.slice p n c] 60))) := by
    obtain ⟨r1, r2, r3, r4, r5⟩ := H7.out
    obtain ⟨h, ho, hf, hfb, hn, hBX⟩ := HA.out
    have hB8 : Below w7.heap.size w7 (w7.alloc (.cells #[.slice p n c] 60)) := ((Grown.refl w7).alloc _).below
    have hBf : Below W.heap.size W (w7.alloc (.cells #[.slice p n c] 60)) := Below.onto (Below.onto hBX hB7) hB8
    have h7 := hB7.size
    refine ⟨_, rfl, hBf, fun _ => ⟨_, _, rfl, enters_of Tryz.func191 (by kernel_rfl) rfl, lockDo (h.kept hBf) w7.heap.size W.heap.size j o f ho hf ml p n c hn (by simp) ((hB8.cell (p := ⟨W.heap.size, 0, none⟩) (by show W.heap.size < _; omega)).trans z0) (St.on (LLies.st r1 (fun b off s' e hsp => ?_)) (Keep.of_below _ hB8)) r2 r3 (by rw [← hfb]; omega) (by rw [← hfb]; exact hnl)⟩⟩
    have h1 := r4 b off s' e
    have h2 := (h.spBase hsp).2
    have h3 : X.drew.heap.size = X.heap.size := rfl
    omega
   clear H7 hB7
   go_wp2
   go_ret2
   exact HF.out
  ·have HF : Aside (StepPost base S s L 0 (s.setF o.file { f with locks := ml }) (ans 0 ⟨#[]⟩) W (.returned (.tuple #[.func (.func 191) #[] #[.pointer (some ⟨X.heap.size, 0, none⟩), .pointer (some ⟨W.heap.size, 0, none⟩)], .int .i64 0])) (w7.setCell ⟨X.heap.size, 0, none⟩ (.slice p n c))) := by
    obtain ⟨r1, r2, r3, r4, r5⟩ := H7.out
    obtain ⟨h, ho, hf, hfb, hn, hBX⟩ := HA.out
    have hB8 : Below X.heap.size X (w7.setCell ⟨X.heap.size, 0, none⟩ (.slice p n c)) := hB7.setCell (p := ⟨X.heap.size, 0, none⟩) (Nat.le_refl _) _
    have hBf : Below W.heap.size W (w7.setCell ⟨X.heap.size, 0, none⟩ (.slice p n c)) := Below.onto hBX hB8
    have h7 := hB7.size
    have hsz1 : ∀ o, (X.alloc o).drew.heap.size = X.heap.size + 1 := fun o => World.size_alloc X o
    have hbx : w7.heap[X.heap.size]? = some (.cells #[.slice none 0 0] 60) := (r5.block _ (by rw [hsz1]; omega)).trans (heap_alloc_last X _)
    have k2 := heap_setS hbx 0 (.slice p n c)
    have hst : St (fun b => Sp S s L b ∨ b = X.heap.size) w7 (fun X => LK.Lies X p ml) := LLies.st r1 (fun b off s' e hsp => by
     have h1 := r4 b off s' e
     rw [hsz1] at h1
     rcases hsp with hsp | rfl
     ·have h2 := (h.spBase hsp).2; omega
     ·omega)
    exact ⟨_, rfl, hBf, fun _ => ⟨_, _, rfl, enters_of Tryz.func191 (by kernel_rfl) rfl, lockDo (h.kept hBf) X.heap.size W.heap.size j o f ho hf ml p n c hn (by simp [World.cell?, k2]) ((hB8.cell (p := ⟨W.heap.size, 0, none⟩) (by show W.heap.size < _; omega)).trans b0) (St.more (St.on hst (Keep.set (.inr rfl) _ 0 _)) (fun b _ hb => .inl hb)) r2 r3 (by rw [← hfb]; omega) (by rw [← hfb]; exact hnl)⟩⟩
   clear H7 hB7
   go_wp2
   go_ret2
   exact HF.out
 ·have hne : (er != 0) = true := by simpa using hz
  go_region_held3 (fun w' => w'.cell? ⟨W.heap.size, 0, none⟩ = some (.pointer (some ⟨L.ob j, 0, none⟩)) ∧ w'.cell? ⟨L.ob j, 0, none⟩ = some (.pointer (some ⟨fb, 0, none⟩)) ∧ w'.cell? ⟨fb, 2, none⟩ = some (.slice lp n0 lc) ∧ w'.cell? ⟨(W.heap.size + 1), 1, none⟩ = some (.int .i64 co) ∧ w'.cell? ⟨(W.heap.size + 1), 3, none⟩ = some (.int .i64 cn) ∧ w'.cell? ⟨(W.heap.size + 1), 4, none⟩ = some (.int .i64 cm) ∧ w'.cell? ⟨(W.heap.size + 1), 8, none⟩ = some (.bool ca)) (go_keep) (first
   | (go_at_fn g; refine (Calls.mono (hpt _ (Below.refl _ _).drew) ?_); clear hpt; rintro r w7 ⟨p, c, rfl, H7⟩; have hB7 : Below X.heap.size X w7 := ((Below.refl _ _).drew).trans H7.out.2.2.2.2; have z0 := (hB7.cell (p := ⟨W.heap.size, 0, none⟩) hPX).trans b0; have z1 := (hB7.cell (p := ⟨L.ob j, 0, none⟩) hOX).trans c0; have z2 := (hB7.cell (p := ⟨fb, 2, none⟩) hFX).trans g2; have z3 := (hB7.cell (p := ⟨(W.heap.size + 1), 1, none⟩) hCX).trans k1; have z4 := (hB7.cell (p := ⟨(W.heap.size + 1), 3, none⟩) hCX).trans k3; have z5 := (hB7.cell (p := ⟨(W.heap.size + 1), 4, none⟩) hCX).trans k4; have z6 := (hB7.cell (p := ⟨(W.heap.size + 1), 8, none⟩) hCX).trans k8)
   | (go_at_fn g; refine (Calls.mono (hpt _ (((Below.refl _ _).alloc (Nat.le_refl _) _).drew)) ?_); clear hpt; rintro r w7 ⟨p, c, rfl, H7⟩; have hB7 : Below X.heap.size X w7 := (((Below.refl _ _).alloc (Nat.le_refl _) _).drew).trans (H7.out.2.2.2.2.mono (by rw [show ∀ o, (X.alloc o).drew.heap.size = X.heap.size + 1 from fun o => World.size_alloc X o]; omega)); have z0 := (hB7.cell (p := ⟨W.heap.size, 0, none⟩) hPX).trans b0; have z1 := (hB7.cell (p := ⟨L.ob j, 0, none⟩) hOX).trans c0; have z2 := (hB7.cell (p := ⟨fb, 2, none⟩) hFX).trans g2; have z3 := (hB7.cell (p := ⟨(W.heap.size + 1), 1, none⟩) hCX).trans k1; have z4 := (hB7.cell (p := ⟨(W.heap.size + 1), 3, none⟩) hCX).trans k3; have z5 := (hB7.cell (p := ⟨(W.heap.size + 1), 4, none⟩) hCX).trans k4; have z6 := (hB7.cell (p := ⟨(W.heap.size + 1), 8, none⟩) hCX).trans k8; have x0 : w7.cell? ⟨X.heap.size, 0, none⟩ = some (.slice none 0 0) := (H7.out.2.2.2.2.cell (p := ⟨X.heap.size, 0, none⟩) (by show X.heap.size < _; rw [show ∀ o, (X.alloc o).drew.heap.size = X.heap.size + 1 from fun o => World.size_alloc X o]; omega)).trans (by simp); have f0 : w7.frozen? ⟨X.heap.size, 0, none⟩ = false := (H7.out.2.2.2.2.frozen (p := ⟨X.heap.size, 0, none⟩) (by show X.heap.size < _; rw [show ∀ o, (X.alloc o).drew.heap.size = X.heap.size + 1 from fun o => World.size_alloc X o]; omega)).trans (by simp)))
  ·have HF : Aside (Below W.heap.size W (w7.alloc (.cells #[.slice p n c] 60))) := by
    have h1 := Below.onto HA.out.2.2.2.2.2 hB7
    exact h1.alloc h1.size _
   clear H7 hB7
   go_wp2
   go_ret2
   exact StepPost.no _ hz HF.out
  ·have HF : Aside (Below W.heap.size W (w7.setCell ⟨X.heap.size, 0, none⟩ (.slice p n c))) := Below.onto HA.out.2.2.2.2.2 (hB7.setCell (p := ⟨X.heap.size, 0, none⟩) (Nat.le_refl _) _)
   clear H7 hB7
   go_wp2
   go_ret2
   exact StepPost.no _ hz HF.out
namespace PM
def sizedL (t : ByteArray) (n : Int) : ByteArray := t.extract 0 (min n t.size).toNat ++ ⟨(Lib.repeatL [0] (max 0 (n - t.size)).toNat).toArray⟩
theorem repeatL_len (c : Nat) : (Lib.repeatL ([0] : List UInt8) c).length = c := by
 induction c with
 | zero => rfl
 | succ c ih => simp [Lib.repeatL] at ih ⊢; try omega
theorem sizedL_size (t : ByteArray) (n : Int) (h0 : 0 ≤ n) : ((sizedL t n).size : Int) = n := by
 have h1 : (ByteArray.mk (Lib.repeatL ([0] : List UInt8) (max 0 (n - t.size)).toNat).toArray).size = (max 0 (n - t.size)).toNat := by
  show (Lib.repeatL ([0] : List UInt8) (max 0 (n - t.size)).toNat).toArray.size = _
  rw [List.size_toArray, repeatL_len]
 unfold sizedL
 rw [ByteArray.size_append, h1, ByteArray.size_extract]
 omega
end PM
theorem sized_any (t : ByteArray) (n : Int) (h0 : 0 ≤ n) (h1 : n ≤ 1000) (ht : t.size ≤ 1000) (w : World) : Calls Tryz.prog 198 #[.string t, .int .i64 n] w fun r w' => r = .returned (.string (sizedL t n)) ∧ Below w.heap.size w w' := by
 have hc : (((max 0 (n - t.size)).toNat : Nat) : Int) = max 0 (n - t.size) := Int.toNat_of_nonneg (by omega)
 have hr := fun Y => Tryz.strings_Repeat ⟨#[0]⟩ (max 0 (n - t.size)).toNat Y (by omega) (by show 1 * _ ≤ _; omega)
 simp only [hc] at hr
 obtain ⟨R, hR⟩ : ∃ R : ByteArray, R = ⟨(Lib.repeatL (ByteArray.mk #[0]).data.toList (max 0 (n - t.size)).toNat).toArray⟩ := ⟨_, rfl⟩
 have HZ : Aside (sizedL t n = t.extract 0 (min n t.size).toNat ++ R) := by rw [hR]; exact rfl
 have hRs : R.size ≤ 1000 := by
  rw [hR]
  show (Lib.repeatL ([0] : List UInt8) (max 0 (n - t.size)).toNat).toArray.size ≤ _
  rw [List.size_toArray, repeatL_len]; omega
 simp only [← hR] at hr
 clear hc hR
 have m0 : (0 : Int) ≤ min n t.size := by omega
 have m1 : min n (t.size : Int) ≤ t.size := by omega
 obtain ⟨E, hE⟩ : ∃ E, t.extract 0 (min n t.size).toNat = E := ⟨_, rfl⟩
 have hEs : E.size ≤ 1000 := by rw [← hE, ByteArray.size_extract]; omega
 have hc1 : (9223372036854775807 < E.size + R.size) = False := eq_false (by omega)
 have hc2 : (IntKind.i64.max < ((E.size + R.size : Nat) : Int)) = False := eq_false (by have : IntKind.i64.max = 9223372036854775807 := rfl; omega)
 have m2 : IntKind.i64.wrap (n - t.size) = n - t.size := by rw [IntKind.wrap_i64]; omega
 go_enter Tryz.func198, Tryz.ntmps198
 go_wp2
 go_region_held3 (fun w' => w.heap.size ≤ w'.heap.size) (go_keep) (first | (go_at_call 232; refine (hr _).mono ?_; clear hr; rintro r w3 ⟨rfl, hB3⟩; have hB4 : Below w.heap.size w w3 := ((Below.refl _ _).drew).trans hB3; have hs3 := hB4.size))
 all_goals
  go_wp2
  go_ret
  exact ⟨by rw [HZ.out, hE]; rfl, hB4⟩
end Go.Proofs.YthfeoiffoeagkaaGreatDoor
