/- Words and walks that the laws below ask: SchO. -/
import Derived.Test.YtldillnjnjkkgaaGreatDoorPk7
import Derived.Test.YtldillnjnjkkgaaGreatDoorPk12
import Derived.Test.YtldillnjnjkkgaaGreatDoorPk13
/- Walk of the law ScheduleDiffers. -/
namespace Go.Proofs.YtldillnjnjkkgaaGreatDoor
open Go.RowKit Go.Shelf
set_option linter.unusedSimpArgs false
set_option linter.unusedVariables false

theorem RowL.at1 {w : World} {A : Option Addr} {n c : Nat} {L : List Int} (h : RowL 1 encI1 w (.slice A n c) L) {k : Nat} {y : Int} (hk : L[k]? = some y) : ∃ b o, A = some ⟨b, o, none⟩ ∧ b < w.heap.size ∧ w.cell? ⟨b, o + k, none⟩ = some (.int .i64 y) := by
  obtain ⟨hlt, rfl⟩ := List.getElem?_eq_some_iff.1 hk
  obtain ⟨b, o, h1, h2, h3⟩ := h.at rfl hlt
  exact ⟨b, o, h1, h2, by have := h3 0 _ rfl; rwa [Nat.mul_one, Nat.add_zero] at this⟩
theorem difL_len (a b : List FV) (car : ByteArray) (num : Int) (q : Int × Int × Int) : (difL a b car num (Per.daysQ q)).length ≤ 1000000 := by
  have h1 := difL_le a b car num (Per.daysQ q)
  have h2 := Per.daysQ_len q
  omega
set_option maxRecDepth 100000 in
set_option maxHeartbeats 8000000 in
theorem scheduleDiffers_walk (A : Option Addr) (c : Nat) (a : List FV) (B : Option Addr) (d : Nat) (b : List FV) (q : AskV) (y : Int × Int × Int) (w : World)
    (ha : TblL w (.slice A a.length c) a) (hb : TblL w (.slice B b.length d) b) (oa : ∀ f ∈ a, OkFl f) (ob : ∀ f ∈ b, OkFl f) (la : a.length < 9223372036854775808) (lb : b.length < 9223372036854775808) (oq : OkAsk q)
    (hy : -9223372036854775808 ≤ y.1 ∧ y.1 ≤ 9223372036854775807) :
    Calls Tryz.prog 8 #[.agg #[.slice A a.length c, .slice B b.length d], encAsk q, .agg #[.int .i64 y.1, .int .i64 y.2.1, .int .i64 y.2.2]] w fun e w' => e = .returned (.bool true) ∧ Below w.heap.size w w' := by
  obtain ⟨qf, qt, qd⟩ := y
  dsimp only at *
  have hb1 := bel_alloc w (.cells #[.slice A a.length c, .slice B b.length d] 68)
  have hb2 := bel_alloc (w.alloc (.cells #[.slice A a.length c, .slice B b.length d] 68)) (.cells #[.string q.car, .int .i64 q.num, .int .i64 q.day, .string q.f, .string q.t] 46)
  have hb3 := bel_alloc ((w.alloc (.cells #[.slice A a.length c, .slice B b.length d] 68)).alloc (.cells #[.string q.car, .int .i64 q.num, .int .i64 q.day, .string q.f, .string q.t] 46)) (.cells #[.int .i64 qf, .int .i64 qt, .int .i64 qd] 23)
  have hs2 := hb2.trans (hb3.mono hb2.size)
  have hb0 := hb1.trans (hs2.mono hb1.size)
  have p0 := bel_cell hs2 ((cells_new w #[.slice A a.length c, .slice B b.length d] 68 0).trans (show _ = some (Value.slice A a.length c) from rfl))
  have p1 := bel_cell hs2 ((cells_new w #[.slice A a.length c, .slice B b.length d] 68 1).trans (show _ = some (Value.slice B b.length d) from rfl))
  have q0 := bel_cell hb3 ((cells_new (w.alloc (.cells #[.slice A a.length c, .slice B b.length d] 68)) #[.string q.car, .int .i64 q.num, .int .i64 q.day, .string q.f, .string q.t] 46 0).trans (show _ = some (Value.string q.car) from rfl))
  have q1 := bel_cell hb3 ((cells_new (w.alloc (.cells #[.slice A a.length c, .slice B b.length d] 68)) #[.string q.car, .int .i64 q.num, .int .i64 q.day, .string q.f, .string q.t] 46 1).trans (show _ = some (Value.int .i64 q.num) from rfl))
  have q2 := bel_cell hb3 ((cells_new (w.alloc (.cells #[.slice A a.length c, .slice B b.length d] 68)) #[.string q.car, .int .i64 q.num, .int .i64 q.day, .string q.f, .string q.t] 46 2).trans (show _ = some (Value.int .i64 q.day) from rfl))
  have q3 := bel_cell hb3 ((cells_new (w.alloc (.cells #[.slice A a.length c, .slice B b.length d] 68)) #[.string q.car, .int .i64 q.num, .int .i64 q.day, .string q.f, .string q.t] 46 3).trans (show _ = some (Value.string q.f) from rfl))
  have q4 := bel_cell hb3 ((cells_new (w.alloc (.cells #[.slice A a.length c, .slice B b.length d] 68)) #[.string q.car, .int .i64 q.num, .int .i64 q.day, .string q.f, .string q.t] 46 4).trans (show _ = some (Value.string q.t) from rfl))
  have r0 := (cells_new ((w.alloc (.cells #[.slice A a.length c, .slice B b.length d] 68)).alloc (.cells #[.string q.car, .int .i64 q.num, .int .i64 q.day, .string q.f, .string q.t] 46)) #[.int .i64 qf, .int .i64 qt, .int .i64 qd] 23 0).trans (show _ = some (Value.int .i64 qf) from rfl)
  have r1 := (cells_new ((w.alloc (.cells #[.slice A a.length c, .slice B b.length d] 68)).alloc (.cells #[.string q.car, .int .i64 q.num, .int .i64 q.day, .string q.f, .string q.t] 46)) #[.int .i64 qf, .int .i64 qt, .int .i64 qd] 23 1).trans (show _ = some (Value.int .i64 qt) from rfl)
  have r2 := (cells_new ((w.alloc (.cells #[.slice A a.length c, .slice B b.length d] 68)).alloc (.cells #[.string q.car, .int .i64 q.num, .int .i64 q.day, .string q.f, .string q.t] 46)) #[.int .i64 qf, .int .i64 qt, .int .i64 qd] 23 2).trans (show _ = some (Value.int .i64 qd) from rfl)
  simp only [World.size_alloc] at q0 q1 q2 q3 q4 r0 r1 r2
  have HA := Lib.hid (ha.more hb0)
  have HB := Lib.hid (hb.more hb0)
  have HLA := Lib.hid la
  have HLB := Lib.hid lb
  clear ha hb la lb hb1 hb2 hb3 hs2
  go_enter Tryz.func8, Tryz.ntmps8
  go_upto_region 1 with fail
  generalize hw5 : ((w.alloc (.cells #[.slice A a.length c, .slice B b.length d] 68)).alloc (.cells #[.string q.car, .int .i64 q.num, .int .i64 q.day, .string q.f, .string q.t] 46)).alloc (.cells #[.int .i64 qf, .int .i64 qt, .int .i64 qd] 23) = w5 at *
  clear hw5
  have Fp0 := Lib.hid (bel_get p0)
  have Fp1 := Lib.hid (bel_get p1)
  have Fq0 := Lib.hid (bel_get q0)
  have Fq1 := Lib.hid (bel_get q1)
  have Fq2 := Lib.hid (bel_get q2)
  have Fq3 := Lib.hid (bel_get q3)
  have Fq4 := Lib.hid (bel_get q4)
  have Fr0 := Lib.hid (bel_get r0)
  have Fr1 := Lib.hid (bel_get r1)
  have Fr2 := Lib.hid (bel_get r2)
  clear p0 p1 q0 q1 q2 q3 q4 r0 r1 r2
  have KW : Hid (∀ W, SW w5 W → Calls Tryz.prog 25 #[] W fun e w' => e = .returned (.bool true) ∧ SW w5 w') := Lib.hid (SW.call (fun W h => knows_any W))
  have KA : Hid (∀ W, SW w5 W → Calls Tryz.prog 36 #[.agg #[.slice none 0 0, .slice none 0 0], .slice A a.length c] W fun e w' => ∃ v : Value, e = .returned v ∧ Hid (v = .bool true ∨ (v = .bool false ∧ SmallT pZ a)) ∧ SW w5 w') := Lib.hid (fun W h => (big8_any pZ (.slice A a.length c) a W (HA.out.more h) HLA.out (fun f hf => (oa f hf).len) (by decide) (by decide)).mono (by rintro e w' ⟨v, rfl, hv, hb⟩; exact ⟨v, rfl, hv, Below.trans h (Below.mono hb h.size)⟩))
  have KB : Hid (∀ W, SW w5 W → Calls Tryz.prog 36 #[.agg #[.slice none 0 0, .slice none 0 0], .slice B b.length d] W fun e w' => ∃ v : Value, e = .returned v ∧ Hid (v = .bool true ∨ (v = .bool false ∧ SmallT pZ b)) ∧ SW w5 w') := Lib.hid (fun W h => (big8_any pZ (.slice B b.length d) b W (HB.out.more h) HLB.out (fun f hf => (ob f hf).len) (by decide) (by decide)).mono (by rintro e w' ⟨v, rfl, hv, hb⟩; exact ⟨v, rfl, hv, Below.trans h (Below.mono hb h.size)⟩))
  have hS : SW w5 w5 := Below.refl _ _
  have kp0 := Fp0.out _ hS
  have kp1 := Fp1.out _ hS
  go_wp2_with (go_at_call 36; with_reducible refine (KA.out _ hS).mono ?_; rintro e w1 ⟨v1, rfl, hv1, hS⟩; refine Hid.out ?_)
  rcases hv1.out with rfl | ⟨rfl, smA⟩
  · refine Lib.hid ?_
    go_wp2_with (go_at_call 25; refine (KW.out _ hS).mono ?_; rintro e w9 ⟨rfl, hS⟩)
    go_ret
    exact ⟨rfl, hb0.trans (Below.mono hS hb0.size)⟩
  clear hv1 kp0 kp1
  have kp0 := Fp0.out _ hS
  have kp1 := Fp1.out _ hS
  refine Lib.hid ?_
  go_wp2_with (go_at_call 36; with_reducible refine (KB.out _ hS).mono ?_; rintro e w2 ⟨v2, rfl, hv2, hS⟩; refine Hid.out ?_)
  rcases hv2.out with rfl | ⟨rfl, smB⟩
  · refine Lib.hid ?_
    go_wp2_with (go_at_call 25; refine (KW.out _ hS).mono ?_; rintro e w9 ⟨rfl, hS⟩)
    go_ret
    exact ⟨rfl, hb0.trans (Below.mono hS hb0.size)⟩
  clear hv2 kp0 kp1 KA KB
  have na : ∀ f ∈ a, f.lg.length ≤ 1000 := fun f hf => by have := (smA.2 f hf).1; omega
  have nb : ∀ f ∈ b, f.lg.length ≤ 1000 := fun f hf => by have := (smB.2 f hf).1; omega
  have l1 : a.length ≤ 1000 := by have := smA.1; omega
  have l2 : b.length ≤ 1000 := by have := smB.1; omega
  obtain ⟨DL, hDL⟩ : ∃ DL, DL = difL a b q.car q.num (Per.daysQ (qf, qt, qd)) := ⟨_, rfl⟩
  have hdl : DL.length ≤ 1000000 := by rw [hDL]; exact difL_len _ _ _ _ _
  have HDLl := Lib.hid hdl
  clear hdl
  have hdl := HDLl.out
  have K1 : Hid (∀ W, SW w5 W → Calls Tryz.prog 37 #[.slice A a.length c, .slice B b.length d, .string q.car, .int .i64 q.num, .agg #[.int .i64 qf, .int .i64 qt, .int .i64 qd]] W fun e w' => ∃ A' c', e = .returned (.slice A' DL.length c') ∧ RowL 1 encI1 w' (.slice A' DL.length c') DL ∧ Below W.heap.size W w') := Lib.hid (fun W h => by
    have h1 := differ_any (.slice A a.length c) (.slice B b.length d) a b q.car q.num (qf, qt, qd) W (HA.out.more h) (HB.out.more h) l1 l2 na nb hy.1 hy.2
    rw [← hDL] at h1
    exact h1.mono (by rintro e w' ⟨r, rfl, hr, hb⟩; obtain ⟨A', c', rfl, hrc⟩ := id hr; exact ⟨A', c', rfl, hr, hb⟩))
  have K2 : Hid (∀ W, SW w5 W → Calls Tryz.prog 38 #[.slice A a.length c, .slice B b.length d, .string q.car, .int .i64 q.num, .agg #[.int .i64 qf, .int .i64 qt, .int .i64 qd]] W fun e w' => ∃ A' c', e = .returned (.slice A' DL.length c') ∧ RowL 1 encI1 w' (.slice A' DL.length c') DL ∧ Below W.heap.size W w') := Lib.hid (fun W h => by
    have h1 := rdiffer_any (.slice A a.length c) (.slice B b.length d) a b q.car q.num (qf, qt, qd) W (HA.out.more h) (HB.out.more h) l1 l2 na nb hy.1 hy.2
    rw [← hDL] at h1
    exact h1.mono (by rintro e w' ⟨r, rfl, hr, hb⟩; obtain ⟨A', c', rfl, hrc⟩ := id hr; exact ⟨A', c', rfl, hr, hb⟩))
  have K3 : Hid (∀ W, SW w5 W → Calls Tryz.prog 37 #[.slice B b.length d, .slice A a.length c, .string q.car, .int .i64 q.num, .agg #[.int .i64 qf, .int .i64 qt, .int .i64 qd]] W fun e w' => ∃ A' c', e = .returned (.slice A' DL.length c') ∧ RowL 1 encI1 w' (.slice A' DL.length c') DL ∧ Below W.heap.size W w') := Lib.hid (fun W h => by
    have h1 := differ_any (.slice B b.length d) (.slice A a.length c) b a q.car q.num (qf, qt, qd) W (HB.out.more h) (HA.out.more h) l2 l1 nb na hy.1 hy.2
    rw [difL_comm b a, ← hDL] at h1
    exact h1.mono (by rintro e w' ⟨r, rfl, hr, hb⟩; obtain ⟨A', c', rfl, hrc⟩ := id hr; exact ⟨A', c', rfl, hr, hb⟩))
  have K4 : Hid (∀ W, SW w5 W → Calls Tryz.prog 37 #[.slice A a.length c, .slice A a.length c, .string q.car, .int .i64 q.num, .agg #[.int .i64 qf, .int .i64 qt, .int .i64 qd]] W fun e w' => ∃ A' c', e = .returned (.slice A' 0 c') ∧ SW w5 w') := Lib.hid (fun W h => by
    have h1 := differ_any (.slice A a.length c) (.slice A a.length c) a a q.car q.num (qf, qt, qd) W (HA.out.more h) (HA.out.more h) l1 l1 na na hy.1 hy.2
    rw [difL_self] at h1
    exact h1.mono (by rintro e w' ⟨r, rfl, hr, hb⟩; obtain ⟨A', c', rfl, hrc⟩ := id hr; exact ⟨A', c', rfl, Below.trans h (Below.mono hb h.size)⟩))
  obtain ⟨g, hg⟩ : ∃ g, g = (onF a q.car q.num q.day).getD fliZ := ⟨_, rfl⟩
  obtain ⟨s, hs⟩ : ∃ s, s = (onF a q.car q.num q.day).isSome := ⟨_, rfl⟩
  have KO : Hid (∀ W, SW w5 W → Calls Tryz.prog 26 #[.slice A a.length c, .string q.car, .int .i64 q.num, .int .i64 q.day] W (OnX g s W)) := Lib.hid (fun W h => by rw [hg, hs]; exact on_x (.slice A a.length c) a q.car q.num q.day W (HA.out.more h) l1 na oq.day.1 oq.day.2)
  have KR : Hid (∀ W, SW w5 W → Calls Tryz.prog 27 #[.slice A a.length c, .string q.car, .int .i64 q.num, .int .i64 q.day] W (OnX g s W)) := Lib.hid (fun W h => by rw [hg, hs]; exact ron_x (.slice A a.length c) a q.car q.num q.day W (HA.out.more h) l1 na oq.day.1 oq.day.2)
  have hgl : g.lg.length ≤ 1000 := by rw [hg]; exact on_lg na
  have KS : Hid (∀ (A1 : Option Addr) (c1 : Nat) (A2 : Option Addr) (c2 : Nat) W, LegL W (.slice A1 g.lg.length c1) g.lg → LegL W (.slice A2 g.lg.length c2) g.lg → SW w5 W → Calls Tryz.prog 20 #[.agg #[.string g.car, .int .i64 g.num, .int .i64 g.pf, .int .i64 g.pt, .int .i64 g.pd, .slice A1 g.lg.length c1], .agg #[.string g.car, .int .i64 g.num, .int .i64 g.pf, .int .i64 g.pt, .int .i64 g.pd, .slice A2 g.lg.length c2]] W fun e w' => e = .returned (.bool true) ∧ SW w5 w') := Lib.hid (fun A1 c1 A2 c2 W g1 g2 h => by
    have h1 := rsame_any7 (g.re A1 c1) (g.re A2 c2) W g1 g2 hgl hgl
    rw [show sameB (g.re A1 c1) (g.re A2 c2) = true from by simp [sameB, FV.re, sameL_refl]] at h1
    exact h1.mono (by rintro e w' ⟨rfl, hb⟩; exact ⟨rfl, Below.trans h (Below.mono hb h.size)⟩))
  clear hDL hg hs na nb l1 l2 smA smB oa ob HLA HLB hgl hy
  refine Lib.hid ?_
  have kp0 := Fp0.out _ hS
  have kp1 := Fp1.out _ hS
  have kq0 := Fq0.out _ hS
  have kq1 := Fq1.out _ hS
  have kr0 := Fr0.out _ hS
  have kr1 := Fr1.out _ hS
  have kr2 := Fr2.out _ hS
  go_upto_region 6 with (first
    | (go_at_call 38; with_reducible refine (K2.out _ hS).mono ?_; rintro e w4 ⟨A2, c2, rfl, hr2, hb2⟩; have hS : SW w5 w4 := Below.trans hS (Below.mono hb2 hS.size); have hr1 := hr1.more hb2; have kp0 := Fp0.out _ hS; have kp1 := Fp1.out _ hS; have kq0 := Fq0.out _ hS; have kq1 := Fq1.out _ hS; have kr0 := Fr0.out _ hS; have kr1 := Fr1.out _ hS; have kr2 := Fr2.out _ hS)
    | (go_at_call 37; with_reducible refine (K1.out _ hS).mono ?_; rintro e w3 ⟨A1, c1, rfl, hr1, hb1⟩; have hS : SW w5 w3 := Below.trans hS (Below.mono hb1 hS.size); have kp0 := Fp0.out _ hS; have kp1 := Fp1.out _ hS; have kq0 := Fq0.out _ hS; have kq1 := Fq1.out _ hS; have kr0 := Fr0.out _ hS; have kr1 := Fr1.out _ hS; have kr2 := Fr2.out _ hS)
    | (go_at_call 37; with_reducible refine (K3.out _ hS).mono ?_; rintro e w6 ⟨A3, c3, rfl, hr3, hb3⟩; have hS : SW w5 w6 := Below.trans hS (Below.mono hb3 hS.size); have hr1 := hr1.more hb3; have hr2 := hr2.more hb3))
  have H1 := Lib.hid hr1
  have H2 := Lib.hid hr2
  have H3 := Lib.hid hr3
  have HS6 := Lib.hid hS
  have j0 : ((DL.length : Int) != (DL.length : Int)) = false := by simp
  clear kp0 kp1 kq0 kq1 kr0 kr1 kr2 hr1 hr2 hr3 hb1 hb2 hb3 K1 K2 K3
  go_wp2
  go_loopw [10] (fun vi wr => ∃ k : Nat, k ≤ DL.length ∧ vi = .int .i64 k ∧ SW w6 wr) (fun vi _ => DL.length - (intOf vi).toNat)
  case atStart => exact ⟨0, Nat.zero_le _, rfl, Below.refl _ _⟩
  case round =>
    obtain ⟨k, hk, rfl, hSr⟩ := hrel
    by_cases hlt : k < DL.length
    · obtain ⟨x, hx⟩ : ∃ x, DL[k]? = some x := ⟨_, List.getElem?_eq_getElem hlt⟩
      have i2 : (k : Int) < (DL.length : Int) := by omega
      obtain ⟨b1, o1, e1, hl1, hc1⟩ := RowL.at1 (H1.out.more hSr) hx
      cases e1
      have f1 := SW.cell hc1
      obtain ⟨b2, o2, e2, hl2, hc2⟩ := RowL.at1 (H2.out.more hSr) hx
      cases e2
      have f2 := SW.cell hc2
      obtain ⟨b3, o3, e3, hl3, hc3⟩ := RowL.at1 (H3.out.more hSr) hx
      cases e3
      have f3 := SW.cell hc3
      have j1 : (x != x) = false := by simp
      clear hx hl1 hl2 hl3 hc1 hc2 hc3
      go_wp2
      have hNe : Nonempty (Wd (SW wr)) := ⟨⟨_, SW.drew _⟩⟩
      refine quietS (S := SW wr) (by kernel_rfl) (by kernel_rfl) (SW.drew _) ?_
      repeat (first | go_big_quiet_skip | (go_big_quiet_want; go_big_quiet_op; first | go_big_quiet_on | go_big_quiet_call ((fail))))
      refine wpQuiet_nil ?_
      rintro W ⟨⟨_, hW⟩, rfl⟩
      have hS7 : SW w6 W := Below.trans hSr (Below.mono hW hSr.size)
      clear hW f1 f2 f3
      go_wp2
      go_roundw
      case rel => exact ⟨k + 1, by omega, by go_num, hS7⟩
      case measure => simp [intOf]; omega
    · have i2 : ¬ (k : Int) < (DL.length : Int) := by omega
      have hS : SW w5 wr := Below.trans HS6.out (Below.mono hSr HS6.out.size)
      clear hSr hk hlt
      have kp0 := Fp0.out _ hS
      have kq0 := Fq0.out _ hS
      have kq1 := Fq1.out _ hS
      have kq2 := Fq2.out _ hS
      go_upto_region 14 with (go_at_call 26; refine (KO.out _ hS).mono ?_; rintro e w7 ⟨X1, A7, c7, rfl, hX1, hL1, hb7⟩; have hst1 := store_fli hX1 w7; have hsz1 : X1.size = 6 := by rw [hX1.out]; rfl)
      clear hst1 hsz1 kp0 kq0 kq1 kq2
      obtain rfl := hX1.out
      have hb8 := bel_alloc w7 (.cells (fliX g A7 c7) fliT)
      have m0 := (cells_new w7 (fliX g A7 c7) fliT 0).trans (show _ = some _ from rfl)
      have m1 := (cells_new w7 (fliX g A7 c7) fliT 1).trans (show _ = some _ from rfl)
      have m2 := (cells_new w7 (fliX g A7 c7) fliT 2).trans (show _ = some _ from rfl)
      have m3 := (cells_new w7 (fliX g A7 c7) fliT 3).trans (show _ = some _ from rfl)
      have m4 := (cells_new w7 (fliX g A7 c7) fliT 4).trans (show _ = some _ from rfl)
      have m5 := (cells_new w7 (fliX g A7 c7) fliT 5).trans (show _ = some _ from rfl)
      have hL1 := hL1.more hb8
      have hb78 := hb7.trans (hb8.mono hb7.size)
      have hS : SW w5 _ := Below.trans hS (Below.mono hb78 hS.size)
      clear hX1 hb7 hb8 hb78
      generalize hw8 : w7.alloc (.cells (fliX g A7 c7) fliT) = w8 at *
      clear hw8
      have kp0 := Fp0.out _ hS
      have kq0 := Fq0.out _ hS
      have kq1 := Fq1.out _ hS
      have kq2 := Fq2.out _ hS
      go_upto_region 15 with (go_at_call 27; refine (KR.out _ hS).mono ?_; rintro e w9 ⟨X2, A9, c9, rfl, hX2, hL2, hb9⟩; have hst2 := store_fli hX2 w9; have hsz2 : X2.size = 6 := by rw [hX2.out]; rfl)
      clear hst2 hsz2 kp0 kq0 kq1 kq2
      obtain rfl := hX2.out
      have hb10 := bel_alloc w9 (.cells (fliX g A9 c9) fliT)
      have hb910 := hb9.trans (hb10.mono hb9.size)
      have n0 := (cells_new w9 (fliX g A9 c9) fliT 0).trans (show _ = some _ from rfl)
      have m0 := bel_cell hb910 m0
      have n1 := (cells_new w9 (fliX g A9 c9) fliT 1).trans (show _ = some _ from rfl)
      have m1 := bel_cell hb910 m1
      have n2 := (cells_new w9 (fliX g A9 c9) fliT 2).trans (show _ = some _ from rfl)
      have m2 := bel_cell hb910 m2
      have n3 := (cells_new w9 (fliX g A9 c9) fliT 3).trans (show _ = some _ from rfl)
      have m3 := bel_cell hb910 m3
      have n4 := (cells_new w9 (fliX g A9 c9) fliT 4).trans (show _ = some _ from rfl)
      have m4 := bel_cell hb910 m4
      have n5 := (cells_new w9 (fliX g A9 c9) fliT 5).trans (show _ = some _ from rfl)
      have m5 := bel_cell hb910 m5
      have hL1 := hL1.more hb910
      have hL2 := hL2.more hb10
      have hS : SW w5 _ := Below.trans hS (Below.mono hb910 hS.size)
      clear hX2 hb9 hb10 hb910
      generalize hw10 : w9.alloc (.cells (fliX g A9 c9) fliT) = w10 at *
      clear hw10
      have js : (s == s) = true := by simp
      go_wp2_with (first
        | (go_at_call 25; refine (KW.out _ hS).mono ?_; rintro e w13 ⟨rfl, hS⟩)
        | (go_at_call 37; refine (K4.out _ hS).mono ?_; rintro e w12 ⟨A12, c12, rfl, hS⟩)
        | (go_at_call 20; refine (KS.out _ _ _ _ _ hL1 hL2 hS).mono ?_; rintro e w11 ⟨rfl, hS⟩; have kp0 := Fp0.out _ hS; have kq0 := Fq0.out _ hS; have kq1 := Fq1.out _ hS; have kr0 := Fr0.out _ hS; have kr1 := Fr1.out _ hS; have kr2 := Fr2.out _ hS))
      go_ret
      exact ⟨rfl, hb0.trans (Below.mono hS hb0.size)⟩

end Go.Proofs.YtldillnjnjkkgaaGreatDoor
