/- Words and walks that the laws below ask: StkH, StkI, StkJ. -/
import Derived.RangeFuncWrites
import Derived.RangeFuncNested
import Derived.RangeFuncBox
import Derived.Maps.OwnIn
import Derived.Maps.Views
import Derived.Sort.MapsRangeIn
import Derived.Maps.AppendAt
import Derived.Test.YtjmahmeionakaaaGreatDoorPk11
import Derived.Test.YtjmahmeionakaaaGreatDoorPk12
/- The order of legs; cmp.Or; compare; slices.SortFunc at identifiers of legs. -/
namespace Go.Proofs.YtjmahmeionakaaaGreatDoor
open Go.RowKit Go.Shelf Go.Lib Go.Sort
set_option linter.unusedSimpArgs false
set_option linter.unusedVariables false

/-- the order of legs -/
def ltD (a b : Lid) : Prop := LessT a.car b.car ∨ (a.car = b.car ∧ (a.num < b.num ∨ (a.num = b.num ∧ (a.day < b.day ∨ (a.day = b.day ∧ LessT a.frm b.frm)))))
theorem ltD_irrefl (a : Lid) : ¬ ltD a a := by
  rintro (h | ⟨_, h | ⟨_, h | ⟨_, h⟩⟩⟩)
  · exact lessT_irrefl _ h
  · omega
  · omega
  · exact lessT_irrefl _ h
theorem ltD_trans {a b c : Lid} (h : ltD a b) (k : ltD b c) : ltD a c := by
  obtain ⟨a1, a2, a3, a4⟩ := a
  obtain ⟨b1, b2, b3, b4⟩ := b
  obtain ⟨c1, c2, c3, c4⟩ := c
  unfold ltD at *
  dsimp only at *
  rcases h with h | ⟨rfl, h | ⟨rfl, h | ⟨rfl, h⟩⟩⟩ <;> rcases k with k | ⟨rfl, k | ⟨rfl, k | ⟨rfl, k⟩⟩⟩
  · exact .inl (lessT_trans h k)
  · exact .inl h
  · exact .inl h
  · exact .inl h
  · exact .inl k
  · exact .inr ⟨rfl, .inl (by omega)⟩
  · exact .inr ⟨rfl, .inl h⟩
  · exact .inr ⟨rfl, .inl h⟩
  · exact .inl k
  · exact .inr ⟨rfl, .inl k⟩
  · exact .inr ⟨rfl, .inr ⟨rfl, .inl (by omega)⟩⟩
  · exact .inr ⟨rfl, .inr ⟨rfl, .inl h⟩⟩
  · exact .inl k
  · exact .inr ⟨rfl, .inl k⟩
  · exact .inr ⟨rfl, .inr ⟨rfl, .inl k⟩⟩
  · exact .inr ⟨rfl, .inr ⟨rfl, .inr ⟨rfl, lessT_trans h k⟩⟩⟩
theorem ltD_tri (a b : Lid) : ltD a b ∨ a = b ∨ ltD b a := by
  obtain ⟨a1, a2, a3, a4⟩ := a
  obtain ⟨b1, b2, b3, b4⟩ := b
  unfold ltD
  dsimp only
  rcases lessT_tri a1 b1 with h | rfl | h
  · exact .inl (.inl h)
  · rcases Int.lt_trichotomy a2 b2 with h | rfl | h
    · exact .inl (.inr ⟨rfl, .inl h⟩)
    · rcases Int.lt_trichotomy a3 b3 with h | rfl | h
      · exact .inl (.inr ⟨rfl, .inr ⟨rfl, .inl h⟩⟩)
      · rcases lessT_tri a4 b4 with h | rfl | h
        · exact .inl (.inr ⟨rfl, .inr ⟨rfl, .inr ⟨rfl, h⟩⟩⟩)
        · exact .inr (.inl rfl)
        · exact .inr (.inr (.inr ⟨rfl, .inr ⟨rfl, .inr ⟨rfl, h⟩⟩⟩))
      · exact .inr (.inr (.inr ⟨rfl, .inr ⟨rfl, .inl h⟩⟩))
    · exact .inr (.inr (.inr ⟨rfl, .inl h⟩))
  · exact .inr (.inr (.inl h))
/-- the first number that is not nought -/
def orL : List Int → Int
  | [] => 0
  | x :: r => if (x != 0) = true then x else orL r
theorem orL_at : ∀ (l : List Int) (k : Nat) (x : Int), (∀ (j : Nat) (y : Int), j < k → l[j]? = some y → (y != 0) = false) → l[k]? = some x → (x != 0) = true → orL l = x
  | [], k, x, _, h, _ => by simp at h
  | z :: r, 0, x, _, h, hx => by
    simp at h
    subst h
    rw [orL, if_pos hx]
  | z :: r, k + 1, x, h0, h, hx => by
    rw [orL, if_neg (by rw [h0 0 z (by omega) rfl]; simp)]
    exact orL_at r k x (fun j y hj hy => h0 (j + 1) y (by omega) (by simpa using hy)) (by simpa using h) hx
theorem orL_no : ∀ (l : List Int), (∀ (j : Nat) (y : Int), l[j]? = some y → (y != 0) = false) → orL l = 0
  | [], _ => rfl
  | z :: r, h => by
    rw [orL, if_neg (by rw [h 0 z rfl]; simp)]
    exact orL_no r (fun j y hy => h (j + 1) y (by simpa using hy))
set_option maxRecDepth 100000 in
set_option maxHeartbeats 4000000 in
theorem or_any (A : Option Addr) (c : Nat) (l : List Int) (w : World) (hl : l.length ≤ 1000) (hL : IntR w (.slice A l.length c) l) :
    Calls Tryz.prog 119 #[.slice A l.length c] w fun e w' => e = .returned (.int .i64 (orL l)) ∧ w' = w := by
  have HI := Lib.hid (orL_at l)
  have HN := Lib.hid (orL_no l)
  have HL := Lib.hid hL
  clear hL
  generalize orL l = r at *
  go_enter Tryz.func119, Tryz.ntmps119
  go_wp2
  go_loopw [8] (fun vi wr => ∃ k : Nat, k ≤ l.length ∧ vi = .int .i64 k ∧ Hid (∀ (j : Nat) (y : Int), j < k → l[j]? = some y → (y != 0) = false) ∧ wr = w) (fun vi _ => l.length - (intOf vi).toNat)
  case atStart => exact ⟨0, Nat.zero_le _, rfl, Lib.hid (fun j y hj => absurd hj (Nat.not_lt_zero _)), rfl⟩
  case round =>
    obtain ⟨k, hk, rfl, HK, rfl⟩ := hrel
    by_cases hlt : k < l.length
    · obtain ⟨x, hx⟩ : ∃ x, l[k]? = some x := ⟨_, List.getElem?_eq_getElem hlt⟩
      obtain ⟨b, o, rfl, z0⟩ := int_at HL.out hx
      have i2 : (k : Int) < (l.length : Int) := by omega
      have HX := Lib.hid hx
      clear hx
      cases h0 : (x != 0) with
      | true =>
        have HR := Lib.hid (HI.out k x HK.out HX.out h0)
        go_wp2
        go_ret
        exact ⟨ret_int HR.out.symm, rfl⟩
      | false =>
        have H0 := Lib.hid h0
        go_wp2
        go_roundw
        case rel =>
          refine ⟨k + 1, by omega, by go_num, Lib.hid (fun j y hj hy => ?_), by first | rfl | trivial⟩
          by_cases hjk : j = k
          · subst hjk
            rw [HX.out] at hy
            cases hy
            exact H0.out
          · exact HK.out j y (by omega) hy
        case measure => simp [intOf]; omega
    · have HR := Lib.hid (HN.out (fun j y hy => HK.out j y (by have := (List.getElem?_eq_some_iff.1 hy).1; omega) hy))
      go_wp2
      go_ret
      exact ⟨ret_int HR.out.symm, rfl⟩
/-- compare -/
def cmD (a b : Lid) : Int := orL [cmT a.car b.car, Lib.compareInt a.num b.num, Lib.compareInt a.day b.day, cmT a.frm b.frm]
theorem cmD_lt (a b : Lid) : cmD a b < 0 ↔ ltD a b := by
  unfold cmD ltD
  simp only [orL]
  have n1 := lessT_irrefl a.car
  have n2 := lessT_irrefl a.frm
  rcases cmp_txt a.car b.car with ⟨h, e⟩ | ⟨h, e⟩ | ⟨h, e⟩ <;> rw [e]
  · simp [h]
  · rw [← h]
    rcases cmp_int a.num b.num with ⟨h2, e2⟩ | ⟨h2, e2⟩ | ⟨h2, e2⟩ <;> rw [e2]
    · simp [h2, n1]
    · rw [← h2]
      rcases cmp_int a.day b.day with ⟨h3, e3⟩ | ⟨h3, e3⟩ | ⟨h3, e3⟩ <;> rw [e3]
      · simp [h3, n1]
      · rw [← h3]
        rcases cmp_txt a.frm b.frm with ⟨h4, e4⟩ | ⟨h4, e4⟩ | ⟨h4, e4⟩ <;> rw [e4]
        · simp [h4, n1]
        · rw [← h4]; simp [n1, n2]
        · have n4 : ¬ LessT a.frm b.frm := fun k => n2 (lessT_trans k h4)
          simp [n1, n4]
      · simp [n1]; omega
    · simp [n1]; omega
  · have n4 : ¬ LessT a.car b.car := fun k => n1 (lessT_trans k h)
    have n5 : ¬ a.car = b.car := fun k => by rw [← k] at h; exact n1 h
    simp [n4, n5]
theorem ltOf_D (x y : Lid) : ltOf cmD x y = true ↔ ltD x y := by
  unfold ltOf
  rw [decide_eq_true_eq]
  exact cmD_lt x y
theorem cmD_swo : SWO (ltOf cmD) where
  irrefl x := by rw [← Bool.not_eq_true, ltOf_D]; exact ltD_irrefl x
  trans x y z h1 h2 := by rw [ltOf_D] at *; exact ltD_trans h1 h2
  ntrans x y z h1 h2 := by
    rw [← Bool.not_eq_true, ltOf_D] at *
    intro h
    rcases ltD_tri x y with k | rfl | k
    · exact h1 k
    · exact h2 h
    · exact h2 (ltD_trans k h)
theorem GR.trans {a b c : World} (h : GR a b) (k : GR b c) : GR a c := ⟨h.bel.trans (k.bel.mono h.bel.size), Nat.le_trans h.dr k.dr⟩
set_option maxRecDepth 100000 in
set_option maxHeartbeats 8000000 in
theorem cmpD_any (x y : Lid) (w : World) : Calls Tryz.prog 83 #[aggD x, aggD y] w fun e w' => e = .returned (.int .i64 (cmD x y)) ∧ ∃ q os', w' = grow (w.drewN q) os' := by
  have hb2 := bel_alloc (w.alloc (.cells #[.string x.car, .int .i64 x.num, .int .i64 x.day, .string x.frm] lidT)) (.cells #[.string y.car, .int .i64 y.num, .int .i64 y.day, .string y.frm] lidT)
  obtain ⟨a0, a1, a2, a3⟩ := lid_new w x
  obtain ⟨q0, q1, q2, q3⟩ := lid_new (w.alloc (.cells #[.string x.car, .int .i64 x.num, .int .i64 x.day, .string x.frm] lidT)) y
  have p0 := bel_cell hb2 a0
  have p1 := bel_cell hb2 a1
  have p2 := bel_cell hb2 a2
  have p3 := bel_cell hb2 a3
  rw [World.size_alloc] at q0 q1 q2 q3
  have hg : GR w ((w.alloc (.cells #[.string x.car, .int .i64 x.num, .int .i64 x.day, .string x.frm] lidT)).alloc (.cells #[.string y.car, .int .i64 y.num, .int .i64 y.day, .string y.frm] lidT)) := ((GR.refl w).alloc _).alloc _
  have HC : Hid (cmD x y = orL [cmT x.car y.car, Lib.compareInt x.num y.num, Lib.compareInt x.day y.day, cmT x.frm y.frm]) := Lib.hid rfl
  have K1 := Lib.hid (fun W => cmpS_any x.car y.car W)
  have K2 := Lib.hid (fun W => cmpI_any x.num y.num W)
  have K3 := Lib.hid (fun W => cmpI_any x.day y.day W)
  have K4 := Lib.hid (fun W => cmpS_any x.frm y.frm W)
  generalize cmD x y = R at *
  generalize cmT x.car y.car = r1 at *
  generalize Lib.compareInt x.num y.num = r2 at *
  generalize Lib.compareInt x.day y.day = r3 at *
  generalize cmT x.frm y.frm = r4 at *
  clear hb2 a0 a1 a2 a3
  go_enter Tryz.func83, Tryz.ntmps83
  go_upto_region 1 with fail
  generalize hw5 : (w.alloc (.cells #[.string x.car, .int .i64 x.num, .int .i64 x.day, .string x.frm] lidT)).alloc (.cells #[.string y.car, .int .i64 y.num, .int .i64 y.day, .string y.frm] lidT) = w5 at *
  clear hw5
  have HG := Lib.hid hg
  clear hg
  have f0 : ∀ W, GR w5 W → _ := fun W h => GR.cells h p0
  have f1 : ∀ W, GR w5 W → _ := fun W h => GR.cells h p1
  have f2 : ∀ W, GR w5 W → _ := fun W h => GR.cells h p2
  have f3 : ∀ W, GR w5 W → _ := fun W h => GR.cells h p3
  have g0 : ∀ W, GR w5 W → _ := fun W h => GR.cells h q0
  have g1 : ∀ W, GR w5 W → _ := fun W h => GR.cells h q1
  have g2 : ∀ W, GR w5 W → _ := fun W h => GR.cells h q2
  have g3 : ∀ W, GR w5 W → _ := fun W h => GR.cells h q3
  clear p0 p1 p2 p3 q0 q1 q2 q3
  have hS : (GR w5) _ := (GR.refl _).drew
  refine wp_region_held_drew (S := GR w5) (by kernel_rfl) hS (fun _ => ?_)
  refine wpAnyH_take (i := 0) (v := ?vC0) rfl (by kernel_rfl) (by kernel_rfl) (by kernel_rfl) (fun _ _ _ h => h) (Or.inl ⟨by rfl, ?hyC0⟩) hS ?restC0
  case hyC0 =>
    intro w hSw
    first | (go_simp; done) | (go_simp; with_reducible rfl)
  try simp only [Act.put, List.setIfInBounds_toArray, List.set_cons_zero, List.set_cons_succ]
  refine wpAnyH_take (i := 1) (v := ?vC1) rfl (by kernel_rfl) (by kernel_rfl) (by kernel_rfl) (fun _ _ _ h => h) (Or.inl ⟨by rfl, ?hyC1⟩) hS ?restC1
  case hyC1 =>
    intro w hSw
    have k0 := f0 w hSw; have k1 := f1 w hSw; have k2 := f2 w hSw; have k3 := f3 w hSw; have k4 := g0 w hSw; have k5 := g1 w hSw; have k6 := g2 w hSw; have k7 := g3 w hSw
    first | (go_simp; done) | (go_simp; with_reducible rfl)
  try simp only [Act.put, List.setIfInBounds_toArray, List.set_cons_zero, List.set_cons_succ]
  refine wpAnyH_take (i := 2) (v := ?vC2) rfl (by kernel_rfl) (by kernel_rfl) (by kernel_rfl) (fun _ _ _ h => h) (Or.inl ⟨by rfl, ?hyC2⟩) hS ?restC2
  case hyC2 =>
    intro w hSw
    first | (go_simp; done) | (go_simp; with_reducible rfl)
  try simp only [Act.put, List.setIfInBounds_toArray, List.set_cons_zero, List.set_cons_succ]
  refine wpAnyH_take (i := 3) (v := ?vC3) rfl (by kernel_rfl) (by kernel_rfl) (by kernel_rfl) (fun _ _ _ h => h) (Or.inl ⟨by rfl, ?hyC3⟩) hS ?restC3
  case hyC3 =>
    intro w hSw
    have k0 := f0 w hSw; have k1 := f1 w hSw; have k2 := f2 w hSw; have k3 := f3 w hSw; have k4 := g0 w hSw; have k5 := g1 w hSw; have k6 := g2 w hSw; have k7 := g3 w hSw
    first | (go_simp; done) | (go_simp; with_reducible rfl)
  try simp only [Act.put, List.setIfInBounds_toArray, List.set_cons_zero, List.set_cons_succ]
  refine wpAnyH_take (i := 5) (v := ?vC5) rfl (by kernel_rfl) (by kernel_rfl) (by kernel_rfl) (fun _ _ _ h => h) (Or.inl ⟨by rfl, ?hyC5⟩) hS ?restC5
  case hyC5 =>
    intro w hSw
    first | (go_simp; done) | (go_simp; with_reducible rfl)
  try simp only [Act.put, List.setIfInBounds_toArray, List.set_cons_zero, List.set_cons_succ]
  refine wpAnyH_take (i := 6) (v := ?vC6) rfl (by kernel_rfl) (by kernel_rfl) (by kernel_rfl) (fun _ _ _ h => h) (Or.inl ⟨by rfl, ?hyC6⟩) hS ?restC6
  case hyC6 =>
    intro w hSw
    have k0 := f0 w hSw; have k1 := f1 w hSw; have k2 := f2 w hSw; have k3 := f3 w hSw; have k4 := g0 w hSw; have k5 := g1 w hSw; have k6 := g2 w hSw; have k7 := g3 w hSw
    first | (go_simp; done) | (go_simp; with_reducible rfl)
  try simp only [Act.put, List.setIfInBounds_toArray, List.set_cons_zero, List.set_cons_succ]
  refine wpAnyH_take (i := 7) (v := ?vC7) rfl (by kernel_rfl) (by kernel_rfl) (by kernel_rfl) (fun _ _ _ h => h) (Or.inl ⟨by rfl, ?hyC7⟩) hS ?restC7
  case hyC7 =>
    intro w hSw
    first | (go_simp; done) | (go_simp; with_reducible rfl)
  try simp only [Act.put, List.setIfInBounds_toArray, List.set_cons_zero, List.set_cons_succ]
  refine wpAnyH_take (i := 8) (v := ?vC8) rfl (by kernel_rfl) (by kernel_rfl) (by kernel_rfl) (fun _ _ _ h => h) (Or.inl ⟨by rfl, ?hyC8⟩) hS ?restC8
  case hyC8 =>
    intro w hSw
    have k0 := f0 w hSw; have k1 := f1 w hSw; have k2 := f2 w hSw; have k3 := f3 w hSw; have k4 := g0 w hSw; have k5 := g1 w hSw; have k6 := g2 w hSw; have k7 := g3 w hSw
    first | (go_simp; done) | (go_simp; with_reducible rfl)
  try simp only [Act.put, List.setIfInBounds_toArray, List.set_cons_zero, List.set_cons_succ]
  refine wpAnyH_take (i := 10) (v := ?vC10) rfl (by kernel_rfl) (by kernel_rfl) (by kernel_rfl) (fun _ _ _ h => h) (Or.inl ⟨by rfl, ?hyC10⟩) hS ?restC10
  case hyC10 =>
    intro w hSw
    first | (go_simp; done) | (go_simp; with_reducible rfl)
  try simp only [Act.put, List.setIfInBounds_toArray, List.set_cons_zero, List.set_cons_succ]
  refine wpAnyH_take (i := 11) (v := ?vC11) rfl (by kernel_rfl) (by kernel_rfl) (by kernel_rfl) (fun _ _ _ h => h) (Or.inl ⟨by rfl, ?hyC11⟩) hS ?restC11
  case hyC11 =>
    intro w hSw
    have k0 := f0 w hSw; have k1 := f1 w hSw; have k2 := f2 w hSw; have k3 := f3 w hSw; have k4 := g0 w hSw; have k5 := g1 w hSw; have k6 := g2 w hSw; have k7 := g3 w hSw
    first | (go_simp; done) | (go_simp; with_reducible rfl)
  try simp only [Act.put, List.setIfInBounds_toArray, List.set_cons_zero, List.set_cons_succ]
  refine wpAnyH_take (i := 12) (v := ?vC12) rfl (by kernel_rfl) (by kernel_rfl) (by kernel_rfl) (fun _ _ _ h => h) (Or.inl ⟨by rfl, ?hyC12⟩) hS ?restC12
  case hyC12 =>
    intro w hSw
    first | (go_simp; done) | (go_simp; with_reducible rfl)
  try simp only [Act.put, List.setIfInBounds_toArray, List.set_cons_zero, List.set_cons_succ]
  refine wpAnyH_take (i := 13) (v := ?vC13) rfl (by kernel_rfl) (by kernel_rfl) (by kernel_rfl) (fun _ _ _ h => h) (Or.inl ⟨by rfl, ?hyC13⟩) hS ?restC13
  case hyC13 =>
    intro w hSw
    have k0 := f0 w hSw; have k1 := f1 w hSw; have k2 := f2 w hSw; have k3 := f3 w hSw; have k4 := g0 w hSw; have k5 := g1 w hSw; have k6 := g2 w hSw; have k7 := g3 w hSw
    first | (go_simp; done) | (go_simp; with_reducible rfl)
  try simp only [Act.put, List.setIfInBounds_toArray, List.set_cons_zero, List.set_cons_succ]
  refine wpAnyH_take (i := 15) (v := ?vC15) rfl (by kernel_rfl) (by kernel_rfl) (by kernel_rfl) (fun _ _ _ h => h) (Or.inl ⟨by rfl, ?hyC15⟩) hS ?restC15
  case hyC15 =>
    intro w hSw
    first | (go_simp; done) | (go_simp; with_reducible rfl)
  try simp only [Act.put, List.setIfInBounds_toArray, List.set_cons_zero, List.set_cons_succ]
  refine wpAnyH_take (i := 16) (v := ?vC16) rfl (by kernel_rfl) (by kernel_rfl) (by kernel_rfl) (fun _ _ _ h => h) (Or.inl ⟨by rfl, ?hyC16⟩) hS ?restC16
  case hyC16 =>
    intro w hSw
    have k0 := f0 w hSw; have k1 := f1 w hSw; have k2 := f2 w hSw; have k3 := f3 w hSw; have k4 := g0 w hSw; have k5 := g1 w hSw; have k6 := g2 w hSw; have k7 := g3 w hSw
    first | (go_simp; done) | (go_simp; with_reducible rfl)
  try simp only [Act.put, List.setIfInBounds_toArray, List.set_cons_zero, List.set_cons_succ]
  refine wpAnyH_take (i := 17) (v := ?vC17) rfl (by kernel_rfl) (by kernel_rfl) (by kernel_rfl) (fun _ _ _ h => h) (Or.inl ⟨by rfl, ?hyC17⟩) hS ?restC17
  case hyC17 =>
    intro w hSw
    first | (go_simp; done) | (go_simp; with_reducible rfl)
  try simp only [Act.put, List.setIfInBounds_toArray, List.set_cons_zero, List.set_cons_succ]
  refine wpAnyH_take (i := 18) (v := ?vC18) rfl (by kernel_rfl) (by kernel_rfl) (by kernel_rfl) (fun _ _ _ h => h) (Or.inl ⟨by rfl, ?hyC18⟩) hS ?restC18
  case hyC18 =>
    intro w hSw
    have k0 := f0 w hSw; have k1 := f1 w hSw; have k2 := f2 w hSw; have k3 := f3 w hSw; have k4 := g0 w hSw; have k5 := g1 w hSw; have k6 := g2 w hSw; have k7 := g3 w hSw
    first | (go_simp; done) | (go_simp; with_reducible rfl)
  try simp only [Act.put, List.setIfInBounds_toArray, List.set_cons_zero, List.set_cons_succ]
  refine wpAnyH_ready (rs := [4]) (by kernel_rfl) (by simp) ?_
  refine AllReadyH.cons rfl (fun K hK => ?_) AllReadyH.nil
  go_simp
  go_wp2_with ((go_at_call 120; with_reducible refine (K1.out _).mono ?_; rintro e w7 ⟨rfl, rfl⟩))
  refine hK.out _ _ hS (fun _ => ?_)
  clear hK K
  refine wpAnyH_ready (rs := [9]) (by kernel_rfl) (by simp) ?_
  refine AllReadyH.cons rfl (fun K hK => ?_) AllReadyH.nil
  go_simp
  go_wp2_with ((go_at_call 121; with_reducible refine (K2.out _).mono ?_; rintro e w7 ⟨rfl, rfl⟩))
  refine hK.out _ _ hS (fun _ => ?_)
  clear hK K
  refine wpAnyH_ready (rs := [14]) (by kernel_rfl) (by simp) ?_
  refine AllReadyH.cons rfl (fun K hK => ?_) AllReadyH.nil
  go_simp
  go_wp2_with ((go_at_call 121; with_reducible refine (K3.out _).mono ?_; rintro e w7 ⟨rfl, rfl⟩))
  refine hK.out _ _ hS (fun _ => ?_)
  clear hK K
  refine wpAnyH_ready (rs := [19]) (by kernel_rfl) (by simp) ?_
  refine AllReadyH.cons rfl (fun K hK => ?_) AllReadyH.nil
  go_simp
  go_wp2_with ((go_at_call 120; with_reducible refine (K4.out _).mono ?_; rintro e w7 ⟨rfl, rfl⟩))
  refine hK.out _ _ hS (fun _ => ?_)
  clear hK K
  refine wpAnyH_ready (rs := [20]) (by kernel_rfl) (by simp) ?_
  refine AllReadyH.cons rfl (fun K hK => ?_) AllReadyH.nil
  go_simp
  have KO := Lib.hid (or_any (some ⟨w5.drew.heap.size, 0, none⟩) 4 [r1, r2, r3, r4] (w5.drew.alloc (.cells #[.int .i64 r1, .int .i64 r2, .int .i64 r3, .int .i64 r4] 3)) (by show 4 ≤ 1000; omega) (RowL.new w5.drew [r1, r2, r3, r4] 3 (enc := encI) (sz := 1) (fun x => rfl) rfl 4))
  rw [← HC.out] at KO
  have hS := hS.alloc (.cells #[.int .i64 r1, .int .i64 r2, .int .i64 r3, .int .i64 r4] 3)
  refine hK.out _ _ hS (fun _ => ?_)
  clear hK K
  refine wpAnyH_ready (rs := [21]) (by kernel_rfl) (by simp) ?_
  refine AllReadyH.cons rfl (fun K hK => ?_) AllReadyH.nil
  go_simp
  go_wp2_with ((go_at_call 119; refine KO.out.mono ?_; rintro e w7 ⟨rfl, rfl⟩))
  refine hK.out _ _ hS (fun _ => ?_)
  clear hK K
  refine wpAnyH_take (i := 22) (v := ?vC22) rfl (by kernel_rfl) (by kernel_rfl) (by kernel_rfl) (fun _ _ _ h => h) (Or.inl ⟨by rfl, ?hyC22⟩) hS ?restC22
  case hyC22 =>
    intro w hSw
    first | (go_simp; done) | (go_simp; with_reducible rfl)
  try simp only [Act.put, List.setIfInBounds_toArray, List.set_cons_zero, List.set_cons_succ]
  refine wpAnyH_done (by kernel_rfl) ?_ _
  try simp only [List.getElem_toArray, List.getElem_cons_succ, List.getElem_cons_zero, List.set_cons_zero, List.set_cons_succ]
  go_wp2
  go_ret
  refine ⟨by first | rfl | simp, ?_⟩
  have hT := GR.trans HG.out hS
  exact hT.grown
instance : Inhabited Lid := ⟨⟨noB, 0, 0, noB⟩⟩
theorem butD4 {w W : World} {g off : Nat} {d : Array Lid} (S : SWK encD 4 w g off d W) : But w W (fun k => (Value.slice (some ⟨g, 0, none⟩) 0 0).ownBlock = some k) := by
  obtain ⟨n, os, rfl⟩ := S
  refine ⟨rfl, rfl, rfl, ?_, fun k hk hne => ?_⟩
  · unfold sortWorldK putRowK; simp
  · unfold sortWorldK putRowK
    rw [Go.Sort.heap_grow_old _ _ (by simp; omega)]
    have : g ≠ k := fun e => hne (by rw [e]; rfl)
    simp [putRow, mapBlock, Sort.ahead, Array.getElem?_modify, this]
/-- l' is l, the dearest first, and v holds it -/
structure SrtD (B : Nat) (l : List Lid) (w' : World) (v : Value) (l' : List Lid) : Prop where
  perm : l'.Perm l
  ord : ∀ (i j : Nat) (x y : Lid), i < j → l'[i]? = some x → l'[j]? = some y → ¬ ltD y x
  row : RowL 4 encD w' v l'
  fresh : l' = [] ∨ ∀ b o n c, v = .slice (some ⟨b, o, none⟩) n c → B ≤ b
set_option maxRecDepth 100000 in
set_option maxHeartbeats 4000000 in
/-- nothing to sort -/
theorem sortD0_any (g : Value) (w : World) : Calls Tryz.prog 117 #[.slice none 0 0, g] w fun e w' => e = .returned (.tuple #[]) ∧ w' = w := by
  have KL : Hid (∀ W, Calls Tryz.prog 139 #[.int .u64 0] W fun e w' => e = .returned (.int .i64 0) ∧ w' = W) := Lib.hid (fun W => Tryz.bits_Len 0 W (by omega) (by omega))
  have KI : Hid (∀ W, Calls Tryz.prog 149 #[.slice none 0 0, .int .i64 0, .int .i64 0, g] W fun e w' => e = .returned (.tuple #[]) ∧ w' = W) := Lib.hid (fun W => by
    go_enter Tryz.func149, Tryz.ntmps149
    go_wp2
    go_loopw [8] (fun vi wr => vi = .int .i64 1 ∧ wr = W) (fun _ _ => 0)
    case atStart => exact ⟨rfl, rfl⟩
    case round =>
      obtain ⟨rfl, rfl⟩ := hrel
      go_wp2
      refine bodyPost_end (results_none rfl _ _ _) rfl ⟨rfl, rfl⟩)
  have KP : Hid (∀ W, Calls Tryz.prog 138 #[.slice none 0 0, .int .i64 0, .int .i64 0, .int .i64 0, g] W fun e w' => e = .returned (.tuple #[]) ∧ w' = W) := Lib.hid (fun W => by
    go_enter Tryz.func138, Tryz.ntmps138
    go_wp2
    go_loopw [1, 2, 3] (fun v1 v2 v3 wr => v1 = .int .i64 0 ∧ v2 = .int .i64 0 ∧ v3 = .int .i64 0 ∧ wr = W) (fun _ _ _ _ => 0)
    case atStart => exact ⟨rfl, rfl, rfl, rfl⟩
    case round =>
      obtain ⟨rfl, rfl, rfl, rfl⟩ := hrel
      go_wp2_with (go_at_call 149; refine (KI.out _).mono ?_; rintro e w' ⟨rfl, rfl⟩)
      refine bodyPost_ret (results_none rfl _ _ _) rfl ⟨rfl, rfl⟩)
  go_enter Tryz.func117, Tryz.ntmps117
  go_wp2_with (first | (go_at_call 139; refine (KL.out _).mono ?_; rintro e w' ⟨rfl, rfl⟩) | (go_at_call 138; refine (KP.out _).mono ?_; rintro e w' ⟨rfl, rfl⟩))
  refine bodyPost_end (results_none rfl _ _ _) rfl ⟨rfl, rfl⟩
theorem own_twoD {B : Nat} {w : World} {v : Value} {l : List Lid} (h : ROwn lidT 4 encD B w v l) : (v = .slice none 0 0 ∧ l = []) ∨ ∃ g cap cur, v = .slice (some ⟨g, 0, none⟩) l.length cap ∧ B ≤ g ∧ w.heap[g]? = some (.cells cur lidT (0, 0)) := by
  rcases h.own.2 with ⟨a, b⟩ | ⟨g', cap', cur, e1, hg0, hg, hq⟩
  · left
    refine ⟨a, ?_⟩
    cases l with
    | nil => rfl
    | cons x r => simp [cellsR] at b
  · right
    exact ⟨g', cap', cur, e1, hg0, hg⟩
set_option maxHeartbeats 2000000 in
set_option maxRecDepth 100000 in
theorem sortD_any (l : List Lid) (v : Value) (B : Nat) (w : World) (hO : ROwn lidT 4 encD B w v l) (hl : l.length ≤ 1000) :
    Calls Tryz.prog 117 #[v, .func (.func 83) #[] #[]] w fun e w' => e = .returned (.tuple #[]) ∧ (∃ l', SrtD B l w' v l') ∧ But w w' (fun k => v.ownBlock = some k) := by
  rcases own_twoD hO with ⟨rfl, rfl⟩ | ⟨g, cap, cur, rfl, hBg, hcs⟩
  · refine (sortD0_any _ w).mono ?_
    rintro e w' ⟨rfl, rfl⟩
    exact ⟨rfl, ⟨[], ⟨List.Perm.refl _, fun i j x y _ h => by simp at h, ⟨none, 0, rfl, .inl rfl⟩, .inl rfl⟩⟩, But.refl _ _⟩
  have hgs : g < w.heap.size := (Array.getElem?_eq_some_iff.1 hcs).1
  have hcell : ∀ i (hi : i < l.length) j u, (encD l[i])[j]? = some u → w.cell? ⟨g, 0 + i * 4 + j, none⟩ = some u := fun i hi j u hu => by
    have h2 := hO.own.cells (g := g) rfl _ _ (cellsR_at rowD.len l i j l[i] u (List.getElem?_eq_getElem hi) hu)
    rw [Addr.add_lit] at h2
    simpa using h2
  have hH : HoldsK encD 4 w g 0 l.toArray := by
    intro t ht
    rw [size_flatK] at ht
    simp only [List.size_toArray] at ht
    have hi : t / 4 < l.length := by omega
    have e1 : (flatK encD 4 l.toArray)[t]! = (encD l[t / 4])[t % 4]! := by
      rw [get_flatK _ _ _ _ (by simpa using ht)]
      congr 2
      rw [getElem!_pos _ _ (by simpa using hi)]
      simp
    have hm : t % 4 < (encD l[t / 4]).length := by rw [rowD.len]; omega
    refine ⟨?_, frozen_of_row _ _ _ _ _ hcs⟩
    rw [e1, getElem!_pos (encD l[t / 4]) (t % 4) hm]
    have h3 := hcell (t / 4) hi (t % 4) _ (List.getElem?_eq_getElem hm)
    rw [show 0 + t / 4 * 4 + t % 4 = 0 + t from by omega] at h3
    exact h3
  have hcmp : CmpLays Tryz.prog 83 #[] encD 4 cmD g 0 l.toArray.size w := fun m os dk _ x y => cmpD_any x y _
  have C := AnyQ.slices_SortFunc Tryz.sortD 4 (fun w => Tryz.isAgg43 w) (fun w => Tryz.sizeOf43 w) encD rowD.len rowD.one cmD cmD_swo 83 #[] g 0 cap l.toArray w (enters_of Tryz.func83 (by kernel_rfl) rfl) hcmp hH hgs (by simp; omega)
  change Calls Tryz.prog 117 _ _ _ at C
  simp only [List.size_toArray] at C
  refine C.mono ?_
  rintro e w' ⟨rfl, d', n, os, hp, hs, rfl⟩
  have hS : SWK encD 4 w g 0 d' (sortWorldK encD 4 w g 0 n d' os) := ⟨n, os, rfl⟩
  have hsz : d'.size = l.length := by have := hp.1; simpa using this
  have hH2 := hS.holds hgs hH (by simpa using hsz)
  refine ⟨rfl, ⟨d'.toList, ?_, ?_, ?_, .inr (fun b o n c e => by cases e; exact hBg)⟩, butD4 hS⟩
  · have h2 := hp.2.2
    have e1 : d'.extract 0 l.length = d' := by rw [← hsz]; exact Array.extract_size
    have e2 : l.toArray.extract 0 l.length = l.toArray := by
      have : l.length = l.toArray.size := by simp
      rw [this]; exact Array.extract_size
    rw [e1, e2] at h2
    simpa using h2
  · intro i j x y hij hx hy
    have hjl := (List.getElem?_eq_some_iff.1 hy).1
    simp only [Array.length_toList] at hjl
    have h3 := hs i j (Nat.zero_le _) hij (by omega)
    rw [getElem!_pos d' j hjl, getElem!_pos d' i (show i < d'.size by omega)] at h3
    rw [Array.getElem?_toList, Array.getElem?_eq_getElem (by omega)] at hx hy
    cases hx
    cases hy
    rw [← ltOf_D]
    simpa using h3
  · refine ⟨some ⟨g, 0, none⟩, cap, by simp [hsz], .inr ⟨g, 0, rfl, hS.lt hgs, fun i x j u hi hu => ?_⟩⟩
    have hil := (List.getElem?_eq_some_iff.1 hi).1
    simp only [Array.length_toList] at hil
    rw [Array.getElem?_toList, Array.getElem?_eq_getElem hil] at hi
    cases hi
    have hj : j < 4 := by have := (List.getElem?_eq_some_iff.1 hu).1; simpa [encD] using this
    have h4 := (hH2 (i * 4 + j) (by rw [size_flatK]; omega)).1
    rw [get_flatK _ _ _ _ (by omega), show (i * 4 + j) / 4 = i by omega, show (i * 4 + j) % 4 = j by omega, getElem!_pos d' i hil, getElem!_pos (encD d'[i]) j (by simp [encD]; omega)] at h4
    obtain ⟨_, hu2⟩ := List.getElem?_eq_some_iff.1 hu
    rw [show 0 + i * 4 + j = 0 + (i * 4 + j) from by omega, h4, hu2]
    rfl
end Go.Proofs.YtjmahmeionakaaaGreatDoor

/- slices.Values and maps.Keys at identifiers of legs as iterators; slices.Collect, slices.SortedFunc. -/
namespace Go.Proofs.YtjmahmeionakaaaGreatDoor
open Go.RowKit Go.Shelf Go.Maps Go.MapKept
open Go.WideElems (Fit rd rg pl rd_key rd_val rg_of rd_mk)
set_option linter.unusedSimpArgs false
set_option linter.unusedVariables false
attribute [local go_sem] Oper.semAt_some
attribute [local simp] wide_fn

abbrev lisT : TypeId := 48
abbrev encs1 (x : Lid) : Array Value := #[aggD x]
/-- the identifiers s lie in a row below n₀ -/
def InD (n₀ : Nat) (W : World) (A : Option Addr) (s : List Lid) : Prop := s = [] ∨ ∃ b o, A = some ⟨b, o, none⟩ ∧ b < n₀ ∧ b < W.heap.size ∧ ∀ (k : Nat) (x : Lid), s[k]? = some x → ∀ j u, (encD x)[j]? = some u → W.cell? ⟨b, o + k * 4 + j, none⟩ = some u
theorem InD.more {n₀ : Nat} {W W' : World} {A : Option Addr} {s : List Lid} (h : InD n₀ W A s) (hb : Below n₀ W W') : InD n₀ W' A s := by
  rcases h with h | ⟨b, o, e, h1, h2, h3⟩
  · exact .inl h
  · exact .inr ⟨b, o, e, h1, Nat.lt_of_lt_of_le h2 hb.size, fun k x hk j u hu => (hb.cell (p := ⟨b, o + k * 4 + j, none⟩) h1).trans (h3 k x hk j u hu)⟩
theorem inD_of {W : World} {A : Option Addr} {c : Nat} {s : List Lid} (h : LidL W (.slice A s.length c) s) : InD W.heap.size W A s := by
  obtain ⟨A', c', e1, h2⟩ := h
  simp only [Value.slice.injEq] at e1
  obtain ⟨rfl, _, rfl⟩ := e1
  rcases h2 with h | ⟨b, o, e, hlt, hc⟩
  · exact .inl h
  · exact .inr ⟨b, o, e, hlt, hlt, fun k x hk j u hu => hc k x j u hk hu⟩
/-- what a round keeps -/
def KpA (n₀ : Nat) (A B : World) : Prop := KeepsWalks A B ∧ Below n₀ A B
theorem kpA_t {n₀ : Nat} {A B C : World} (h : KpA n₀ A B) (k : KpA n₀ B C) : KpA n₀ A C := ⟨h.1.trans k.1, h.2.trans k.2⟩
theorem kpA_b {n₀ : Nat} {w : World} (hn : n₀ ≤ w.heap.size) (W : World) (l : Nat) (o o' : Obj) (hl : w.heap.size ≤ l) (h : W.heap[l]? = some o) (h1 : o.isCells = false) (h2 : o.isWalk = false) : KpA n₀ W (W.putObj l o') :=
  ⟨walksK_b (w := w) W l o o' hl h h1 h2, belowK_b hn W l o o' hl h h1 h2⟩

set_option maxRecDepth 100000 in
set_option maxHeartbeats 2000000 in
theorem vals1_in (l Bn n₀ : Nat) (A : Option Addr) (c : Nat) (s : List Lid) (J Jx : List Lid → World → Prop) (hs : s.length ≤ 1000)
    (hY : ∀ pre x W, J pre W → pre.length < s.length → YieldAt Fence.wide 8 Tryz.prog l (encs1 x) W fun e W' =>
      (e = .returned (.bool true) ∧ J (pre ++ [x]) W' ∧ KpA n₀ W W') ∨ (e = .returned (.bool false) ∧ Jx (pre ++ [x]) W'))
    (W : World) (hJ : AbidesFrom W.heap.size J) (hBn : W.cell? ⟨Bn, 0, none⟩ = some (.slice A s.length c)) (hr : InD n₀ W A s) (hn : n₀ ≤ W.heap.size) (h0 : J [] W) :
    CallsIn Fence.wide 9 Tryz.prog 147 #[.func (.yield l) #[] #[], .pointer (some ⟨Bn, 0, none⟩)] W fun e W' => (∃ v, e = .returned v) ∧
      ((∃ ys : List Lid, ys = s ∧ J ys W') ∨ (∃ pre, True ∧ Jx pre W')) := by
  refine callsIn_of_wp Tryz.func147 rfl trivial ?_ rfl
  simp only [Tryz.ntmps147, List.size_toArray, List.length_cons, List.length_nil, Nat.reduceAdd, Nat.reduceSub, Array.replicate_succ, Array.replicate_zero, List.push_toArray, List.append_toArray, List.nil_append, List.cons_append]
  have HR := Lib.hid hr
  have HY := Lib.hid hY
  have HJ := Lib.hid hJ
  clear hY hr hJ
  obtain ⟨n, hn'⟩ : ∃ n, n = s.length := ⟨_, rfl⟩
  have HN := Lib.hid hn'
  rw [← hn'] at hBn hs
  clear hn'
  gi_wp2
  gi_loopw [7] (fun i wr => ∃ k : Nat, k ≤ n ∧ i = .int .i64 (k : Int) ∧ J (s.take k) wr ∧ Hid (InD n₀ wr A s ∧ W.heap.size ≤ wr.heap.size)) (fun i _ => n - (intOf i).toNat)
  case atStart => exact ⟨0, Nat.zero_le _, rfl, h0, Lib.hid ⟨HR.out, Nat.le_refl _⟩⟩
  case round =>
    clear hBn h0
    obtain ⟨k, hk, rfl, hJk, HI⟩ := hrel
    by_cases hlt : k < n
    · obtain ⟨x, hx⟩ : ∃ x, s[k]? = some x := ⟨_, List.getElem?_eq_getElem (by have := HN.out; omega)⟩
      have hne : ¬ s = [] := by intro e; rw [e] at hx; cases hx
      obtain ⟨b, o, e1, hb0, hb1, hc⟩ := HI.out.1.resolve_left hne
      subst e1
      have z0 := hc k x hx 0 _ rfl
      have z1 := hc k x hx 1 _ rfl
      have z2 := hc k x hx 2 _ rfl
      have z3 := hc k x hx 3 _ rfl
      rw [Nat.add_zero] at z0
      have i0 : (0 : Int) ≤ (k : Int) := by omega
      have i1 : (k : Int) < (n : Int) := by omega
      have hpl : (s.take k).length < s.length := by rw [List.length_take]; have := HN.out; omega
      have hbA := bel_alloc wr (.cells #[.string x.car, .int .i64 x.num, .int .i64 x.day, .string x.frm] lidT)
      have hJ1 : J (s.take k) (wr.alloc (.cells #[.string x.car, .int .i64 x.num, .int .i64 x.day, .string x.frm] lidT)) := abide_below HJ.out hJk hbA
      obtain ⟨l0, l1, l2, l3⟩ := lid_new wr x
      obtain ⟨fn, tmps, assign, body, hy, hR⟩ := HY.out (s.take k) x _ hJ1 hpl
      dsimp only [encs1] at hy
      have HT : Hid (s.take k ++ [x] = s.take (k + 1)) := Lib.hid (by rw [List.take_add_one, hx]; rfl)
      have HB3 : Hid (∀ W3, KpA n₀ (wr.alloc (.cells #[.string x.car, .int .i64 x.num, .int .i64 x.day, .string x.frm] lidT)) W3 → InD n₀ W3 (some ⟨b, o, none⟩) s ∧ W.heap.size ≤ W3.heap.size) := Lib.hid (fun W3 h => ⟨(HI.out.1.more (hbA.mono (Nat.le_trans hn HI.out.2))).more h.2, Nat.le_trans HI.out.2 (Nat.le_trans hbA.size h.2.size)⟩)
      clear hc hne hJk hJ1 hbA
      gi_wp2
      refine hR.mono ?_
      rintro e W3 (⟨rfl, hJ3, hk3⟩ | ⟨rfl, hx3⟩)
      · have HI4 := Lib.hid (HB3.out W3 hk3)
        rw [HT.out] at hJ3
        gi_wp2
        go_roundw
        case rel => exact ⟨k + 1, by omega, by go_num, hJ3, HI4⟩
        case measure => simp [intOf]; omega
      · gi_wp2
        refine bodyPost_ret (results_none rfl _ _ _) rfl ?_
        exact ⟨⟨_, rfl⟩, .inr ⟨_, trivial, hx3⟩⟩
    · obtain rfl : k = n := by omega
      gi_wp2
      go_end0
      exact ⟨⟨_, rfl⟩, .inl ⟨s, rfl, by rw [HN.out, List.take_length] at hJk; exact hJk⟩⟩
/-- the contract of the iterator's value -/
theorem vals_stops (Bn n₀ : Nat) (A : Option Addr) (c : Nat) (s : List Lid) (hs : s.length ≤ 1000) (w : World) (hn : n₀ ≤ w.heap.size) (hBn : w.cell? ⟨Bn, 0, none⟩ = some (.slice A s.length c)) (hr : InD n₀ w A s) :
    SeqStopsK Fence.wide 9 Tryz.prog 147 #[.pointer (some ⟨Bn, 0, none⟩)] encs1 (KpA n₀) (fun ys => ys = s) (fun _ => True) s.length w := fun l J Jx W hW hJ _ hY h0 =>
  vals1_in l Bn n₀ A c s J Jx hs hY W hJ (bel_cell hW hBn) (hr.more (hW.mono hn)) (Nat.le_trans hn hW.size) h0

/-! ### the keys of the map of legs -/
theorem LegM.keys {w : World} {o : Own'} {b n : Nat} {g : Stk} (h : LegM w o b n g) : ∃ D0 : DataW Value, w.ownsMap Tryz.prog lidT Rh b n D0 ∧ Maps.size D0 ≤ n ∧
    (∀ key kl, keyOf Tryz.prog lidT key = some kl → Maps.has D0 kl = true → ∃ c, OkD c ∧ key = aggD c ∧ (g c).isSome = true) ∧
    (∀ c, (g c).isSome = true → OkD c ∧ ∀ kl, keyOf Tryz.prog lidT (aggD c) = some kl → Maps.has D0 kl = true) := by
  obtain ⟨hh, ⟨es, clock, hb, F, hs, hkk, hg⟩, h3⟩ := h
  have hsome : ∀ c, (hh c).isSome = (g c).isSome := fun c => by
    have := h3 c
    revert this
    cases g c with
    | none => intro h; rw [h]; rfl
    | some q => rintro ⟨a, e, _⟩; rw [e]; rfl
  have hread : ∀ x ∈ es.toList, keyOf Tryz.prog lidT x.key = some (rg Tryz.prog lidT Rh x).1 := fun x hx => by
    obtain ⟨y, hy⟩ := F.reads x hx
    rw [rg_of hy]
    exact rd_key hy
  refine ⟨.map ((es.toList.map (rg Tryz.prog lidT Rh)).foldr DataW.insert []), ⟨es, clock, hb, F, hs, rfl⟩, ?_, fun key kl hk hh0 => ?_, fun c hc => ?_⟩
  · show ((es.toList.map (rg Tryz.prog lidT Rh)).foldr DataW.insert []).length ≤ n
    rw [length_sorted]
    simpa using hs
  · rw [has_eq, List.any_eq_true] at hh0
    obtain ⟨p, hp, hsk⟩ := hh0
    rw [mem_sorted, List.mem_map] at hp
    obtain ⟨x, hx, rfl⟩ := hp
    have e1 := WideAt.sameKey_eq hsk
    have e2 := hread x hx
    rw [e1] at e2
    obtain ⟨c, hc, hok⟩ := hkk x hx
    have e3 : key = x.key := lidK.inj hk e2
    refine ⟨c, hok, e3.trans hc, ?_⟩
    rw [← hsome, (hg c x.val).2 ⟨x, hx, hc, rfl⟩]
    rfl
  · rw [← hsome] at hc
    obtain ⟨v, hv⟩ := Option.isSome_iff_exists.1 hc
    obtain ⟨x, hx, hxc, _⟩ := (hg c v).1 hv
    obtain ⟨c', hc', hok⟩ := hkk x hx
    obtain rfl : c = c' := aggD_inj _ _ (hxc.symm.trans hc')
    refine ⟨hok, fun kl hk => ?_⟩
    rw [has_eq, List.any_eq_true]
    refine ⟨rg Tryz.prog lidT Rh x, mem_sorted.2 (List.mem_map.2 ⟨x, hx, rfl⟩), ?_⟩
    have e2 := hread x hx
    rw [hxc, hk] at e2
    rw [← Option.some.inj e2]
    exact WideAt.sameKey_self (lidK.key hk)
/-- which keys have come -/
def ColD (g : Stk) (left : Lit → Bool) (ss : List Lid) : Prop := ss.Nodup ∧ ∀ c, c ∈ ss ↔ ((g c).isSome = true ∧ ∀ kl, keyOf Tryz.prog lidT (aggD c) = some kl → left kl = false)
theorem ColD.step {g : Stk} {left : Lit → Bool} {ss : List Lid} (h : ColD g left ss) {c : Lid} {kl : Lit} (hk : keyOf Tryz.prog lidT (aggD c) = some kl) (hl : left kl = true) (hc : (g c).isSome = true) : ColD g (fun z => left z && !z.sameKey kl) (ss ++ [c]) := by
  have hnew : c ∉ ss := fun hx => by have := ((h.2 c).1 hx).2 kl hk; rw [hl] at this; cases this
  refine ⟨List.nodup_append.2 ⟨h.1, by simp, fun a ha b hb => by simp at hb; subst hb; exact fun e => hnew (e ▸ ha)⟩, fun d => ?_⟩
  rw [List.mem_append, List.mem_singleton, h.2 d]
  constructor
  · rintro (⟨h1, h2⟩ | rfl)
    · exact ⟨h1, fun z hz => by show (left z && !z.sameKey kl) = false; rw [h2 z hz]; rfl⟩
    · refine ⟨hc, fun z hz => ?_⟩
      rw [hk] at hz
      cases hz
      show (left kl && !kl.sameKey kl) = false
      rw [WideAt.sameKey_self (lidK.key hk)]
      simp
  · rintro ⟨h1, h2⟩
    by_cases e : d = c
    · exact .inr e
    · refine .inl ⟨h1, fun z hz => ?_⟩
      have h3 : (left z && !z.sameKey kl) = false := h2 z hz
      have hne : z ≠ kl := fun e2 => by subst e2; exact e (aggD_inj _ _ (lidK.inj hz hk))
      rw [sameKey_ne hne] at h3
      simpa using h3
set_option maxRecDepth 100000 in
set_option maxHeartbeats 4000000 in
theorem keys1_in (l Bm b nn n₀ : Nat) (g : Stk) (o : Own') (J Jx : List Lid → World → Prop)
    (hY : ∀ pre x W, J pre W → pre.length < nn → YieldAt Fence.wide 8 Tryz.prog l (encs1 x) W fun e W' =>
      (e = .returned (.bool true) ∧ J (pre ++ [x]) W' ∧ KpA n₀ W W') ∨ (e = .returned (.bool false) ∧ Jx (pre ++ [x]) W'))
    (W : World) (hJ : AbidesFrom W.heap.size J) (hm : W.cell? ⟨Bm, 0, none⟩ = some (.map (some b))) (hM : LegM W o b nn g) (h0 : J [] W) :
    CallsIn Fence.wide 9 Tryz.prog 118 #[.func (.yield l) #[] #[], .pointer (some ⟨Bm, 0, none⟩)] W fun e W' => (∃ v, e = .returned v) ∧
      ((∃ ys : List Lid, (ys.Nodup ∧ (∀ c, c ∈ ys ↔ (g c).isSome = true) ∧ ys.length ≤ nn) ∧ J ys W') ∨ (∃ pre, True ∧ Jx pre W')) := by
  obtain ⟨D0, hown, hsz, hD1, hD2⟩ := hM.keys
  refine callsIn_of_wp Tryz.func118 rfl trivial ?_ rfl
  simp only [Tryz.ntmps118, List.size_toArray, List.length_cons, List.length_nil, Nat.reduceAdd, Nat.reduceSub, Array.replicate_succ, Array.replicate_zero, List.push_toArray, List.append_toArray, List.nil_append, List.cons_append]
  have HD1 := Lib.hid hD1
  have HD2 := Lib.hid hD2
  have HY := Lib.hid hY
  have HJ := Lib.hid hJ
  have HSZ := Lib.hid hsz
  clear hD1 hD2 hY hJ hM hsz
  gi_wp2_with (first
    | (gi_at_range; refine wpListIn_range_own _ rfl _ lgmT rfl lidT lgpT lidK Tryz.underlying69 _ b nn _ rfl hown ?_; intro w0 hrg0 hg0 hs0)
    | gi_in)
  go_frame
  gi_loopw [3] (fun _ wr => ∃ (left : Lit → Bool) (cnt : Nat) (ss : List Lid), wr.ranges Tryz.prog lidT Rh b W.heap.size nn D0 left cnt ∧ ss.length + cnt ≤ Maps.size D0 ∧ ColD g left ss ∧ (∀ kl, left kl = true → Maps.has D0 kl = true) ∧ J ss wr)
    (fun _ wr => wr.rangeLeft b W.heap.size)
  case atStart =>
    refine ⟨_, _, [], hrg0, by simp, ⟨List.nodup_nil, fun c => ⟨fun h => (by cases h), fun h => ?_⟩⟩, fun kl h => h, HJ.out [] W w0 none h0 hg0 (fun r e => by cases e)⟩
    obtain ⟨h1, h2⟩ := HD2.out c h.1
    obtain ⟨kl, hkl⟩ := key_lid c h1
    have := h.2 kl hkl
    rw [h2 kl hkl] at this
    cases this
  case round =>
    obtain ⟨left, cnt, ss, hrg, hcs, hC, hLh, hJs⟩ := hrel
    gi_wp2_with (first
      | (gi_at_next; refine wpListIn_next_ranges _ rfl _ rfl lidT lidK Rh id id (fun key kl hk => ⟨key, rfl⟩) (fun v _ _ => ⟨v, rfl⟩) b W.heap.size nn _ _ _ rfl hrg ?_ ?_)
      | gi_in)
    · intro hc0 hl0
      gi_wp2
      go_end0
      exact ⟨⟨_, rfl⟩, .inl ⟨ss, ⟨hC.1, fun c => (by rw [hC.2 c]; exact ⟨fun h => h.1, fun h => ⟨h, fun kl _ => hl0 kl⟩⟩), by have := HSZ.out; omega⟩, hJs⟩⟩
    · intro x c kl yd yp w2 cnt2 hkey hlk hv hat hrg2 hlt hg2 hs2 hen
      obtain ⟨d, hokd, rfl, hsd⟩ := HD1.out x kl hkey (hLh kl hlk)
      have hJ2 : J ss w2 := HJ.out ss wr w2 (some W.heap.size) hJs hg2 (fun r e => by cases e; exact ⟨Nat.le_refl _, hrg.iter_walk⟩)
      have hbA := bel_alloc w2 (.cells #[.string d.car, .int .i64 d.num, .int .i64 d.day, .string d.frm] lidT)
      have hJ3 : J ss (w2.alloc (.cells #[.string d.car, .int .i64 d.num, .int .i64 d.day, .string d.frm] lidT)) := abide_below HJ.out hJ2 hbA
      have hrg3 := hrg2.alloc (.cells #[.string d.car, .int .i64 d.num, .int .i64 d.day, .string d.frm] lidT)
      obtain ⟨l0, l1, l2, l3⟩ := lid_new w2 d
      obtain ⟨fn, tmps, assign, body, hy, hR⟩ := HY.out ss d _ hJ3 (by have := HSZ.out; omega)
      dsimp only [encs1] at hy
      have HC2 := Lib.hid (hC.step hkey hlk hsd)
      have HL2 : Hid (∀ z, (left z && !z.sameKey kl) = true → Maps.has D0 z = true) := Lib.hid (fun z hz => hLh z (by rw [Bool.and_eq_true] at hz; exact hz.1))
      clear hs2 hJ2 hbA hJs
      try dsimp only [id] at hen
      gi_wp2
      refine hR.mono ?_
      rintro e W3 (⟨rfl, hJ4, hk4⟩ | ⟨rfl, hJx4⟩)
      · gi_wp2
        have hrg4 := hrg3.of_walks hk4.1
        go_roundw
        case rel => exact ⟨_, cnt2, ss ++ [d], hrg4, by simp; omega, HC2.out, HL2.out, hJ4⟩
        case measure => rw [hrg4.left_eq, hrg.left_eq]; exact hlt
      · gi_wp2
        refine bodyPost_ret (results_none rfl _ _ _) rfl ?_
        exact ⟨⟨_, rfl⟩, .inr ⟨_, trivial, hJx4⟩⟩
theorem keys_stops (Bm b nn n₀ : Nat) (g : Stk) (o : Own') (w : World) (hn : n₀ ≤ w.heap.size) (hm : w.cell? ⟨Bm, 0, none⟩ = some (.map (some b))) (hM : LegM w o b nn g) (ho : o b = .map) :
    SeqStopsK Fence.wide 9 Tryz.prog 118 #[.pointer (some ⟨Bm, 0, none⟩)] encs1 (KpA n₀) (fun ys => ys.Nodup ∧ (∀ c, c ∈ ys ↔ (g c).isSome = true) ∧ ys.length ≤ nn) (fun _ => True) nn w := fun l J Jx W hW hJ _ hY h0 =>
  keys1_in l Bm b nn n₀ g o J Jx hY W hJ (bel_cell hW hm) (hM.same (Below.but (fun _ => False) hW) (fun k hk => hk.elim) ho) h0
end Go.Proofs.YtjmahmeionakaaaGreatDoor

/- slices.AppendSeq, Collect, SortedFunc at identifiers of legs; hasTwice; Legs. -/
namespace Go.Proofs.YtjmahmeionakaaaGreatDoor
open Go.RowKit Go.Shelf Go.Maps Go.MapKept Go.Lib Go.Sort
set_option linter.unusedSimpArgs false
set_option linter.unusedVariables false
attribute [local go_sem] Oper.semAt_some
attribute [local simp] wide_fn

theorem info_lid4 : (Tryz.prog.info? lidT).map (fun i => (i.zero, i.size, i.bytes)) = some (some (.agg #[.string noB, .int .i64 0, .int .i64 0, .string noB]), 4, 48) := by kernel_rfl
/-- a variable of the type of identifiers lies alone in block B -/
def BoxD (W : World) (B : Nat) (x : Lid) : Prop := W.heap[B]? = some (.cells #[.string x.car, .int .i64 x.num, .int .i64 x.day, .string x.frm] lidT (0, 0))
theorem BoxD.kept {W W' : World} {B : Nat} {x : Lid} {row : Option Nat} (h : BoxD W B x) (hg : W.grownBy W' row) (hr : ∀ r, row = some r → ∃ o : Obj, W.heap[r]? = some o ∧ o.isCells = false) : BoxD W' B x :=
  (hg.block B (Array.getElem?_eq_some_iff.1 h).1 (fun e => by
    obtain ⟨o, h1, h2⟩ := hr B e.symm
    rw [show W.heap[B]? = _ from h] at h1
    cases h1
    cases h2)).trans h
theorem BoxD.cells {W : World} {B : Nat} {x : Lid} (h : BoxD W B x) : W.cell? ⟨B, 0, none⟩ = some (.string x.car) ∧ W.cell? ⟨B, 1, none⟩ = some (.int .i64 x.num) ∧ W.cell? ⟨B, 2, none⟩ = some (.int .i64 x.day) ∧ W.cell? ⟨B, 3, none⟩ = some (.string x.frm) :=
  ⟨cell_of_row W B 0 _ _ (0, 0) h, cell_of_row W B 1 _ _ (0, 0) h, cell_of_row W B 2 _ _ (0, 0) h, cell_of_row W B 3 _ _ (0, 0) h⟩
theorem BoxD.new (w : World) (x : Lid) : BoxD (w.alloc (.cells #[.string x.car, .int .i64 x.num, .int .i64 x.day, .string x.frm] lidT)) w.heap.size x := World.alloc_heap_new w _
theorem own_sliceD {W : World} {B : Nat} {e : TypeId} {sz : Nat} {v : Value} {k : Nat} {xs : List Value} (h : W.ownsRow B e sz v k xs) : ∃ A n c, v = .slice A n c := by
  rcases h.2 with ⟨rfl, _⟩ | ⟨g, cap, cur, rfl, _⟩
  · exact ⟨_, _, _, rfl⟩
  · exact ⟨_, _, _, rfl⟩
theorem cell_rowD (w : World) (x : Lid) : ∀ j u, (encD x)[j]? = some u → (w.alloc (.cells #[.string x.car, .int .i64 x.num, .int .i64 x.day, .string x.frm] lidT)).cell? ((⟨w.heap.size, 0, none⟩ : Addr).add j) = some u := by
  intro j u hj
  have hadd : (⟨w.heap.size, 0, none⟩ : Addr).add j = ⟨w.heap.size, j, none⟩ := by unfold Addr.add; split <;> simp_all
  rw [hadd, show #[Value.string x.car, .int .i64 x.num, .int .i64 x.day, .string x.frm] = (encD x).toArray from rfl, cells_new, List.getElem?_toArray]
  exact hj
set_option maxRecDepth 100000 in
set_option maxHeartbeats 4000000 in
theorem appSeq_any (gf : Nat) (lb : Array Value) (S Sp : List Lid → Prop) (N : Nat) (w : World) (eg : ∀ args w, (callFunc gf args).run Tryz.prog w = .ok (.enter gf args) w) (hN : N ≤ 1000)
    (hseq : SeqStopsK Fence.wide 9 Tryz.prog gf lb encs1 (KpA w.heap.size) S Sp N w) :
    Calls Tryz.prog 137 #[.slice none 0 0, .func (.func gf) #[] lb] w fun e w' => ∃ v ys, e = .returned v ∧ S ys ∧ ROwn lidT 4 encD w.heap.size w' v ys ∧ Below w.heap.size w w' := by
  obtain ⟨i0, hi, hz0, hz1, hz2⟩ := info_parts info_lid4
  refine (callsIn_wide (n := 10)).1 ?_
  refine callsIn_of_wp_marks Tryz.func137 rfl trivial ?_ rfl
  simp only [Tryz.ntmps137, List.size_toArray, List.length_cons, List.length_nil, Nat.reduceAdd, Nat.reduceSub, Array.replicate_succ, Array.replicate_zero, List.push_toArray, List.append_toArray, List.nil_append, List.cons_append]
  have hB0 := bel_alloc w (.cells #[.slice none 0 0] lisT)
  have bS := Boxed.new w lisT (.slice none 0 0)
  gi_wp2
  refine wpIn_rangeFunc_ownH rfl (by omega) (gf := gf) (lb := lb) rfl trivial eg hseq kpA_t (kpA_b (by simp)) hB0 (fun _ => rfl)
    (fun pre W => (∃ v, Boxed W w.heap.size lisT v ∧ W.ownsRow w.heap.size lidT 4 v pre.length (cellsR encD pre) ∧ True) ∧ Below w.heap.size w W)
    (fun _ _ _ => False)
    (OwnFrom.and (Own.from (holdsRow_own w.heap.size w.heap.size lisT lidT 4 (fun pre : List Lid => pre.length) (fun pre => cellsR encD pre) (fun _ _ => True)) _) (ownFrom_below (Nat.le_refl _) (by simp)))
    (fun _ _ _ _ _ hs _ _ => hs)
    ⟨⟨_, bS, World.ownsRow_nil _ _ _ _, trivial⟩, hB0⟩
    (fun x a' W => ∃ Bx, w.heap.size < Bx ∧ BoxD W Bx x ∧ a' = { tmps := #[.slice none 0 0, .func (.func gf) #[] lb, .pointer (some ⟨w.heap.size, 0, none⟩), undef, .slice none 0 0, .pointer (some ⟨Bx, 0, none⟩), .func (.func gf) #[] lb, aggD x, undef, undef, undef, undef, undef], defers := [] })
    (fun x a' _ X Y row hs hg hr => by obtain ⟨Bx, h1, h2, h3⟩ := hs; exact ⟨Bx, h1, h2.kept hg (fun r e => (hr r e).2), h3⟩)
    ?assign ?body ?done ?stop
  case assign =>
    rintro l pre x W K ⟨⟨v, hv, hown, _⟩, hB⟩ hK
    gi_wp2
    exact hK _ _ ((KeepsOthers.alloc _ _).from _) ⟨(KeepsOthers.alloc _ _).walks, (Below.refl _ W).alloc hB.size _⟩ ⟨⟨v, hv.alloc _, hown.alloc _, trivial⟩, hB.alloc hB.size _⟩ ⟨W.heap.size, hv.lt, BoxD.new W x, rfl⟩
  case body =>
    rintro l pre x a' W hl ⟨r, hr⟩ ⟨⟨v, hv, hrow, _⟩, hB⟩ ⟨Bx, hBx, bX, rfl⟩ hlt
    obtain ⟨c0, c1, c2, c3⟩ := bX.cells
    have hc := hv.cell
    have hle : pre.length ≤ 1000 := by omega
    obtain ⟨A1, n1, k1, rfl⟩ := own_sliceD hrow
    gi_wp2_with (gi_at_builtin; refine wpListIn_append_own _ rfl _ _ lisT rfl w.heap.size lidT i0 _ 4 48 Tryz.underlying48 hi hz0 hz1 hz2 rfl (by decide) _ _ _ rfl (hrow.alloc _) ⟨W.heap.size, 0, none⟩ 1 1 (encD x) rfl rfl (cell_rowD _ _) (by intro u hu; simp [encD] at hu; rcases hu with rfl | rfl | rfl | rfl <;> rfl) (by unfold maxLen; omega) (by omega) (by have := hB.size; simp; omega) ?_; intro v' w1 hown' hgrow _; obtain ⟨g', cap', rfl⟩ := ownsRow_succ hown'; obtain ⟨hv1, hv2, hr2, hk2, hb2⟩ := hv.appended (by decide) hrow hB.size (Nat.le_refl _) hown' hgrow; have hc1 := hv1.cell; have hf1 := hv1.frozen)
    exact ⟨hk2.from _, ⟨hk2.walks, hb2⟩, ⟨_, hv2, by rw [cellsR_app, cellsR_one, List.length_append]; exact hr2, trivial⟩, hB.trans hb2⟩
  case done =>
    rintro D ys W hD hS ⟨⟨v, hv, hrow, _⟩, hB⟩ hK
    have hc := hv.cell
    gi_wp2
    refine ⟨by simp, .inl ⟨_, _, rfl, run_takeDeferred hK, ?_⟩⟩
    exact ⟨_, results_tmp rfl _ _ _, v, ys, rfl, hS, ⟨ownsRow_putObj hrow _ hK rfl, by have := hB.size; simpa using this⟩, hB.trans (belowK_b (w := w) (Nat.le_refl _) W D _ _ (by simp at hD; omega) hK rfl rfl)⟩
  case stop =>
    rintro D c pre W _ _ h _
    exact h.elim
set_option maxHeartbeats 1000000 in
theorem collect_any (gf : Nat) (lb : Array Value) (S Sp : List Lid → Prop) (N : Nat) (w : World) (eg : ∀ args w, (callFunc gf args).run Tryz.prog w = .ok (.enter gf args) w) (hN : N ≤ 1000)
    (hseq : SeqStopsK Fence.wide 9 Tryz.prog gf lb encs1 (KpA w.heap.size) S Sp N w) :
    Calls Tryz.prog 116 #[.func (.func gf) #[] lb] w fun e w' => ∃ v ys, e = .returned v ∧ S ys ∧ ROwn lidT 4 encD w.heap.size w' v ys ∧ Below w.heap.size w w' := by
  have K := Lib.hid (appSeq_any gf lb S Sp N w eg hN hseq)
  go_enter Tryz.func116, Tryz.ntmps116
  go_wp2_with (go_at_call 137; refine K.out.mono ?_; rintro e w' ⟨v, ys, rfl, hS, hO, hb⟩)
  go_ret
  exact ⟨v, ys, rfl, hS, hO, hb⟩
set_option maxHeartbeats 1000000 in
theorem sortedF_any (gf : Nat) (lb : Array Value) (S Sp : List Lid → Prop) (N : Nat) (w : World) (eg : ∀ args w, (callFunc gf args).run Tryz.prog w = .ok (.enter gf args) w) (hN : N ≤ 1000) (hSl : ∀ ys, S ys → ys.length ≤ 1000)
    (hseq : SeqStopsK Fence.wide 9 Tryz.prog gf lb encs1 (KpA w.heap.size) S Sp N w) :
    Calls Tryz.prog 81 #[.func (.func gf) #[] lb, .func (.func 83) #[] #[]] w fun e w' => ∃ v ys zs, e = .returned v ∧ S ys ∧ SrtD w.heap.size ys w' v zs ∧ Below w.heap.size w w' := by
  have K := Lib.hid (collect_any gf lb S Sp N w eg hN hseq)
  have K2 : Hid (∀ (ys : List Lid) v W, S ys → Below w.heap.size w W → ROwn lidT 4 encD w.heap.size W v ys → Calls Tryz.prog 117 #[v, .func (.func 83) #[] #[]] W fun e w' => e = .returned (.tuple #[]) ∧ (∃ zs, SrtD w.heap.size ys w' v zs) ∧ Below w.heap.size w w') := Lib.hid (fun ys v W hS hb hO => (sortD_any ys v w.heap.size W hO (hSl ys hS)).mono (by
    rintro e w' ⟨rfl, h1, h2⟩
    exact ⟨rfl, h1, hb.trans (h2.below hO.base (fun k hk e => by have := (hO.low e).1; omega))⟩))
  go_enter Tryz.func81, Tryz.ntmps81
  go_wp2_with (first
    | (go_at_call 116; refine K.out.mono ?_; rintro e w' ⟨v, ys, rfl, hS, hO, hb⟩)
    | (go_at_call 117; refine (K2.out ys v _ hS hb hO).mono ?_; rintro e w6 ⟨rfl, ⟨zs, hz⟩, hb6⟩))
  go_ret
  exact ⟨v, ys, zs, rfl, hS, hz, hb6⟩
end Go.Proofs.YtjmahmeionakaaaGreatDoor
