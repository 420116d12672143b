/- The order of legs; cmp.Or; compare; slices.SortFunc at identifiers of legs. -/
import Derived.Test.YtkghpapbifijcaaGreatDoorKitO
import Derived.Test.YtkghpapbifijcaaGreatDoorSortd
namespace Go.Proofs.YtkghpapbifijcaaGreatDoor
open Go.RowKit Go.Shelf Go.Lib Go.Sort
set_option linter.unusedSimpArgs false
set_option linter.unusedVariables false

/-- the order of legs -/
def ltD (a b : Lid) : Prop := LessT a.car b.car ∨ (a.car = b.car ∧ (a.num < b.num ∨ (a.num = b.num ∧ (a.day < b.day ∨ (a.day = b.day ∧ LessT a.frm b.frm)))))
theorem ltD_irrefl (a : Lid) : ¬ ltD a a := by
  rintro (h | ⟨_, h | ⟨_, h | ⟨_, h⟩⟩⟩)
  · exact lessT_irrefl _ h
  · omega
  · omega
  · exact lessT_irrefl _ h
theorem ltD_trans {a b c : Lid} (h : ltD a b) (k : ltD b c) : ltD a c := by
  obtain ⟨a1, a2, a3, a4⟩ := a
  obtain ⟨b1, b2, b3, b4⟩ := b
  obtain ⟨c1, c2, c3, c4⟩ := c
  unfold ltD at *
  dsimp only at *
  rcases h with h | ⟨rfl, h | ⟨rfl, h | ⟨rfl, h⟩⟩⟩ <;> rcases k with k | ⟨rfl, k | ⟨rfl, k | ⟨rfl, k⟩⟩⟩
  · exact .inl (lessT_trans h k)
  · exact .inl h
  · exact .inl h
  · exact .inl h
  · exact .inl k
  · exact .inr ⟨rfl, .inl (by omega)⟩
  · exact .inr ⟨rfl, .inl h⟩
  · exact .inr ⟨rfl, .inl h⟩
  · exact .inl k
  · exact .inr ⟨rfl, .inl k⟩
  · exact .inr ⟨rfl, .inr ⟨rfl, .inl (by omega)⟩⟩
  · exact .inr ⟨rfl, .inr ⟨rfl, .inl h⟩⟩
  · exact .inl k
  · exact .inr ⟨rfl, .inl k⟩
  · exact .inr ⟨rfl, .inr ⟨rfl, .inl k⟩⟩
  · exact .inr ⟨rfl, .inr ⟨rfl, .inr ⟨rfl, lessT_trans h k⟩⟩⟩
theorem ltD_tri (a b : Lid) : ltD a b ∨ a = b ∨ ltD b a := by
  obtain ⟨a1, a2, a3, a4⟩ := a
  obtain ⟨b1, b2, b3, b4⟩ := b
  unfold ltD
  dsimp only
  rcases lessT_tri a1 b1 with h | rfl | h
  · exact .inl (.inl h)
  · rcases Int.lt_trichotomy a2 b2 with h | rfl | h
    · exact .inl (.inr ⟨rfl, .inl h⟩)
    · rcases Int.lt_trichotomy a3 b3 with h | rfl | h
      · exact .inl (.inr ⟨rfl, .inr ⟨rfl, .inl h⟩⟩)
      · rcases lessT_tri a4 b4 with h | rfl | h
        · exact .inl (.inr ⟨rfl, .inr ⟨rfl, .inr ⟨rfl, h⟩⟩⟩)
        · exact .inr (.inl rfl)
        · exact .inr (.inr (.inr ⟨rfl, .inr ⟨rfl, .inr ⟨rfl, h⟩⟩⟩))
      · exact .inr (.inr (.inr ⟨rfl, .inr ⟨rfl, .inl h⟩⟩))
    · exact .inr (.inr (.inr ⟨rfl, .inl h⟩))
  · exact .inr (.inr (.inl h))
/-- the first number that is not nought -/
def orL : List Int → Int
  | [] => 0
  | x :: r => if (x != 0) = true then x else orL r
theorem orL_at : ∀ (l : List Int) (k : Nat) (x : Int), (∀ (j : Nat) (y : Int), j < k → l[j]? = some y → (y != 0) = false) → l[k]? = some x → (x != 0) = true → orL l = x
  | [], k, x, _, h, _ => by simp at h
  | z :: r, 0, x, _, h, hx => by
    simp at h
    subst h
    rw [orL, if_pos hx]
  | z :: r, k + 1, x, h0, h, hx => by
    rw [orL, if_neg (by rw [h0 0 z (by omega) rfl]; simp)]
    exact orL_at r k x (fun j y hj hy => h0 (j + 1) y (by omega) (by simpa using hy)) (by simpa using h) hx
theorem orL_no : ∀ (l : List Int), (∀ (j : Nat) (y : Int), l[j]? = some y → (y != 0) = false) → orL l = 0
  | [], _ => rfl
  | z :: r, h => by
    rw [orL, if_neg (by rw [h 0 z rfl]; simp)]
    exact orL_no r (fun j y hy => h (j + 1) y (by simpa using hy))
set_option maxRecDepth 100000 in
set_option maxHeartbeats 4000000 in
theorem or_any (A : Option Addr) (c : Nat) (l : List Int) (w : World) (hl : l.length ≤ 1000) (hL : IntR w (.slice A l.length c) l) :
    Calls Tryz.prog 119 #[.slice A l.length c] w fun e w' => e = .returned (.int .i64 (orL l)) ∧ w' = w := by
  have HI := Lib.hid (orL_at l)
  have HN := Lib.hid (orL_no l)
  have HL := Lib.hid hL
  clear hL
  generalize orL l = r at *
  go_enter Tryz.func119, Tryz.ntmps119
  go_wp2
  go_loopw [8] (fun vi wr => ∃ k : Nat, k ≤ l.length ∧ vi = .int .i64 k ∧ Hid (∀ (j : Nat) (y : Int), j < k → l[j]? = some y → (y != 0) = false) ∧ wr = w) (fun vi _ => l.length - (intOf vi).toNat)
  case atStart => exact ⟨0, Nat.zero_le _, rfl, Lib.hid (fun j y hj => absurd hj (Nat.not_lt_zero _)), rfl⟩
  case round =>
    obtain ⟨k, hk, rfl, HK, rfl⟩ := hrel
    by_cases hlt : k < l.length
    · obtain ⟨x, hx⟩ : ∃ x, l[k]? = some x := ⟨_, List.getElem?_eq_getElem hlt⟩
      obtain ⟨b, o, rfl, z0⟩ := int_at HL.out hx
      have i2 : (k : Int) < (l.length : Int) := by omega
      have HX := Lib.hid hx
      clear hx
      cases h0 : (x != 0) with
      | true =>
        have HR := Lib.hid (HI.out k x HK.out HX.out h0)
        go_wp2
        go_ret
        exact ⟨ret_int HR.out.symm, rfl⟩
      | false =>
        have H0 := Lib.hid h0
        go_wp2
        go_roundw
        case rel =>
          refine ⟨k + 1, by omega, by go_num, Lib.hid (fun j y hj hy => ?_), by first | rfl | trivial⟩
          by_cases hjk : j = k
          · subst hjk
            rw [HX.out] at hy
            cases hy
            exact H0.out
          · exact HK.out j y (by omega) hy
        case measure => simp [intOf]; omega
    · have HR := Lib.hid (HN.out (fun j y hy => HK.out j y (by have := (List.getElem?_eq_some_iff.1 hy).1; omega) hy))
      go_wp2
      go_ret
      exact ⟨ret_int HR.out.symm, rfl⟩
/-- compare -/
def cmD (a b : Lid) : Int := orL [cmT a.car b.car, Lib.compareInt a.num b.num, Lib.compareInt a.day b.day, cmT a.frm b.frm]
theorem cmD_lt (a b : Lid) : cmD a b < 0 ↔ ltD a b := by
  unfold cmD ltD
  simp only [orL]
  have n1 := lessT_irrefl a.car
  have n2 := lessT_irrefl a.frm
  rcases cmp_txt a.car b.car with ⟨h, e⟩ | ⟨h, e⟩ | ⟨h, e⟩ <;> rw [e]
  · simp [h]
  · rw [← h]
    rcases cmp_int a.num b.num with ⟨h2, e2⟩ | ⟨h2, e2⟩ | ⟨h2, e2⟩ <;> rw [e2]
    · simp [h2, n1]
    · rw [← h2]
      rcases cmp_int a.day b.day with ⟨h3, e3⟩ | ⟨h3, e3⟩ | ⟨h3, e3⟩ <;> rw [e3]
      · simp [h3, n1]
      · rw [← h3]
        rcases cmp_txt a.frm b.frm with ⟨h4, e4⟩ | ⟨h4, e4⟩ | ⟨h4, e4⟩ <;> rw [e4]
        · simp [h4, n1]
        · rw [← h4]; simp [n1, n2]
        · have n4 : ¬ LessT a.frm b.frm := fun k => n2 (lessT_trans k h4)
          simp [n1, n4]
      · simp [n1]; omega
    · simp [n1]; omega
  · have n4 : ¬ LessT a.car b.car := fun k => n1 (lessT_trans k h)
    have n5 : ¬ a.car = b.car := fun k => by rw [← k] at h; exact n1 h
    simp [n4, n5]
theorem ltOf_D (x y : Lid) : ltOf cmD x y = true ↔ ltD x y := by
  unfold ltOf
  rw [decide_eq_true_eq]
  exact cmD_lt x y
theorem cmD_swo : SWO (ltOf cmD) where
  irrefl x := by rw [← Bool.not_eq_true, ltOf_D]; exact ltD_irrefl x
  trans x y z h1 h2 := by rw [ltOf_D] at *; exact ltD_trans h1 h2
  ntrans x y z h1 h2 := by
    rw [← Bool.not_eq_true, ltOf_D] at *
    intro h
    rcases ltD_tri x y with k | rfl | k
    · exact h1 k
    · exact h2 h
    · exact h2 (ltD_trans k h)
theorem GR.trans {a b c : World} (h : GR a b) (k : GR b c) : GR a c := ⟨h.bel.trans (k.bel.mono h.bel.size), Nat.le_trans h.dr k.dr⟩
set_option maxRecDepth 100000 in
set_option maxHeartbeats 8000000 in
theorem cmpD_any (x y : Lid) (w : World) : Calls Tryz.prog 83 #[aggD x, aggD y] w fun e w' => e = .returned (.int .i64 (cmD x y)) ∧ ∃ q os', w' = grow (w.drewN q) os' := by
  have hb2 := bel_alloc (w.alloc (.cells #[.string x.car, .int .i64 x.num, .int .i64 x.day, .string x.frm] lidT)) (.cells #[.string y.car, .int .i64 y.num, .int .i64 y.day, .string y.frm] lidT)
  obtain ⟨a0, a1, a2, a3⟩ := lid_new w x
  obtain ⟨q0, q1, q2, q3⟩ := lid_new (w.alloc (.cells #[.string x.car, .int .i64 x.num, .int .i64 x.day, .string x.frm] lidT)) y
  have p0 := bel_cell hb2 a0
  have p1 := bel_cell hb2 a1
  have p2 := bel_cell hb2 a2
  have p3 := bel_cell hb2 a3
  rw [World.size_alloc] at q0 q1 q2 q3
  have hg : GR w ((w.alloc (.cells #[.string x.car, .int .i64 x.num, .int .i64 x.day, .string x.frm] lidT)).alloc (.cells #[.string y.car, .int .i64 y.num, .int .i64 y.day, .string y.frm] lidT)) := ((GR.refl w).alloc _).alloc _
  have HC : Hid (cmD x y = orL [cmT x.car y.car, Lib.compareInt x.num y.num, Lib.compareInt x.day y.day, cmT x.frm y.frm]) := Lib.hid rfl
  have K1 := Lib.hid (fun W => cmpS_any x.car y.car W)
  have K2 := Lib.hid (fun W => cmpI_any x.num y.num W)
  have K3 := Lib.hid (fun W => cmpI_any x.day y.day W)
  have K4 := Lib.hid (fun W => cmpS_any x.frm y.frm W)
  generalize cmD x y = R at *
  generalize cmT x.car y.car = r1 at *
  generalize Lib.compareInt x.num y.num = r2 at *
  generalize Lib.compareInt x.day y.day = r3 at *
  generalize cmT x.frm y.frm = r4 at *
  clear hb2 a0 a1 a2 a3
  go_enter Tryz.func83, Tryz.ntmps83
  go_upto_region 1 with fail
  generalize hw5 : (w.alloc (.cells #[.string x.car, .int .i64 x.num, .int .i64 x.day, .string x.frm] lidT)).alloc (.cells #[.string y.car, .int .i64 y.num, .int .i64 y.day, .string y.frm] lidT) = w5 at *
  clear hw5
  have HG := Lib.hid hg
  clear hg
  have f0 : ∀ W, GR w5 W → _ := fun W h => GR.cells h p0
  have f1 : ∀ W, GR w5 W → _ := fun W h => GR.cells h p1
  have f2 : ∀ W, GR w5 W → _ := fun W h => GR.cells h p2
  have f3 : ∀ W, GR w5 W → _ := fun W h => GR.cells h p3
  have g0 : ∀ W, GR w5 W → _ := fun W h => GR.cells h q0
  have g1 : ∀ W, GR w5 W → _ := fun W h => GR.cells h q1
  have g2 : ∀ W, GR w5 W → _ := fun W h => GR.cells h q2
  have g3 : ∀ W, GR w5 W → _ := fun W h => GR.cells h q3
  clear p0 p1 p2 p3 q0 q1 q2 q3
  have hS : (GR w5) _ := (GR.refl _).drew
  refine wp_region_held_drew (S := GR w5) (by kernel_rfl) hS (fun _ => ?_)
  refine wpAnyH_take (i := 0) (v := ?vC0) rfl (by kernel_rfl) (by kernel_rfl) (by kernel_rfl) (fun _ _ _ h => h) (Or.inl ⟨by rfl, ?hyC0⟩) hS ?restC0
  case hyC0 =>
    intro w hSw
    first | (go_simp; done) | (go_simp; with_reducible rfl)
  try simp only [Act.put, List.setIfInBounds_toArray, List.set_cons_zero, List.set_cons_succ]
  refine wpAnyH_take (i := 1) (v := ?vC1) rfl (by kernel_rfl) (by kernel_rfl) (by kernel_rfl) (fun _ _ _ h => h) (Or.inl ⟨by rfl, ?hyC1⟩) hS ?restC1
  case hyC1 =>
    intro w hSw
    have k0 := f0 w hSw; have k1 := f1 w hSw; have k2 := f2 w hSw; have k3 := f3 w hSw; have k4 := g0 w hSw; have k5 := g1 w hSw; have k6 := g2 w hSw; have k7 := g3 w hSw
    first | (go_simp; done) | (go_simp; with_reducible rfl)
  try simp only [Act.put, List.setIfInBounds_toArray, List.set_cons_zero, List.set_cons_succ]
  refine wpAnyH_take (i := 2) (v := ?vC2) rfl (by kernel_rfl) (by kernel_rfl) (by kernel_rfl) (fun _ _ _ h => h) (Or.inl ⟨by rfl, ?hyC2⟩) hS ?restC2
  case hyC2 =>
    intro w hSw
    first | (go_simp; done) | (go_simp; with_reducible rfl)
  try simp only [Act.put, List.setIfInBounds_toArray, List.set_cons_zero, List.set_cons_succ]
  refine wpAnyH_take (i := 3) (v := ?vC3) rfl (by kernel_rfl) (by kernel_rfl) (by kernel_rfl) (fun _ _ _ h => h) (Or.inl ⟨by rfl, ?hyC3⟩) hS ?restC3
  case hyC3 =>
    intro w hSw
    have k0 := f0 w hSw; have k1 := f1 w hSw; have k2 := f2 w hSw; have k3 := f3 w hSw; have k4 := g0 w hSw; have k5 := g1 w hSw; have k6 := g2 w hSw; have k7 := g3 w hSw
    first | (go_simp; done) | (go_simp; with_reducible rfl)
  try simp only [Act.put, List.setIfInBounds_toArray, List.set_cons_zero, List.set_cons_succ]
  refine wpAnyH_take (i := 5) (v := ?vC5) rfl (by kernel_rfl) (by kernel_rfl) (by kernel_rfl) (fun _ _ _ h => h) (Or.inl ⟨by rfl, ?hyC5⟩) hS ?restC5
  case hyC5 =>
    intro w hSw
    first | (go_simp; done) | (go_simp; with_reducible rfl)
  try simp only [Act.put, List.setIfInBounds_toArray, List.set_cons_zero, List.set_cons_succ]
  refine wpAnyH_take (i := 6) (v := ?vC6) rfl (by kernel_rfl) (by kernel_rfl) (by kernel_rfl) (fun _ _ _ h => h) (Or.inl ⟨by rfl, ?hyC6⟩) hS ?restC6
  case hyC6 =>
    intro w hSw
    have k0 := f0 w hSw; have k1 := f1 w hSw; have k2 := f2 w hSw; have k3 := f3 w hSw; have k4 := g0 w hSw; have k5 := g1 w hSw; have k6 := g2 w hSw; have k7 := g3 w hSw
    first | (go_simp; done) | (go_simp; with_reducible rfl)
  try simp only [Act.put, List.setIfInBounds_toArray, List.set_cons_zero, List.set_cons_succ]
  refine wpAnyH_take (i := 7) (v := ?vC7) rfl (by kernel_rfl) (by kernel_rfl) (by kernel_rfl) (fun _ _ _ h => h) (Or.inl ⟨by rfl, ?hyC7⟩) hS ?restC7
  case hyC7 =>
    intro w hSw
    first | (go_simp; done) | (go_simp; with_reducible rfl)
  try simp only [Act.put, List.setIfInBounds_toArray, List.set_cons_zero, List.set_cons_succ]
  refine wpAnyH_take (i := 8) (v := ?vC8) rfl (by kernel_rfl) (by kernel_rfl) (by kernel_rfl) (fun _ _ _ h => h) (Or.inl ⟨by rfl, ?hyC8⟩) hS ?restC8
  case hyC8 =>
    intro w hSw
    have k0 := f0 w hSw; have k1 := f1 w hSw; have k2 := f2 w hSw; have k3 := f3 w hSw; have k4 := g0 w hSw; have k5 := g1 w hSw; have k6 := g2 w hSw; have k7 := g3 w hSw
    first | (go_simp; done) | (go_simp; with_reducible rfl)
  try simp only [Act.put, List.setIfInBounds_toArray, List.set_cons_zero, List.set_cons_succ]
  refine wpAnyH_take (i := 10) (v := ?vC10) rfl (by kernel_rfl) (by kernel_rfl) (by kernel_rfl) (fun _ _ _ h => h) (Or.inl ⟨by rfl, ?hyC10⟩) hS ?restC10
  case hyC10 =>
    intro w hSw
    first | (go_simp; done) | (go_simp; with_reducible rfl)
  try simp only [Act.put, List.setIfInBounds_toArray, List.set_cons_zero, List.set_cons_succ]
  refine wpAnyH_take (i := 11) (v := ?vC11) rfl (by kernel_rfl) (by kernel_rfl) (by kernel_rfl) (fun _ _ _ h => h) (Or.inl ⟨by rfl, ?hyC11⟩) hS ?restC11
  case hyC11 =>
    intro w hSw
    have k0 := f0 w hSw; have k1 := f1 w hSw; have k2 := f2 w hSw; have k3 := f3 w hSw; have k4 := g0 w hSw; have k5 := g1 w hSw; have k6 := g2 w hSw; have k7 := g3 w hSw
    first | (go_simp; done) | (go_simp; with_reducible rfl)
  try simp only [Act.put, List.setIfInBounds_toArray, List.set_cons_zero, List.set_cons_succ]
  refine wpAnyH_take (i := 12) (v := ?vC12) rfl (by kernel_rfl) (by kernel_rfl) (by kernel_rfl) (fun _ _ _ h => h) (Or.inl ⟨by rfl, ?hyC12⟩) hS ?restC12
  case hyC12 =>
    intro w hSw
    first | (go_simp; done) | (go_simp; with_reducible rfl)
  try simp only [Act.put, List.setIfInBounds_toArray, List.set_cons_zero, List.set_cons_succ]
  refine wpAnyH_take (i := 13) (v := ?vC13) rfl (by kernel_rfl) (by kernel_rfl) (by kernel_rfl) (fun _ _ _ h => h) (Or.inl ⟨by rfl, ?hyC13⟩) hS ?restC13
  case hyC13 =>
    intro w hSw
    have k0 := f0 w hSw; have k1 := f1 w hSw; have k2 := f2 w hSw; have k3 := f3 w hSw; have k4 := g0 w hSw; have k5 := g1 w hSw; have k6 := g2 w hSw; have k7 := g3 w hSw
    first | (go_simp; done) | (go_simp; with_reducible rfl)
  try simp only [Act.put, List.setIfInBounds_toArray, List.set_cons_zero, List.set_cons_succ]
  refine wpAnyH_take (i := 15) (v := ?vC15) rfl (by kernel_rfl) (by kernel_rfl) (by kernel_rfl) (fun _ _ _ h => h) (Or.inl ⟨by rfl, ?hyC15⟩) hS ?restC15
  case hyC15 =>
    intro w hSw
    first | (go_simp; done) | (go_simp; with_reducible rfl)
  try simp only [Act.put, List.setIfInBounds_toArray, List.set_cons_zero, List.set_cons_succ]
  refine wpAnyH_take (i := 16) (v := ?vC16) rfl (by kernel_rfl) (by kernel_rfl) (by kernel_rfl) (fun _ _ _ h => h) (Or.inl ⟨by rfl, ?hyC16⟩) hS ?restC16
  case hyC16 =>
    intro w hSw
    have k0 := f0 w hSw; have k1 := f1 w hSw; have k2 := f2 w hSw; have k3 := f3 w hSw; have k4 := g0 w hSw; have k5 := g1 w hSw; have k6 := g2 w hSw; have k7 := g3 w hSw
    first | (go_simp; done) | (go_simp; with_reducible rfl)
  try simp only [Act.put, List.setIfInBounds_toArray, List.set_cons_zero, List.set_cons_succ]
  refine wpAnyH_take (i := 17) (v := ?vC17) rfl (by kernel_rfl) (by kernel_rfl) (by kernel_rfl) (fun _ _ _ h => h) (Or.inl ⟨by rfl, ?hyC17⟩) hS ?restC17
  case hyC17 =>
    intro w hSw
    first | (go_simp; done) | (go_simp; with_reducible rfl)
  try simp only [Act.put, List.setIfInBounds_toArray, List.set_cons_zero, List.set_cons_succ]
  refine wpAnyH_take (i := 18) (v := ?vC18) rfl (by kernel_rfl) (by kernel_rfl) (by kernel_rfl) (fun _ _ _ h => h) (Or.inl ⟨by rfl, ?hyC18⟩) hS ?restC18
  case hyC18 =>
    intro w hSw
    have k0 := f0 w hSw; have k1 := f1 w hSw; have k2 := f2 w hSw; have k3 := f3 w hSw; have k4 := g0 w hSw; have k5 := g1 w hSw; have k6 := g2 w hSw; have k7 := g3 w hSw
    first | (go_simp; done) | (go_simp; with_reducible rfl)
  try simp only [Act.put, List.setIfInBounds_toArray, List.set_cons_zero, List.set_cons_succ]
  refine wpAnyH_ready (rs := [4]) (by kernel_rfl) (by simp) ?_
  refine AllReadyH.cons rfl (fun K hK => ?_) AllReadyH.nil
  go_simp
  go_wp2_with ((go_at_call 120; with_reducible refine (K1.out _).mono ?_; rintro e w7 ⟨rfl, rfl⟩))
  refine hK.out _ _ hS (fun _ => ?_)
  clear hK K
  refine wpAnyH_ready (rs := [9]) (by kernel_rfl) (by simp) ?_
  refine AllReadyH.cons rfl (fun K hK => ?_) AllReadyH.nil
  go_simp
  go_wp2_with ((go_at_call 121; with_reducible refine (K2.out _).mono ?_; rintro e w7 ⟨rfl, rfl⟩))
  refine hK.out _ _ hS (fun _ => ?_)
  clear hK K
  refine wpAnyH_ready (rs := [14]) (by kernel_rfl) (by simp) ?_
  refine AllReadyH.cons rfl (fun K hK => ?_) AllReadyH.nil
  go_simp
  go_wp2_with ((go_at_call 121; with_reducible refine (K3.out _).mono ?_; rintro e w7 ⟨rfl, rfl⟩))
  refine hK.out _ _ hS (fun _ => ?_)
  clear hK K
  refine wpAnyH_ready (rs := [19]) (by kernel_rfl) (by simp) ?_
  refine AllReadyH.cons rfl (fun K hK => ?_) AllReadyH.nil
  go_simp
  go_wp2_with ((go_at_call 120; with_reducible refine (K4.out _).mono ?_; rintro e w7 ⟨rfl, rfl⟩))
  refine hK.out _ _ hS (fun _ => ?_)
  clear hK K
  refine wpAnyH_ready (rs := [20]) (by kernel_rfl) (by simp) ?_
  refine AllReadyH.cons rfl (fun K hK => ?_) AllReadyH.nil
  go_simp
  have KO := Lib.hid (or_any (some ⟨w5.drew.heap.size, 0, none⟩) 4 [r1, r2, r3, r4] (w5.drew.alloc (.cells #[.int .i64 r1, .int .i64 r2, .int .i64 r3, .int .i64 r4] 3)) (by show 4 ≤ 1000; omega) (RowL.new w5.drew [r1, r2, r3, r4] 3 (enc := encI) (sz := 1) (fun x => rfl) rfl 4))
  rw [← HC.out] at KO
  have hS := hS.alloc (.cells #[.int .i64 r1, .int .i64 r2, .int .i64 r3, .int .i64 r4] 3)
  refine hK.out _ _ hS (fun _ => ?_)
  clear hK K
  refine wpAnyH_ready (rs := [21]) (by kernel_rfl) (by simp) ?_
  refine AllReadyH.cons rfl (fun K hK => ?_) AllReadyH.nil
  go_simp
  go_wp2_with ((go_at_call 119; refine KO.out.mono ?_; rintro e w7 ⟨rfl, rfl⟩))
  refine hK.out _ _ hS (fun _ => ?_)
  clear hK K
  refine wpAnyH_take (i := 22) (v := ?vC22) rfl (by kernel_rfl) (by kernel_rfl) (by kernel_rfl) (fun _ _ _ h => h) (Or.inl ⟨by rfl, ?hyC22⟩) hS ?restC22
  case hyC22 =>
    intro w hSw
    first | (go_simp; done) | (go_simp; with_reducible rfl)
  try simp only [Act.put, List.setIfInBounds_toArray, List.set_cons_zero, List.set_cons_succ]
  refine wpAnyH_done (by kernel_rfl) ?_ _
  try simp only [List.getElem_toArray, List.getElem_cons_succ, List.getElem_cons_zero, List.set_cons_zero, List.set_cons_succ]
  go_wp2
  go_ret
  refine ⟨by first | rfl | simp, ?_⟩
  have hT := GR.trans HG.out hS
  exact hT.grown
theorem own_cellsD {B : Nat} {w : World} {g n cap : Nat} {l : List Lid} (h : ROwn lidT 4 encD B w (.slice (some ⟨g, 0, none⟩) n cap) l) : ∃ cur, w.heap[g]? = some (.cells cur lidT (0, 0)) := by
  rcases h.own.2 with ⟨a, _⟩ | ⟨g', cap', cur, e1, _, hg, _⟩
  · cases a
  · cases e1; exact ⟨cur, hg⟩
instance : Inhabited Lid := ⟨⟨noB, 0, 0, noB⟩⟩
theorem butD4 {w W : World} {g off : Nat} {d : Array Lid} (S : SWK encD 4 w g off d W) : But w W (fun k => (Value.slice (some ⟨g, 0, none⟩) 0 0).ownBlock = some k) := by
  obtain ⟨n, os, rfl⟩ := S
  refine ⟨rfl, rfl, rfl, ?_, fun k hk hne => ?_⟩
  · unfold sortWorldK putRowK; simp
  · unfold sortWorldK putRowK
    rw [Go.Sort.heap_grow_old _ _ (by simp; omega)]
    have : g ≠ k := fun e => hne (by rw [e]; rfl)
    simp [putRow, mapBlock, Sort.ahead, Array.getElem?_modify, this]
theorem belowD4 {w W' : World} {g off B : Nat} {d : Array Lid} (S : SWK encD 4 w g off d W') (hg : B ≤ g) (hB : B ≤ w.heap.size) : Below B w W' := by
  obtain ⟨n, os, rfl⟩ := S
  refine ⟨rfl, rfl, rfl, ?_, fun k hk => ?_⟩
  · unfold sortWorldK putRowK; simp
  · unfold sortWorldK putRowK
    rw [Go.Sort.heap_grow_old _ _ (by simp; omega)]
    have : g ≠ k := by omega
    simp [putRow, mapBlock, Sort.ahead, Array.getElem?_modify, this]
/-- l' is l, the dearest first, and v holds it -/
structure SrtD (B : Nat) (l : List Lid) (w' : World) (v : Value) (l' : List Lid) : Prop where
  perm : l'.Perm l
  ord : ∀ (i j : Nat) (x y : Lid), i < j → l'[i]? = some x → l'[j]? = some y → ¬ ltD y x
  row : RowL 4 encD w' v l'
  fresh : l' = [] ∨ ∀ b o n c, v = .slice (some ⟨b, o, none⟩) n c → B ≤ b
set_option maxRecDepth 100000 in
set_option maxHeartbeats 4000000 in
/-- nothing to sort -/
theorem sortD0_any (g : Value) (w : World) : Calls Tryz.prog 117 #[.slice none 0 0, g] w fun e w' => e = .returned (.tuple #[]) ∧ w' = w := by
  have KL : Hid (∀ W, Calls Tryz.prog 139 #[.int .u64 0] W fun e w' => e = .returned (.int .i64 0) ∧ w' = W) := Lib.hid (fun W => Tryz.bits_Len 0 W (by omega) (by omega))
  have KI : Hid (∀ W, Calls Tryz.prog 149 #[.slice none 0 0, .int .i64 0, .int .i64 0, g] W fun e w' => e = .returned (.tuple #[]) ∧ w' = W) := Lib.hid (fun W => by
    go_enter Tryz.func149, Tryz.ntmps149
    go_wp2
    go_loopw [8] (fun vi wr => vi = .int .i64 1 ∧ wr = W) (fun _ _ => 0)
    case atStart => exact ⟨rfl, rfl⟩
    case round =>
      obtain ⟨rfl, rfl⟩ := hrel
      go_wp2
      refine bodyPost_end (results_none rfl _ _ _) rfl ⟨rfl, rfl⟩)
  have KP : Hid (∀ W, Calls Tryz.prog 138 #[.slice none 0 0, .int .i64 0, .int .i64 0, .int .i64 0, g] W fun e w' => e = .returned (.tuple #[]) ∧ w' = W) := Lib.hid (fun W => by
    go_enter Tryz.func138, Tryz.ntmps138
    go_wp2
    go_loopw [1, 2, 3] (fun v1 v2 v3 wr => v1 = .int .i64 0 ∧ v2 = .int .i64 0 ∧ v3 = .int .i64 0 ∧ wr = W) (fun _ _ _ _ => 0)
    case atStart => exact ⟨rfl, rfl, rfl, rfl⟩
    case round =>
      obtain ⟨rfl, rfl, rfl, rfl⟩ := hrel
      go_wp2_with (go_at_call 149; refine (KI.out _).mono ?_; rintro e w' ⟨rfl, rfl⟩)
      refine bodyPost_ret (results_none rfl _ _ _) rfl ⟨rfl, rfl⟩)
  go_enter Tryz.func117, Tryz.ntmps117
  go_wp2_with (first | (go_at_call 139; refine (KL.out _).mono ?_; rintro e w' ⟨rfl, rfl⟩) | (go_at_call 138; refine (KP.out _).mono ?_; rintro e w' ⟨rfl, rfl⟩))
  refine bodyPost_end (results_none rfl _ _ _) rfl ⟨rfl, rfl⟩
theorem own_twoD {B : Nat} {w : World} {v : Value} {l : List Lid} (h : ROwn lidT 4 encD B w v l) : (v = .slice none 0 0 ∧ l = []) ∨ ∃ g cap cur, v = .slice (some ⟨g, 0, none⟩) l.length cap ∧ B ≤ g ∧ w.heap[g]? = some (.cells cur lidT (0, 0)) := by
  rcases h.own.2 with ⟨a, b⟩ | ⟨g', cap', cur, e1, hg0, hg, hq⟩
  · left
    refine ⟨a, ?_⟩
    cases l with
    | nil => rfl
    | cons x r => simp [cellsR] at b
  · right
    exact ⟨g', cap', cur, e1, hg0, hg⟩
set_option maxHeartbeats 2000000 in
set_option maxRecDepth 100000 in
theorem sortD_any (l : List Lid) (v : Value) (B : Nat) (w : World) (hO : ROwn lidT 4 encD B w v l) (hl : l.length ≤ 1000) :
    Calls Tryz.prog 117 #[v, .func (.func 83) #[] #[]] w fun e w' => e = .returned (.tuple #[]) ∧ (∃ l', SrtD B l w' v l') ∧ But w w' (fun k => v.ownBlock = some k) := by
  rcases own_twoD hO with ⟨rfl, rfl⟩ | ⟨g, cap, cur, rfl, hBg, hcs⟩
  · refine (sortD0_any _ w).mono ?_
    rintro e w' ⟨rfl, rfl⟩
    exact ⟨rfl, ⟨[], ⟨List.Perm.refl _, fun i j x y _ h => by simp at h, ⟨none, 0, rfl, .inl rfl⟩, .inl rfl⟩⟩, But.refl _ _⟩
  have hgs : g < w.heap.size := (Array.getElem?_eq_some_iff.1 hcs).1
  have hcell : ∀ i (hi : i < l.length) j u, (encD l[i])[j]? = some u → w.cell? ⟨g, 0 + i * 4 + j, none⟩ = some u := fun i hi j u hu => by
    have h2 := hO.own.cells (g := g) rfl _ _ (cellsR_at rowD.len l i j l[i] u (List.getElem?_eq_getElem hi) hu)
    rw [Addr.add_lit] at h2
    simpa using h2
  have hH : HoldsK encD 4 w g 0 l.toArray := by
    intro t ht
    rw [size_flatK] at ht
    simp only [List.size_toArray] at ht
    have hi : t / 4 < l.length := by omega
    have e1 : (flatK encD 4 l.toArray)[t]! = (encD l[t / 4])[t % 4]! := by
      rw [get_flatK _ _ _ _ (by simpa using ht)]
      congr 2
      rw [getElem!_pos _ _ (by simpa using hi)]
      simp
    have hm : t % 4 < (encD l[t / 4]).length := by rw [rowD.len]; omega
    refine ⟨?_, frozen_of_row _ _ _ _ _ hcs⟩
    rw [e1, getElem!_pos (encD l[t / 4]) (t % 4) hm]
    have h3 := hcell (t / 4) hi (t % 4) _ (List.getElem?_eq_getElem hm)
    rw [show 0 + t / 4 * 4 + t % 4 = 0 + t from by omega] at h3
    exact h3
  have hcmp : CmpLays Tryz.prog 83 #[] encD 4 cmD g 0 l.toArray.size w := fun m os dk _ x y => cmpD_any x y _
  have C := AnyQ.slices_SortFunc Tryz.sortD 4 (fun w => Tryz.isAgg43 w) (fun w => Tryz.sizeOf43 w) encD rowD.len rowD.one cmD cmD_swo 83 #[] g 0 cap l.toArray w (enters_of Tryz.func83 (by kernel_rfl) rfl) hcmp hH hgs (by simp; omega)
  change Calls Tryz.prog 117 _ _ _ at C
  simp only [List.size_toArray] at C
  refine C.mono ?_
  rintro e w' ⟨rfl, d', n, os, hp, hs, rfl⟩
  have hS : SWK encD 4 w g 0 d' (sortWorldK encD 4 w g 0 n d' os) := ⟨n, os, rfl⟩
  have hsz : d'.size = l.length := by have := hp.1; simpa using this
  have hH2 := hS.holds hgs hH (by simpa using hsz)
  refine ⟨rfl, ⟨d'.toList, ?_, ?_, ?_, .inr (fun b o n c e => by cases e; exact hBg)⟩, butD4 hS⟩
  · have h2 := hp.2.2
    have e1 : d'.extract 0 l.length = d' := by rw [← hsz]; exact Array.extract_size
    have e2 : l.toArray.extract 0 l.length = l.toArray := by
      have : l.length = l.toArray.size := by simp
      rw [this]; exact Array.extract_size
    rw [e1, e2] at h2
    simpa using h2
  · intro i j x y hij hx hy
    have hjl := (List.getElem?_eq_some_iff.1 hy).1
    simp only [Array.length_toList] at hjl
    have h3 := hs i j (Nat.zero_le _) hij (by omega)
    rw [getElem!_pos d' j hjl, getElem!_pos d' i (show i < d'.size by omega)] at h3
    rw [Array.getElem?_toList, Array.getElem?_eq_getElem (by omega)] at hx hy
    cases hx
    cases hy
    rw [← ltOf_D]
    simpa using h3
  · refine ⟨some ⟨g, 0, none⟩, cap, by simp [hsz], .inr ⟨g, 0, rfl, hS.lt hgs, fun i x j u hi hu => ?_⟩⟩
    have hil := (List.getElem?_eq_some_iff.1 hi).1
    simp only [Array.length_toList] at hil
    rw [Array.getElem?_toList, Array.getElem?_eq_getElem hil] at hi
    cases hi
    have hj : j < 4 := by have := (List.getElem?_eq_some_iff.1 hu).1; simpa [encD] using this
    have h4 := (hH2 (i * 4 + j) (by rw [size_flatK]; omega)).1
    rw [get_flatK _ _ _ _ (by omega), show (i * 4 + j) / 4 = i by omega, show (i * 4 + j) % 4 = j by omega, getElem!_pos d' i hil, getElem!_pos (encD d'[i]) j (by simp [encD]; omega)] at h4
    obtain ⟨_, hu2⟩ := List.getElem?_eq_some_iff.1 hu
    rw [show 0 + i * 4 + j = 0 + (i * 4 + j) from by omega, h4, hu2]
    rfl
end Go.Proofs.YtkghpapbifijcaaGreatDoor
