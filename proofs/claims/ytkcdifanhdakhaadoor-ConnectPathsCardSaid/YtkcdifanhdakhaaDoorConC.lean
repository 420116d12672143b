/- Walks of slices.Compare and comparePaths. -/
import Derived.Test.YtkcdifanhdakhaaDoorConM
import Derived.OrdersHeld
import Derived.Deep.RegionHeld
import Derived.Deep.RegionHeld3
import Derived.Deep.CutRange
import Derived.Deep.CutBlock
namespace Go.Proofs.YtkcdifanhdakhaaDoor.Con
open Go.RowKit Go.Shelf Go.Lib Go.Sort
set_option linter.unusedSimpArgs false
set_option linter.unusedVariables false

/-- which of two lists comes first -/
def cmpL : List Nat → List Nat → Int
  | [], [] => 0
  | [], _ :: _ => -1
  | _ :: _, [] => 1
  | a :: x, b :: y => if Lib.compareInt (a : Int) (b : Int) ≠ 0 then Lib.compareInt (a : Int) (b : Int) else cmpL x y
theorem cmpL_step (a b : List Nat) (k : Nat) (x y : Nat) (ha : a[k]? = some x) (hb : b[k]? = some y) : cmpL (a.drop k) (b.drop k) = if Lib.compareInt (x : Int) (y : Int) ≠ 0 then Lib.compareInt (x : Int) (y : Int) else cmpL (a.drop (k + 1)) (b.drop (k + 1)) := by
  obtain ⟨h1, rfl⟩ := List.getElem?_eq_some_iff.1 ha
  obtain ⟨h2, rfl⟩ := List.getElem?_eq_some_iff.1 hb
  rw [List.drop_eq_getElem_cons h1, List.drop_eq_getElem_cons h2]
  rfl
theorem cmpL_long (a b : List Nat) (k : Nat) (ha : k < a.length) (hb : b.length ≤ k) : cmpL (a.drop k) (b.drop k) = 1 := by
  rw [List.drop_eq_getElem_cons ha, List.drop_eq_nil_of_le hb]; rfl
theorem cmpL_short (a b : List Nat) (k : Nat) (ha : a.length ≤ k) (hb : k < b.length) : cmpL (a.drop k) (b.drop k) = -1 := by
  rw [List.drop_eq_getElem_cons hb, List.drop_eq_nil_of_le ha]; rfl
theorem cmpL_even (a b : List Nat) (k : Nat) (ha : a.length ≤ k) (hb : b.length ≤ k) : cmpL (a.drop k) (b.drop k) = 0 := by
  rw [List.drop_eq_nil_of_le ha, List.drop_eq_nil_of_le hb]; rfl
def cfP (S : List Sg) (a b : List Nat) : Int :=
  if Lib.compareInt (sA S (lst a)).arr (sA S (lst b)).arr ≠ 0 then Lib.compareInt (sA S (lst a)).arr (sA S (lst b)).arr
  else if Lib.compareInt (a.length : Int) (b.length : Int) ≠ 0 then Lib.compareInt (a.length : Int) (b.length : Int)
  else cmpL a b
theorem lst_get {p : List Nat} {n : Nat} (h : p.length = n + 1) : p[n]? = some (lst p) := by
  unfold lst
  cases p with
  | nil => simp at h
  | cons a r =>
    rw [List.getLastD_cons]
    have hr : r.length = n := by simpa using h
    subst hr
    cases r with
    | nil => rfl
    | cons b q => rw [List.getLastD_eq_getLast?, List.getLast?_eq_getElem?]; simp

set_option maxRecDepth 100000 in
set_option maxHeartbeats 8000000 in
theorem scmp_any (x y : Pth) (w : World) (hx : PthAt w x) (hy : PthAt w y) (nx : x.l.length ≤ 1000) (ny : y.l.length ≤ 1000) :
    Calls Tryd.prog 41 #[.slice (some ⟨x.b, 0, none⟩) x.l.length x.c, .slice (some ⟨y.b, 0, none⟩) y.l.length y.c] w fun e w' => e = .returned (.int .i64 (cmpL x.l y.l)) ∧ w' = w := by
  obtain ⟨xb, xc, xl⟩ := x
  obtain ⟨yb, yc, yl⟩ := y
  have HX := Lib.hid hx.2
  have HY := Lib.hid hy.2
  dsimp only at HX HY nx ny ⊢
  clear hx hy
  obtain ⟨n, hn⟩ : ∃ n, n = xl.length := ⟨_, rfl⟩
  obtain ⟨m, hm⟩ : ∃ m, m = yl.length := ⟨_, rfl⟩
  rw [← hn, ← hm]
  rw [← hn] at nx
  rw [← hm] at ny
  have HN := Lib.hid hn
  have HM := Lib.hid hm
  clear hn hm
  go_enter Tryd.func41, Tryd.ntmps41
  go_wp2
  go_loopw [11] (fun vi wr => ∃ k : Nat, k ≤ n ∧ vi = .int .i64 k ∧ Hid (k ≤ m ∧ cmpL xl yl = cmpL (xl.drop k) (yl.drop k)) ∧ wr = w) (fun vi _ => n - (intOf vi).toNat)
  case atStart => exact ⟨0, Nat.zero_le _, rfl, Lib.hid ⟨Nat.zero_le _, rfl⟩, rfl⟩
  case round =>
    obtain ⟨k, hk, rfl, HK, rfl⟩ := hrel
    by_cases hlt : k < n
    · have hx : xl[k]? = some (xl[k]'(by have := HN.out; omega)) := List.getElem?_eq_getElem _
      generalize xl[k]'(by have := HN.out; omega) = a at hx
      have c0 := HX.out k a hx
      have i1 : (k : Int) < (n : Int) := by omega
      have H0 := Lib.hid hx
      clear hx
      by_cases hm : m ≤ k
      · have i2 : (m : Int) ≤ (k : Int) := by omega
        have HR : Hid (cmpL xl yl = 1) := Lib.hid (by rw [HK.out.2]; exact cmpL_long _ _ _ (by have := HN.out; omega) (by have := HM.out; omega))
        go_wp2
        go_ret
        exact ⟨ret_int HR.out.symm, rfl⟩
      · have hy : yl[k]? = some (yl[k]'(by have := HM.out; omega)) := List.getElem?_eq_getElem _
        generalize yl[k]'(by have := HM.out; omega) = b at hy
        have c1 := HY.out k b hy
        have i2 : ¬ (m : Int) ≤ (k : Int) := by omega
        have i3 : (k : Int) < (m : Int) := by omega
        have HS := Lib.hid (cmpL_step xl yl k a b H0.out hy)
        clear hy
        have KC := Lib.hid (fun W => cmpI_any (a : Int) (b : Int) W)
        generalize Lib.compareInt (a : Int) (b : Int) = c at *
        cases hc : (c != 0) with
        | true =>
          have HR : Hid (cmpL xl yl = c) := Lib.hid (by rw [HK.out.2, HS.out, if_pos (by simpa using hc)])
          clear HS
          go_wp2_with (go_at_call 40; refine (KC.out _).mono ?_; rintro e w' ⟨rfl, rfl⟩)
          go_ret
          exact ⟨ret_int HR.out.symm, rfl⟩
        | false =>
          have HR : Hid (k + 1 ≤ m ∧ cmpL xl yl = cmpL (xl.drop (k + 1)) (yl.drop (k + 1))) := Lib.hid ⟨by omega, by rw [HK.out.2, HS.out, if_neg (by simpa using hc)]⟩
          clear HS
          go_wp2_with (go_at_call 40; refine (KC.out _).mono ?_; rintro e w' ⟨rfl, rfl⟩)
          go_roundw
          case rel => exact ⟨k + 1, by omega, by go_num, HR, by first | rfl | trivial⟩
          case measure => simp [intOf]; omega
    · have e : k = n := by omega
      subst e
      have i1 : ¬ (k : Int) < (k : Int) := by omega
      by_cases hm : k < m
      · have i2 : (k : Int) < (m : Int) := by omega
        have HR : Hid (cmpL xl yl = -1) := Lib.hid (by rw [HK.out.2]; exact cmpL_short _ _ _ (by have := HN.out; omega) (by have := HM.out; omega))
        go_wp2
        go_ret
        exact ⟨ret_int HR.out.symm, rfl⟩
      · have i2 : ¬ (k : Int) < (m : Int) := by omega
        have HR : Hid (cmpL xl yl = 0) := Lib.hid (by rw [HK.out.2]; exact cmpL_even _ _ _ (by have := HN.out; omega) (by have := HM.out; omega))
        go_wp2
        go_ret
        exact ⟨ret_int HR.out.symm, rfl⟩

set_option maxRecDepth 100000 in
set_option maxHeartbeats 8000000 in
theorem cmpP_any (As : Option Addr) (cs : Nat) (S : List Sg) (x y : Pth) (w : World) (hS : SgL w (.slice As S.length cs) S) (hx : PthAt w x) (hy : PthAt w y) (nx : 1 ≤ x.l.length ∧ x.l.length ≤ 1000) (ny : 1 ≤ y.l.length ∧ y.l.length ≤ 1000) (lx : lst x.l < S.length) (ly : lst y.l < S.length) (hsn : S.length ≤ 1000) :
    Calls Tryd.prog 20 #[.slice As S.length cs, .slice (some ⟨x.b, 0, none⟩) x.l.length x.c, .slice (some ⟨y.b, 0, none⟩) y.l.length y.c] w fun e w' => e = .returned (.int .i64 (cfP S x.l y.l)) ∧ ∃ q os', w' = grow (w.drewN q) os' := by
  have K3 := Lib.hid (fun W (h : Below w.heap.size w W) => scmp_any x y W (pthAt_more hx h) (pthAt_more hy h) nx.2 ny.2)
  obtain ⟨p, hp⟩ : ∃ p, x.l.length = p + 1 := ⟨x.l.length - 1, by omega⟩
  obtain ⟨q, hq⟩ : ∃ q, y.l.length = q + 1 := ⟨y.l.length - 1, by omega⟩
  have p0 := hx.2 p _ (lst_get hp)
  have q0 := hy.2 q _ (lst_get hq)
  obtain ⟨b1, o1, e1, hb1, hc1⟩ := row_get hS (sA_get lx)
  obtain ⟨b2, o2, e2, hb2, hc2⟩ := row_get hS (sA_get ly)
  cases e1
  cases e2
  have p1 := hc1 6 _ rfl
  have q1 := hc2 6 _ rfl
  have HC : Hid (cfP S x.l y.l = (if Lib.compareInt (sA S (lst x.l)).arr (sA S (lst y.l)).arr ≠ 0 then Lib.compareInt (sA S (lst x.l)).arr (sA S (lst y.l)).arr else if Lib.compareInt (x.l.length : Int) (y.l.length : Int) ≠ 0 then Lib.compareInt (x.l.length : Int) (y.l.length : Int) else cmpL x.l y.l)) := Lib.hid rfl
  generalize cfP S x.l y.l = R at *
  rw [hp, hq] at HC K3 ⊢
  rw [show ((p + 1 : Nat) : Int) = (p : Int) + 1 by omega, show ((q + 1 : Nat) : Int) = (q : Int) + 1 by omega] at HC
  have np : p ≤ 1000 := by omega
  have nq : q ≤ 1000 := by omega
  clear hx hy nx ny hS hc1 hc2 hb1 hb2 hp hq
  generalize lst x.l = i at *
  generalize lst y.l = j at *
  generalize x.b = xb at *
  generalize y.b = yb at *
  generalize x.c = xc at *
  generalize y.c = yc at *
  generalize (sA S i).arr = ar at *
  generalize (sA S j).arr = br at *
  generalize cmpL x.l y.l = r3 at *
  have K1 := Lib.hid (fun W => cmpI_any ar br W)
  have K2 := Lib.hid (fun W => cmpI_any ((p : Int) + 1) ((q : Int) + 1) W)
  generalize Lib.compareInt ar br = r1 at *
  generalize Lib.compareInt ((p : Int) + 1) ((q : Int) + 1) = r2 at *
  have K4 := Lib.hid (fun b W => or3_any b r1 r2 r3 W)
  rw [← HC.out] at K4
  clear HC
  have i1 : (i : Int) < (S.length : Int) := by omega
  have i2 : (j : Int) < (S.length : Int) := by omega
  have w1 : IntKind.i64.wrap (p : Int) = (p : Int) := IntWalk.i64_in _ (by omega)
  have w2 : IntKind.i64.wrap (q : Int) = (q : Int) := IntWalk.i64_in _ (by omega)
  have i3 : (p : Int) < (p : Int) + 1 := by omega
  have i4 : (q : Int) < (q : Int) + 1 := by omega
  go_enter Tryd.func20, Tryd.ntmps20
  go_upto_region 1 with fail
  have f0 : ∀ W, GR w W → _ := fun W h => bel_cell h.bel p0
  have g0 : ∀ W, GR w W → _ := fun W h => bel_cell h.bel q0
  have f1 : ∀ W, GR w W → _ := fun W h => bel_cell h.bel p1
  have g1 : ∀ W, GR w W → _ := fun W h => bel_cell h.bel q1
  clear p0 p1 q0 q1
  have O0 : Hid (((w.alloc (.cells #[.int .i64 r1, .int .i64 r2, .int .i64 r3] 3)).drew).cell? ⟨w.heap.size, 0, none⟩ = some (.int .i64 r1)) := Lib.hid ((cells_new w #[.int .i64 r1, .int .i64 r2, .int .i64 r3] 3 0).trans (show _ = some _ from rfl))
  have O1 : Hid (((w.alloc (.cells #[.int .i64 r1, .int .i64 r2, .int .i64 r3] 3)).drew).cell? ⟨w.heap.size, 1, none⟩ = some (.int .i64 r2)) := Lib.hid ((cells_new w #[.int .i64 r1, .int .i64 r2, .int .i64 r3] 3 1).trans (show _ = some _ from rfl))
  have O2 : Hid (((w.alloc (.cells #[.int .i64 r1, .int .i64 r2, .int .i64 r3] 3)).drew).cell? ⟨w.heap.size, 2, none⟩ = some (.int .i64 r3)) := Lib.hid ((cells_new w #[.int .i64 r1, .int .i64 r2, .int .i64 r3] 3 2).trans (show _ = some _ from rfl))

  have hS : (GR w) _ := (GR.refl _).drew
  refine wp_region_held_drew (S := GR w) (by kernel_rfl) hS (fun _ => ?_)
  refine wpAnyH_take (i := 0) (v := ?vC0) rfl (by kernel_rfl) (by kernel_rfl) (by kernel_rfl) (fun _ _ _ h => h) (Or.inl ⟨by rfl, ?hyC0⟩) hS ?restC0
  case hyC0 =>
    intro w hSw
    first | (go_simp; done) | (go_simp; with_reducible rfl)
  try simp only [Act.put, List.setIfInBounds_toArray, List.set_cons_zero, List.set_cons_succ]
  refine wpAnyH_take (i := 1) (v := ?vC1) rfl (by kernel_rfl) (by kernel_rfl) (by kernel_rfl) (fun _ _ _ h => h) (Or.inl ⟨by rfl, ?hyC1⟩) hS ?restC1
  case hyC1 =>
    intro w hSw
    first | (go_simp; done) | (go_simp; with_reducible rfl)
  try simp only [Act.put, List.setIfInBounds_toArray, List.set_cons_zero, List.set_cons_succ]
  refine wpAnyH_take (i := 2) (v := ?vC2) rfl (by kernel_rfl) (by kernel_rfl) (by kernel_rfl) (fun _ _ _ h => h) (Or.inl ⟨by rfl, ?hyC2⟩) hS ?restC2
  case hyC2 =>
    intro w hSw
    first | (go_simp; done) | (go_simp; with_reducible rfl)
  try simp only [Act.put, List.setIfInBounds_toArray, List.set_cons_zero, List.set_cons_succ]
  refine wpAnyH_take (i := 3) (v := ?vC3) rfl (by kernel_rfl) (by kernel_rfl) (by kernel_rfl) (fun _ _ _ h => h) (Or.inl ⟨by rfl, ?hyC3⟩) hS ?restC3
  case hyC3 =>
    intro w hSw
    first | (go_simp; done) | (go_simp; with_reducible rfl)
  try simp only [Act.put, List.setIfInBounds_toArray, List.set_cons_zero, List.set_cons_succ]
  refine wpAnyH_take (i := 4) (v := ?vC4) rfl (by kernel_rfl) (by kernel_rfl) (by kernel_rfl) (fun _ _ _ h => h) (Or.inl ⟨by rfl, ?hyC4⟩) hS ?restC4
  case hyC4 =>
    intro w hSw
    first | (go_simp; done) | (go_simp; with_reducible rfl)
  try simp only [Act.put, List.setIfInBounds_toArray, List.set_cons_zero, List.set_cons_succ]
  refine wpAnyH_take (i := 5) (v := ?vC5) rfl (by kernel_rfl) (by kernel_rfl) (by kernel_rfl) (fun _ _ _ h => h) (Or.inl ⟨by rfl, ?hyC5⟩) hS ?restC5
  case hyC5 =>
    intro w hSw
    have k0 := f0 w hSw; have k1 := f1 w hSw; have k2 := g0 w hSw; have k3 := g1 w hSw
    first | (go_simp; done) | (go_simp; with_reducible rfl)
  try simp only [Act.put, List.setIfInBounds_toArray, List.set_cons_zero, List.set_cons_succ]
  refine wpAnyH_take (i := 6) (v := ?vC6) rfl (by kernel_rfl) (by kernel_rfl) (by kernel_rfl) (fun _ _ _ h => h) (Or.inl ⟨by rfl, ?hyC6⟩) hS ?restC6
  case hyC6 =>
    intro w hSw
    have k0 := f0 w hSw; have k1 := f1 w hSw; have k2 := g0 w hSw; have k3 := g1 w hSw
    first | (go_simp; done) | (go_simp; with_reducible rfl)
  try simp only [Act.put, List.setIfInBounds_toArray, List.set_cons_zero, List.set_cons_succ]
  refine wpAnyH_take (i := 7) (v := ?vC7) rfl (by kernel_rfl) (by kernel_rfl) (by kernel_rfl) (fun _ _ _ h => h) (Or.inl ⟨by rfl, ?hyC7⟩) hS ?restC7
  case hyC7 =>
    intro w hSw
    have k0 := f0 w hSw; have k1 := f1 w hSw; have k2 := g0 w hSw; have k3 := g1 w hSw
    first | (go_simp; done) | (go_simp; with_reducible rfl)
  try simp only [Act.put, List.setIfInBounds_toArray, List.set_cons_zero, List.set_cons_succ]
  refine wpAnyH_take (i := 8) (v := ?vC8) rfl (by kernel_rfl) (by kernel_rfl) (by kernel_rfl) (fun _ _ _ h => h) (Or.inl ⟨by rfl, ?hyC8⟩) hS ?restC8
  case hyC8 =>
    intro w hSw
    first | (go_simp; done) | (go_simp; with_reducible rfl)
  try simp only [Act.put, List.setIfInBounds_toArray, List.set_cons_zero, List.set_cons_succ]
  refine wpAnyH_take (i := 9) (v := ?vC9) rfl (by kernel_rfl) (by kernel_rfl) (by kernel_rfl) (fun _ _ _ h => h) (Or.inl ⟨by rfl, ?hyC9⟩) hS ?restC9
  case hyC9 =>
    intro w hSw
    have k0 := f0 w hSw; have k1 := f1 w hSw; have k2 := g0 w hSw; have k3 := g1 w hSw
    first | (go_simp; done) | (go_simp; with_reducible rfl)
  try simp only [Act.put, List.setIfInBounds_toArray, List.set_cons_zero, List.set_cons_succ]
  refine wpAnyH_take (i := 10) (v := ?vC10) rfl (by kernel_rfl) (by kernel_rfl) (by kernel_rfl) (fun _ _ _ h => h) (Or.inl ⟨by rfl, ?hyC10⟩) hS ?restC10
  case hyC10 =>
    intro w hSw
    first | (go_simp; done) | (go_simp; with_reducible rfl)
  try simp only [Act.put, List.setIfInBounds_toArray, List.set_cons_zero, List.set_cons_succ]
  refine wpAnyH_take (i := 11) (v := ?vC11) rfl (by kernel_rfl) (by kernel_rfl) (by kernel_rfl) (fun _ _ _ h => h) (Or.inl ⟨by rfl, ?hyC11⟩) hS ?restC11
  case hyC11 =>
    intro w hSw
    first | (go_simp; done) | (go_simp; with_reducible rfl)
  try simp only [Act.put, List.setIfInBounds_toArray, List.set_cons_zero, List.set_cons_succ]
  refine wpAnyH_take (i := 12) (v := ?vC12) rfl (by kernel_rfl) (by kernel_rfl) (by kernel_rfl) (fun _ _ _ h => h) (Or.inl ⟨by rfl, ?hyC12⟩) hS ?restC12
  case hyC12 =>
    intro w hSw
    first | (go_simp; done) | (go_simp; with_reducible rfl)
  try simp only [Act.put, List.setIfInBounds_toArray, List.set_cons_zero, List.set_cons_succ]
  refine wpAnyH_take (i := 13) (v := ?vC13) rfl (by kernel_rfl) (by kernel_rfl) (by kernel_rfl) (fun _ _ _ h => h) (Or.inl ⟨by rfl, ?hyC13⟩) hS ?restC13
  case hyC13 =>
    intro w hSw
    first | (go_simp; done) | (go_simp; with_reducible rfl)
  try simp only [Act.put, List.setIfInBounds_toArray, List.set_cons_zero, List.set_cons_succ]
  refine wpAnyH_take (i := 14) (v := ?vC14) rfl (by kernel_rfl) (by kernel_rfl) (by kernel_rfl) (fun _ _ _ h => h) (Or.inl ⟨by rfl, ?hyC14⟩) hS ?restC14
  case hyC14 =>
    intro w hSw
    first | (go_simp; done) | (go_simp; with_reducible rfl)
  try simp only [Act.put, List.setIfInBounds_toArray, List.set_cons_zero, List.set_cons_succ]
  refine wpAnyH_take (i := 15) (v := ?vC15) rfl (by kernel_rfl) (by kernel_rfl) (by kernel_rfl) (fun _ _ _ h => h) (Or.inl ⟨by rfl, ?hyC15⟩) hS ?restC15
  case hyC15 =>
    intro w hSw
    have k0 := f0 w hSw; have k1 := f1 w hSw; have k2 := g0 w hSw; have k3 := g1 w hSw
    first | (go_simp; done) | (go_simp; with_reducible rfl)
  try simp only [Act.put, List.setIfInBounds_toArray, List.set_cons_zero, List.set_cons_succ]
  refine wpAnyH_take (i := 16) (v := ?vC16) rfl (by kernel_rfl) (by kernel_rfl) (by kernel_rfl) (fun _ _ _ h => h) (Or.inl ⟨by rfl, ?hyC16⟩) hS ?restC16
  case hyC16 =>
    intro w hSw
    have k0 := f0 w hSw; have k1 := f1 w hSw; have k2 := g0 w hSw; have k3 := g1 w hSw
    first | (go_simp; done) | (go_simp; with_reducible rfl)
  try simp only [Act.put, List.setIfInBounds_toArray, List.set_cons_zero, List.set_cons_succ]
  refine wpAnyH_take (i := 17) (v := ?vC17) rfl (by kernel_rfl) (by kernel_rfl) (by kernel_rfl) (fun _ _ _ h => h) (Or.inl ⟨by rfl, ?hyC17⟩) hS ?restC17
  case hyC17 =>
    intro w hSw
    have k0 := f0 w hSw; have k1 := f1 w hSw; have k2 := g0 w hSw; have k3 := g1 w hSw
    first | (go_simp; done) | (go_simp; with_reducible rfl)
  try simp only [Act.put, List.setIfInBounds_toArray, List.set_cons_zero, List.set_cons_succ]
  refine wpAnyH_take (i := 18) (v := ?vC18) rfl (by kernel_rfl) (by kernel_rfl) (by kernel_rfl) (fun _ _ _ h => h) (Or.inl ⟨by rfl, ?hyC18⟩) hS ?restC18
  case hyC18 =>
    intro w hSw
    first | (go_simp; done) | (go_simp; with_reducible rfl)
  try simp only [Act.put, List.setIfInBounds_toArray, List.set_cons_zero, List.set_cons_succ]
  refine wpAnyH_take (i := 19) (v := ?vC19) rfl (by kernel_rfl) (by kernel_rfl) (by kernel_rfl) (fun _ _ _ h => h) (Or.inl ⟨by rfl, ?hyC19⟩) hS ?restC19
  case hyC19 =>
    intro w hSw
    have k0 := f0 w hSw; have k1 := f1 w hSw; have k2 := g0 w hSw; have k3 := g1 w hSw
    first | (go_simp; done) | (go_simp; with_reducible rfl)
  try simp only [Act.put, List.setIfInBounds_toArray, List.set_cons_zero, List.set_cons_succ]
  refine wpAnyH_take (i := 21) (v := ?vC21) rfl (by kernel_rfl) (by kernel_rfl) (by kernel_rfl) (fun _ _ _ h => h) (Or.inl ⟨by rfl, ?hyC21⟩) hS ?restC21
  case hyC21 =>
    intro w hSw
    first | (go_simp; done) | (go_simp; with_reducible rfl)
  try simp only [Act.put, List.setIfInBounds_toArray, List.set_cons_zero, List.set_cons_succ]
  refine wpAnyH_take (i := 22) (v := ?vC22) rfl (by kernel_rfl) (by kernel_rfl) (by kernel_rfl) (fun _ _ _ h => h) (Or.inl ⟨by rfl, ?hyC22⟩) hS ?restC22
  case hyC22 =>
    intro w hSw
    first | (go_simp; done) | (go_simp; with_reducible rfl)
  try simp only [Act.put, List.setIfInBounds_toArray, List.set_cons_zero, List.set_cons_succ]
  refine wpAnyH_take (i := 23) (v := ?vC23) rfl (by kernel_rfl) (by kernel_rfl) (by kernel_rfl) (fun _ _ _ h => h) (Or.inl ⟨by rfl, ?hyC23⟩) hS ?restC23
  case hyC23 =>
    intro w hSw
    first | (go_simp; done) | (go_simp; with_reducible rfl)
  try simp only [Act.put, List.setIfInBounds_toArray, List.set_cons_zero, List.set_cons_succ]
  refine wpAnyH_take (i := 24) (v := ?vC24) rfl (by kernel_rfl) (by kernel_rfl) (by kernel_rfl) (fun _ _ _ h => h) (Or.inl ⟨by rfl, ?hyC24⟩) hS ?restC24
  case hyC24 =>
    intro w hSw
    first | (go_simp; done) | (go_simp; with_reducible rfl)
  try simp only [Act.put, List.setIfInBounds_toArray, List.set_cons_zero, List.set_cons_succ]
  refine wpAnyH_take (i := 26) (v := ?vC26) rfl (by kernel_rfl) (by kernel_rfl) (by kernel_rfl) (fun _ _ _ h => h) (Or.inl ⟨by rfl, ?hyC26⟩) hS ?restC26
  case hyC26 =>
    intro w hSw
    first | (go_simp; done) | (go_simp; with_reducible rfl)
  try simp only [Act.put, List.setIfInBounds_toArray, List.set_cons_zero, List.set_cons_succ]
  refine wpAnyH_take (i := 27) (v := ?vC27) rfl (by kernel_rfl) (by kernel_rfl) (by kernel_rfl) (fun _ _ _ h => h) (Or.inl ⟨by rfl, ?hyC27⟩) hS ?restC27
  case hyC27 =>
    intro w hSw
    first | (go_simp; done) | (go_simp; with_reducible rfl)
  try simp only [Act.put, List.setIfInBounds_toArray, List.set_cons_zero, List.set_cons_succ]
  refine wpAnyH_ready (rs := [20]) (by kernel_rfl) (by simp) ?_
  refine AllReadyH.cons rfl (fun K hK => ?_) AllReadyH.nil
  go_simp
  go_wp2_with ((go_at_call 40; with_reducible refine (K1.out _).mono ?_; rintro e w7 ⟨rfl, rfl⟩))
  refine hK.out _ _ hS (fun _ => ?_)
  clear hK K
  refine wpAnyH_ready (rs := [25]) (by kernel_rfl) (by simp) ?_
  refine AllReadyH.cons rfl (fun K hK => ?_) AllReadyH.nil
  go_simp
  go_wp2_with ((go_at_call 40; with_reducible refine (K2.out _).mono ?_; rintro e w7 ⟨rfl, rfl⟩))
  refine hK.out _ _ hS (fun _ => ?_)
  clear hK K
  refine wpAnyH_ready (rs := [28]) (by kernel_rfl) (by simp) ?_
  refine AllReadyH.cons rfl (fun K hK => ?_) AllReadyH.nil
  go_simp
  go_wp2_with ((go_at_call 41; with_reducible refine (K3.out _ hS.bel).mono ?_; rintro e w7 ⟨rfl, rfl⟩))
  refine hK.out _ _ hS (fun _ => ?_)
  clear hK K
  refine wpAnyH_ready (rs := [29]) (by kernel_rfl) (by simp) ?_
  refine AllReadyH.cons rfl (fun K hK => ?_) AllReadyH.nil
  go_simp
  have hSp := hS
  have hS := hS.alloc (.cells #[.int .i64 r1, .int .i64 r2, .int .i64 r3] 3)
  refine hK.out _ _ hS (fun _ => ?_)
  clear hK K
  refine wpAnyH_ready (rs := [30]) (by kernel_rfl) (by simp) ?_
  refine AllReadyH.cons rfl (fun K hK => ?_) AllReadyH.nil
  go_simp
  go_wp2_with ((go_at_call 39; refine (K4.out _ _ O0.out O1.out O2.out).mono ?_; rintro e w7 ⟨rfl, rfl⟩))
  refine hK.out _ _ hS (fun _ => ?_)
  clear hK K
  refine wpAnyH_take (i := 31) (v := ?vC31) rfl (by kernel_rfl) (by kernel_rfl) (by kernel_rfl) (fun _ _ _ h => h) (Or.inl ⟨by rfl, ?hyC31⟩) hS ?restC31
  case hyC31 =>
    intro w hSw
    first | (go_simp; done) | (go_simp; with_reducible rfl)
  try simp only [Act.put, List.setIfInBounds_toArray, List.set_cons_zero, List.set_cons_succ]
  refine wpAnyH_done (by kernel_rfl) ?_ _

  try simp only [List.getElem_toArray, List.getElem_cons_succ, List.getElem_cons_zero, List.set_cons_zero, List.set_cons_succ]
  have HF := Lib.hid (GR.grown hS)
  clear hS
  go_wp2
  go_ret
  exact ⟨rfl, HF.out⟩

end Go.Proofs.YtkcdifanhdakhaaDoor.Con
