/- The law BidMore. -/
import Derived.Test.YtjogjlfgfohihaaBidI
namespace Go.Proofs.Ytjogjlfgfohihaa
open Go.RowKit Go.Shelf
set_option linter.unusedSimpArgs false
set_option linter.unusedVariables false

/-- one seat more that is left, none where fewer than none are -/
def upF (y : Int) : Int := (if y < -1 then -1 else y) + 1
theorem seN_value (cv : List (List Int)) (lf : List Int) (value most : Int) : seN cv lf value most ≤ seN cv lf (value + 1) most :=
  (seN_ok cv lf value most).mono (seN_ok cv lf (value + 1) most) rfl (Nat.le_refl _) (fun k h => ⟨h.1, by have := h.2; omega⟩)
theorem moF_mono {a b : Int} (h : a ≤ b) : moF a ≤ moF b := by unfold moF; split <;> split <;> omega
theorem seN_most (cv : List (List Int)) (lf : List Int) (value most : Int) : seN cv lf value most ≤ seN cv lf value (most + 1) :=
  (seN_ok cv lf value most).mono (seN_ok cv lf value (most + 1)) rfl (moF_mono (by omega)) (fun k h => h)
theorem seN_left {cv : List (List Int)} (hP : ∀ a ∈ cv, RgtP a) (lf : List Int) (value most : Int) : seN cv lf value most ≤ seN cv (lf.map upF) value most :=
  (seN_ok cv lf value most).mono (seN_ok cv (lf.map upF) value most) (by simp) (Nat.le_refl _) (fun k h => ⟨fun x hx => by
    obtain ⟨y, hy, rfl⟩ := List.mem_map.1 hx
    have := h.1 y hy
    unfold upF
    split <;> omega, by
    have h1 := alF_more hP lf (lf.map upF) k (fun i x y hx hy => by
      have h2 := h.1 x (List.mem_of_getElem? hx)
      rw [List.getElem?_map, hx] at hy
      simp at hy
      subst hy
      refine ⟨h2, ?_⟩
      unfold upF
      split <;> omega) (by simp)
    have := h.2
    omega⟩)
theorem seN_seats {cv : List (List Int)} {lf : List Int} {value most : Int} (h0 : 0 < seN cv lf value most) : (∀ x ∈ lf, (seN cv lf value most : Int) ≤ x) ∧ cv.length = lf.length ∧ alF cv lf ((seN cv lf value most : Int) - 1) ≤ value := by
  have h := seN_ok cv lf value most
  generalize seN cv lf value most = r at *
  unfold SeatsR at h
  split at h
  · omega
  · rename_i hc
    have h1 := h.2.1 (r - 1) (by omega)
    have e1 : ((r - 1 : Nat) : Int) = (r : Int) - 1 := by omega
    unfold GdP at h1
    rw [e1] at h1
    exact ⟨fun x hx => by have := h1.1 x hx; omega, by omega, h1.2⟩
theorem map_up (lf : List Int) (k : Nat) (y : Int) (h : lf[k]? = some y) : (lf.take (k + 1)).map upF = (lf.take k).map upF ++ [upF y] := by
  rw [List.take_add_one, h]; simp
theorem alF_stop {cv : List (List Int)} {lf : List Int} {k : Nat} (n : Int) (h : cv.length ≤ k ∨ lf.length ≤ k) : alF (cv.take k) (lf.take k) n = alF cv lf n := by
  induction cv generalizing lf k with
  | nil => simp [alF]
  | cons a r ih =>
    cases lf with
    | nil => simp [alF]
    | cons x q =>
      cases k with
      | zero => simp at h
      | succ k =>
        simp only [List.take_succ_cons, alF]
        rw [ih (by simpa using h)]
set_option maxRecDepth 100000 in
set_option maxHeartbeats 8000000 in
theorem bidMore_walk (A : Option Addr) (c : Nat) (L : List Cv) (B : Option Addr) (e : Nat) (lf : List Int) (value most : Int) (w : World) (hL : CvsL w (.slice A L.length c) L) (hM : IntR w (.slice B lf.length e) lf) (hi : ∀ x ∈ lf, -9223372036854775808 ≤ x ∧ x ≤ 9223372036854775807)
    (hl : L.length < 9223372036854775808) (hx : ∀ x ∈ L, x.l.length < 9223372036854775808) (hll : lf.length ≤ 1048576) (hmo : -9223372036854775808 ≤ most) :
    Calls Try.prog 7 #[.agg #[.slice A L.length c, .slice B lf.length e], .int .i64 value, .int .i64 most] w fun e w' => e = .returned (.bool true) ∧ Below w.heap.size w w' := by
  have KA := Lib.hid knows_any
  have hbA := bel_alloc w (.cells #[.slice A L.length c, .slice B lf.length e] 35)
  obtain ⟨y0, y1⟩ := box_cells w (.slice A L.length c) (.slice B lf.length e) 35
  have KE := Lib.hid (exp_any A c L (.slice B lf.length e) _ (hL.more hbA) hl hx)
  have HBA := Lib.hid hbA
  by_cases hc : expB L = true ∧ -1152921504606846976 ≤ value ∧ value ≤ 1152921504606846976 ∧ most ≤ 1152921504606846976
  rotate_left
  · clear hL hM hbA
    cases hE : expB L with
    | false =>
      rw [hE] at KE
      clear hE hc
      go_enter Try.func7, Try.ntmps7
      go_wp2_with (first
        | (go_at_call 18; with_reducible refine KE.out.mono ?_; rintro e w1 ⟨rfl, hS1⟩)
        | (go_at_call 8; with_reducible refine (KA.out _).mono ?_; rintro e wd ⟨rfl, hbd⟩))
      go_ret
      exact ⟨rfl, HBA.out.trans ((hS1.trans (hbd.mono hS1.size)).mono HBA.out.size)⟩
    | true =>
      rw [hE] at KE
      rw [hE] at hc
      by_cases h1 : value < -1152921504606846976
      · clear hE hc
        go_enter Try.func7, Try.ntmps7
        go_wp2_with (first
          | (go_at_call 18; with_reducible refine KE.out.mono ?_; rintro e w1 ⟨rfl, hS1⟩)
          | (go_at_call 8; with_reducible refine (KA.out _).mono ?_; rintro e wd ⟨rfl, hbd⟩))
        go_ret
        exact ⟨rfl, HBA.out.trans ((hS1.trans (hbd.mono hS1.size)).mono HBA.out.size)⟩
      · by_cases h2 : 1152921504606846976 < value
        · clear hE hc
          go_enter Try.func7, Try.ntmps7
          go_wp2_with (first
            | (go_at_call 18; with_reducible refine KE.out.mono ?_; rintro e w1 ⟨rfl, hS1⟩)
            | (go_at_call 8; with_reducible refine (KA.out _).mono ?_; rintro e wd ⟨rfl, hbd⟩))
          go_ret
          exact ⟨rfl, HBA.out.trans ((hS1.trans (hbd.mono hS1.size)).mono HBA.out.size)⟩
        · have h3 : 1152921504606846976 < most := by
            by_cases h4 : 1152921504606846976 < most
            · exact h4
            · exact absurd ⟨rfl, by omega, by omega, by omega⟩ hc
          clear hE hc
          go_enter Try.func7, Try.ntmps7
          go_wp2_with (first
            | (go_at_call 18; with_reducible refine KE.out.mono ?_; rintro e w1 ⟨rfl, hS1⟩)
            | (go_at_call 8; with_reducible refine (KA.out _).mono ?_; rintro e wd ⟨rfl, hbd⟩))
          go_ret
          exact ⟨rfl, HBA.out.trans ((hS1.trans (hbd.mono hS1.size)).mono HBA.out.size)⟩
  obtain ⟨hE, v1, v2, v3⟩ := hc
  rw [hE] at KE
  obtain ⟨h1, h2⟩ := expB_yes hE
  have hok : OkCs L lf := ⟨h1, by omega, hi⟩
  have HOK := Lib.hid hok
  have hl36 : L.length ≤ 36 := h2
  have HSE : Hid (∀ (value most : Int) W, SW w W → Calls Try.prog 19 #[.slice A L.length c, .slice B lf.length e, .int .i64 value, .int .i64 most] W fun e w' => e = .returned (.int .i64 (seN (pls L) lf value most : Int)) ∧ Below W.heap.size W w') := Lib.hid (fun value most W h => seats_n A c L B e lf value most W (hL.more h) (hM.more h) hok (by omega))
  have HSF : Hid (∀ (B : Option Addr) (e : Nat) (W : World), SW w W → (∀ x ∈ lf, x ≤ 100000) → IntR W (.slice B (lf.map upF).length e) (lf.map upF) → Calls Try.prog 19 #[.slice A L.length c, .slice B (lf.map upF).length e, .int .i64 value, .int .i64 most] W fun e w' => e = .returned (.int .i64 (seN (pls L) (lf.map upF) value most : Int)) ∧ Below W.heap.size W w') := Lib.hid (fun B e W h hb hv => seats_n A c L B e (lf.map upF) value most W (hL.more h) hv ⟨h1, by omega, fun x hx => by
    obtain ⟨y, hy, rfl⟩ := List.mem_map.1 hx
    have := hb y hy
    unfold upF
    split <;> omega⟩ (by simp; omega))
  obtain ⟨r, hr⟩ : ∃ r, r = seN (pls L) lf value most := ⟨_, rfl⟩
  have hr0 : r ≤ 999 := by rw [hr]; exact Nat.le_trans (seN_in _ _ _ _) (moF_le _)
  have HRM : Hid ((r : Int) ≤ if most < 0 then 0 else most) := Lib.hid (by
    have h3 := seN_in (pls L) lf value most
    rw [← hr] at h3
    have h4 := moF_min most
    split <;> split at h4 <;> omega)
  have HV1 : Hid (r ≤ seN (pls L) lf (value + 1) most) := Lib.hid (by rw [hr]; exact seN_value _ _ _ _)
  have HM1 : Hid (r ≤ seN (pls L) lf value (most + 1)) := Lib.hid (by rw [hr]; exact seN_most _ _ _ _)
  have HF1 : Hid (r ≤ seN (pls L) (lf.map upF) value most) := Lib.hid (by rw [hr]; exact seN_left hok.pls _ _ _)
  have HST : Hid (0 < r → (∀ x ∈ lf, (r : Int) ≤ x) ∧ (pls L).length = lf.length ∧ alF (pls L) lf ((r : Int) - 1) ≤ value) := Lib.hid (by rw [hr]; exact seN_seats)
  have HL := Lib.hid hL
  have HMM := Lib.hid hM
  have HHI := Lib.hid hi
  have HSE1 := Lib.hid (HSE.out value most)
  have HSE2 := Lib.hid (HSE.out (value + 1) most)
  have HSE3 := Lib.hid (HSE.out value (most + 1))
  rw [← hr] at HSE1
  have hr1 : seN (pls L) lf (value + 1) most ≤ 999 := Nat.le_trans (seN_in _ _ _ _) (moF_le _)
  have hr2 : seN (pls L) lf value (most + 1) ≤ 999 := Nat.le_trans (seN_in _ _ _ _) (moF_le _)
  have hr3 : seN (pls L) (lf.map upF) value most ≤ 999 := Nat.le_trans (seN_in _ _ _ _) (moF_le _)
  generalize seN (pls L) lf (value + 1) most = r1 at *
  generalize seN (pls L) lf value (most + 1) = r2 at *
  generalize seN (pls L) (lf.map upF) value most = r3 at *
  clear hL hM hE hbA h1 h2 hok hi hx HSE hr
  go_enter Try.func7, Try.ntmps7
  go_upto_region 3 with (go_at_call 18; with_reducible refine KE.out.mono ?_; rintro e w1 ⟨rfl, hS1⟩)
  have z0 := bel_cell hS1 y0
  have z1 := bel_cell hS1 y1
  have HW1 : Hid (SW w w1) := Lib.hid (HBA.out.trans (hS1.mono HBA.out.size))
  clear y0 y1 hS1 KE
  obtain ⟨bx, hbx⟩ : ∃ bx, bx = w.heap.size := ⟨_, rfl⟩
  rw [← hbx] at z0 z1
  rw [← hbx]
  have HBX := Lib.hid hbx
  clear hbx
  have HUP : Hid (∀ W, SW w1 W → SW w W) := Lib.hid (fun W h => Below.trans HW1.out (Below.mono h HW1.out.size))
  have Q0 := Lib.hid (fun W (h : SW w1 W) => bel_get z0 _ h)
  have Q1 := Lib.hid (fun W (h : SW w1 W) => bel_get z1 _ h)
  go_upto_region 4 with (go_at_call 19; with_reducible refine (HSE1.out _ HW1.out).mono ?_; rintro e w2 ⟨rfl, hb2⟩)
  have hS2 : SW w1 w2 := hb2
  clear z0 z1 HSE1
  have z0 := Q0.out _ hS2
  have z1 := Q1.out _ hS2
  have g0 : decide ((r : Int) < 0) = false := decide_eq_false (by omega)
  have hrm : (r : Int) ≤ max most 0 := by have := HRM.out; split at this <;> omega
  have g2 : decide ((999 : Int) < (r : Int)) = false := decide_eq_false (by omega)
  have g2' : decide (999 < r) = false := decide_eq_false (by omega)
  have g3 : decide ((r1 : Int) < (r : Int)) = false := decide_eq_false (by have := HV1.out; omega)
  have g3' : decide (r1 < r) = false := decide_eq_false (by have := HV1.out; omega)
  have g4 : decide ((r2 : Int) < (r : Int)) = false := decide_eq_false (by have := HM1.out; omega)
  have g4' : decide (r2 < r) = false := decide_eq_false (by have := HM1.out; omega)
  go_upto_region 6 with (first
    | (go_at_call 19; with_reducible refine (HSE2.out _ (HUP.out _ hS2)).mono ?_; rintro e w3 ⟨rfl, hb3⟩; have hS3 := Below.trans hS2 (Below.mono hb3 (Below.size hS2)); have z0 := Q0.out _ hS3; have z1 := Q1.out _ hS3)
    | (go_at_call 19; with_reducible refine (HSE3.out _ (HUP.out _ hS3)).mono ?_; rintro e w4 ⟨rfl, hb4⟩; have hS4 := Below.trans hS3 (Below.mono hb4 (Below.size hS3))))
  have HB4 : Hid (SW w1 w4) := Lib.hid hS4
  clear z0 z1 hb2 hb3 hb4 hS2 hS3 hS4 HSE2 HSE3 g0 g2 g2' g3 g3' g4 g4' hrm
  obtain ⟨q, hq⟩ : ∃ q, q = lf.length := ⟨_, rfl⟩
  have HQ := Lib.hid hq
  rw [← hq] at HMM Q1 hll
  clear hq
  go_wp2
  go_loopw [8, 9] (fun v8 vi wr => ∃ (v : Value) (k : Nat), v = v8 ∧ k ≤ q ∧ vi = .int .i64 k ∧ Hid (ROwn 3 1 encI w1.heap.size wr v ((lf.take k).map upF) ∧ SW w1 wr ∧ ∀ x ∈ lf.take k, x ≤ 100000)) (fun _ vi _ => q - (intOf vi).toNat)
  case atStart => exact ⟨_, 0, rfl, Nat.zero_le _, rfl, Lib.hid ⟨ROwn.nil (Below.size HB4.out), HB4.out, fun x hx => by simp at hx⟩⟩
  case round =>
    obtain ⟨v, k, rfl, hk, rfl, HK⟩ := hrel
    have z1 := Q1.out _ HK.out.2.1
    by_cases hlt : k < q
    · obtain ⟨y, hy⟩ : ∃ y, lf[k]? = some y := ⟨_, List.getElem?_eq_getElem (by rw [← HQ.out]; exact hlt)⟩
      obtain ⟨b, off, e1, hgl, ha⟩ := row_get (HMM.out.more (HUP.out _ HK.out.2.1)) hy
      subst e1
      have i2 : (k : Int) < (q : Int) := by omega
      have zz := ha 0 _ rfl
      rw [Nat.mul_one, Nat.add_zero] at zz
      have hyi := HHI.out y (List.mem_of_getElem? hy)
      have HM := Lib.hid (map_up lf k y hy)
      have HTK : Hid (y ≤ 100000 → ∀ x ∈ lf.take (k + 1), x ≤ 100000) := Lib.hid (fun h x hx => by
        rw [List.take_add_one, hy] at hx
        rcases List.mem_append.1 hx with hx | hx
        · exact HK.out.2.2 x hx
        · simp at hx; omega)
      clear ha hgl hy
      by_cases hyb : 100000 < y
      · have HE := Lib.hid (HUP.out _ HK.out.2.1)
        go_wp2_with (go_at_call 8; with_reducible refine (KA.out _).mono ?_; rintro e wd ⟨rfl, hbd⟩)
        go_ret
        exact ⟨rfl, HE.out.trans (hbd.mono HE.out.size)⟩
      · have HT2 := Lib.hid (HTK.out (by omega))
        have HLn : Hid (((lf.take k).map upF).length ≤ 100000000) := Lib.hid (by have := HQ.out; simp; omega)
        have hO := HK.out.1
        by_cases hneg : y < -1
        · have HUF : Hid (upF y = 0) := Lib.hid (by unfold upF; rw [if_pos hneg]; rfl)
          have e9 : max y (-1) = -1 := by omega
          go_wp2_with (at_builtin; refine wpList_rapp rowI rfl _ _ rfl hO rfl (bel_alloc _ _) _ (0 : Int) _ rfl (cs := #[.int .i64 0]) rfl (heap_alloc_new _ _) HLn.out ?_; intro v1 w9 hO1 hC1)
          have HY : Hid (ROwn 3 1 encI w1.heap.size w9 v1 ((lf.take (k + 1)).map upF) ∧ SW w1 w9 ∧ ∀ x ∈ lf.take (k + 1), x ≤ 100000) := Lib.hid ⟨by rw [HM.out, HUF.out]; exact hO1, Below.trans HK.out.2.1 (hC1.below hO), HT2.out⟩
          clear hO hO1 hC1
          go_roundw
          case rel => exact ⟨_, k + 1, rfl, by omega, by go_num, HY⟩
          case measure => simp [intOf]; omega
        · have HUF : Hid (upF y = y + 1) := Lib.hid (by unfold upF; rw [if_neg hneg])
          have e9 : max y (-1) = y := by omega
          go_wp2_with (at_builtin; refine wpList_rapp rowI rfl _ _ rfl hO rfl (bel_alloc _ _) _ (y + 1) _ rfl (cs := #[.int .i64 (y + 1)]) rfl (heap_alloc_new _ _) HLn.out ?_; intro v1 w9 hO1 hC1)
          have HY : Hid (ROwn 3 1 encI w1.heap.size w9 v1 ((lf.take (k + 1)).map upF) ∧ SW w1 w9 ∧ ∀ x ∈ lf.take (k + 1), x ≤ 100000) := Lib.hid ⟨by rw [HM.out, HUF.out]; exact hO1, Below.trans HK.out.2.1 (hC1.below hO), HT2.out⟩
          clear hO hO1 hC1
          go_roundw
          case rel => exact ⟨_, k + 1, rfl, by omega, by go_num, HY⟩
          case measure => simp [intOf]; omega
    · have i2 : ¬ (k : Int) < (q : Int) := by omega
      have hO := HK.out.1
      have hS5 := HK.out.2.1
      have hbig := HK.out.2.2
      rw [List.take_of_length_le (by have := HQ.out; omega)] at hO hbig
      obtain ⟨A8, c8, rfl⟩ := own_any hO
      have HSF1 : Hid (∀ W, SW wr W → Calls Try.prog 19 #[.slice A L.length c, .slice A8 (lf.map upF).length c8, .int .i64 value, .int .i64 most] W fun e w' => e = .returned (.int .i64 (r3 : Int)) ∧ Below W.heap.size W w') := Lib.hid (fun W h => HSF.out A8 c8 W (HUP.out _ (Below.trans hS5 (Below.mono h (Below.size hS5)))) hbig ((hO.rowL rowI.len).more h))
      have HS5 : Hid (SW w1 wr) := Lib.hid hS5
      have HBG := Lib.hid hbig
      obtain ⟨q2, hq2⟩ : ∃ q2, q2 = (lf.map upF).length := ⟨_, rfl⟩
      rw [← hq2] at HSF1 ⊢
      clear HK hO hS5 hbig HSF hq2 hlt
      go_wp2
      go_loopw [10, 11] (fun v10 vi W => ∃ i : Nat, i ≤ L.length ∧ vi = .int .i64 i ∧ v10 = .int .i64 (alF ((pls L).take i) (lf.take i) ((r : Int) - 1)) ∧ Hid (SW wr W)) (fun _ vi _ => L.length - (intOf vi).toNat)
      case atStart => exact ⟨0, Nat.zero_le _, rfl, rfl, Lib.hid (Below.refl _ _)⟩
      case round =>
        obtain ⟨i, hi, rfl, rfl, HB⟩ := hrel
        have HBX1 : Hid (SW w1 wr) := Lib.hid (Below.trans HS5.out (Below.mono HB.out (Below.size HS5.out)))
        have z0 := Q0.out _ HBX1.out
        have z1 := Q1.out _ HBX1.out
        by_cases hiL : i < L.length ∧ i < q
        · obtain ⟨hiL, hiq⟩ := hiL
          obtain ⟨x, hx⟩ : ∃ x, L[i]? = some x := ⟨_, List.getElem?_eq_getElem hiL⟩
          obtain ⟨y, hy⟩ : ∃ y, lf[i]? = some y := ⟨_, List.getElem?_eq_getElem (by rw [← HQ.out]; exact hiq)⟩
          obtain ⟨b, off, e1, hgl, ha⟩ := row_get (HL.out.more (HUP.out _ HBX1.out)).1 hx
          obtain ⟨b', off', e1', hgl', ha'⟩ := row_get (HMM.out.more (HUP.out _ HBX1.out)) hy
          have i3 : (i : Int) < (L.length : Int) := by omega
          have i4 : (i : Int) < (q : Int) := by omega
          have zz := ha 0 _ rfl
          have zz' := ha' 0 _ rfl
          rw [Nat.mul_one, Nat.add_zero] at zz zz'
          rw [e1] at z0
          rw [e1'] at z1
          have hyi := HHI.out y (List.mem_of_getElem? hy)
          have hyb := HBG.out y (List.mem_of_getElem? hy)
          have hyr : (r : Int) = 0 ∨ (r : Int) ≤ y := by
            by_cases h0 : 0 < r
            · exact .inr ((HST.out h0).1 y (List.mem_of_getElem? hy))
            · left; omega
          have hy2 : -9223372036854775808 ≤ y - (r : Int) := by omega
          have hsu := HOK.out.sum i ((r : Int) - 1)
          have hpi := prF_in (HOK.out.right x (List.mem_of_getElem? hx)) (y - ((r : Int) - 1))
          have HT := Lib.hid (alF_take (pls_at hx) hy ((r : Int) - 1))
          have KP : Hid (∀ W, SW wr W → Calls Try.prog 13 #[.slice x.A x.l.length x.c, .int .i64 (y - (r : Int) + 1)] W fun e w' => e = .returned (.int .i64 (prF x.l (y - ((r : Int) - 1)))) ∧ w' = W) := Lib.hid (fun W hW => by
            have h2 := price_any x.A x.c x.l (y - (r : Int) + 1) W (by have := (HOK.out.right x (List.mem_of_getElem? hx)).1; omega) (((HL.out.more (HUP.out _ HBX1.out)).2 x (List.mem_of_getElem? hx)).more hW)
            rw [show y - (r : Int) + 1 = y - ((r : Int) - 1) by omega] at h2 ⊢
            exact h2)
          clear ha hgl ha' hgl' hx hy e1 e1'
          generalize alF ((pls L).take i) (lf.take i) ((r : Int) - 1) = u at *
          generalize prF x.l (y - ((r : Int) - 1)) = pr at *
          rcases Nat.eq_zero_or_pos r with h0 | h0
          · have g5 : decide ((0 : Int) < (r : Int)) = false := decide_eq_false (by omega)
            have g5' : decide (0 < r) = false := decide_eq_false (by omega)
            have HH0 := Lib.hid h0
            clear h0
            go_wp2
            go_quiet ((go_at_call 13; exact Calls.quiet_of_same (KP.out _ (below_drewN (Below.refl _ _) _))))
            go_wp2
            go_roundw
            case rel => exact ⟨i + 1, by omega, by go_num, by rw [HT.out], Lib.hid (below_drewN HB.out _)⟩
            case measure => simp [intOf]; omega
          · have g5 : decide ((0 : Int) < (r : Int)) = true := decide_eq_true (by omega)
            have g5' : decide (0 < r) = true := decide_eq_true h0
            have g6 : decide (y < (r : Int)) = false := decide_eq_false (by omega)
            go_wp2
            go_quiet ((go_at_call 13; exact Calls.quiet_of_same (KP.out _ (below_drewN (Below.refl _ _) _))))
            go_wp2
            go_roundw
            case rel => exact ⟨i + 1, by omega, by go_num, by rw [HT.out], Lib.hid (below_drewN HB.out _)⟩
            case measure => simp [intOf]; omega
        · have HE := Lib.hid (HUP.out _ HBX1.out)
          have HSUM : Hid (alF ((pls L).take i) (lf.take i) ((r : Int) - 1) = alF (pls L) lf ((r : Int) - 1)) := Lib.hid (alF_stop _ (by have := HQ.out; simp; omega))
          have KF := Lib.hid (HSF1.out _ HB.out)
          have g7 : decide ((r : Int) ≤ (r3 : Int)) = true := decide_eq_true (by have := HF1.out; omega)
          have g7' : decide (r ≤ r3) = true := decide_eq_true HF1.out
          rw [HSUM.out]
          have HSV : Hid (0 < r → alF (pls L) lf ((r : Int) - 1) ≤ value) := Lib.hid (fun h => (HST.out h).2.2)
          generalize alF (pls L) lf ((r : Int) - 1) = u at *
          by_cases hiL2 : i < L.length
          · have i3 : (i : Int) < (L.length : Int) := by omega
            have i4 : ¬ (i : Int) < (q : Int) := by omega
            rcases Nat.eq_zero_or_pos r with h0 | h0
            · have g8 : ((r : Int) == 0) = true := by simp [h0]
              clear h0
              go_wp2_with (first
                | (go_at_call 19; with_reducible refine KF.out.mono ?_; rintro e w6 ⟨rfl, hb6⟩)
                | (go_at_call 8; with_reducible refine (KA.out _).mono ?_; rintro e wd ⟨rfl, hbd⟩))
              go_ret
              exact ⟨rfl, HE.out.trans ((hb6.trans (hbd.mono hb6.size)).mono HE.out.size)⟩
            · have g8 : ((r : Int) == 0) = false := by rw [beq_eq_false_iff_ne]; omega
              have g9 : decide (u ≤ value) = true := decide_eq_true (HSV.out h0)
              have g9' := HSV.out h0
              clear h0
              go_wp2_with (first
                | (go_at_call 19; with_reducible refine KF.out.mono ?_; rintro e w6 ⟨rfl, hb6⟩)
                | (go_at_call 8; with_reducible refine (KA.out _).mono ?_; rintro e wd ⟨rfl, hbd⟩))
              go_ret
              exact ⟨rfl, HE.out.trans ((hb6.trans (hbd.mono hb6.size)).mono HE.out.size)⟩
          · have i3 : ¬ (i : Int) < (L.length : Int) := by omega
            rcases Nat.eq_zero_or_pos r with h0 | h0
            · have g8 : ((r : Int) == 0) = true := by simp [h0]
              clear h0
              go_wp2_with (first
                | (go_at_call 19; with_reducible refine KF.out.mono ?_; rintro e w6 ⟨rfl, hb6⟩)
                | (go_at_call 8; with_reducible refine (KA.out _).mono ?_; rintro e wd ⟨rfl, hbd⟩))
              go_ret
              exact ⟨rfl, HE.out.trans ((hb6.trans (hbd.mono hb6.size)).mono HE.out.size)⟩
            · have g8 : ((r : Int) == 0) = false := by rw [beq_eq_false_iff_ne]; omega
              have g9 : decide (u ≤ value) = true := decide_eq_true (HSV.out h0)
              have g9' := HSV.out h0
              clear h0
              go_wp2_with (first
                | (go_at_call 19; with_reducible refine KF.out.mono ?_; rintro e w6 ⟨rfl, hb6⟩)
                | (go_at_call 8; with_reducible refine (KA.out _).mono ?_; rintro e wd ⟨rfl, hbd⟩))
              go_ret
              exact ⟨rfl, HE.out.trans ((hb6.trans (hbd.mono hb6.size)).mono HE.out.size)⟩
end Go.Proofs.Ytjogjlfgfohihaa
