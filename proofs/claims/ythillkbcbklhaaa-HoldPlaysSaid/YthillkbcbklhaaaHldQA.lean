/- The specification of holds: time, SameLegs, Same, All, New, at, Twice. -/
import Derived.Deep.QuietTactic
import Derived.BigQuiet
import Derived.Test.YthillkbcbklhaaaHldF
namespace Go.Proofs.Ythillkbcbklhaaa
open Go.RowKit Go.Shelf Go.Maps Go.MapKept
set_option linter.unusedSimpArgs false
set_option linter.unusedVariables false

set_option maxRecDepth 100000 in
set_option maxHeartbeats 1000000 in
theorem rtime_any (m : Int) (w : World) : Calls Try.prog 29 #[.int .i64 m] w fun e w' => e = .returned (.bool (timB m)) ∧ w' = w := by
  unfold timB
  by_cases h1 : 0 ≤ m
  · by_cases h2 : m < 52596000
    · have HR : Hid ((decide (0 ≤ m) && decide (m < 52596000)) = true) := Lib.hid (by simp [h1, h2])
      rw [HR.out]
      go_enter Try.func29, Try.ntmps29
      go_wp2
      go_ret
      exact ⟨rfl, rfl⟩
    · have HR : Hid ((decide (0 ≤ m) && decide (m < 52596000)) = false) := Lib.hid (by simp [h1, h2])
      rw [HR.out]
      go_enter Try.func29, Try.ntmps29
      go_wp2
      go_ret
      exact ⟨rfl, rfl⟩
  · have HR : Hid ((decide (0 ≤ m) && decide (m < 52596000)) = false) := Lib.hid (by simp [h1])
    rw [HR.out]
    go_enter Try.func29, Try.ntmps29
    go_wp2
    go_ret
    exact ⟨rfl, rfl⟩
/-! ### lists of legs -/
theorem legs_len {l m : List Lid} (h : l.length ≠ m.length) : decide (l = m) = false := by
  simp only [decide_eq_false_iff_not]
  rintro rfl
  exact h rfl
theorem legs_at {l m : List Lid} {k : Nat} {x y : Lid} (hx : l[k]? = some x) (hy : m[k]? = some y) (h : eqD x y = false) : decide (l = m) = false := by
  simp only [decide_eq_false_iff_not]
  rintro rfl
  rw [hx] at hy
  cases hy
  rw [(eqD_iff x x).2 rfl] at h
  cases h
theorem legs_all {l m : List Lid} (he : l.length = m.length) (h : ∀ (j : Nat) (x y : Lid), l[j]? = some x → m[j]? = some y → eqD x y = true) : decide (l = m) = true := by
  simp only [decide_eq_true_eq]
  refine List.ext_getElem he (fun j h1 h2 => ?_)
  exact (eqD_iff _ _).1 (h j _ _ (List.getElem?_eq_getElem h1) (List.getElem?_eq_getElem h2))
set_option maxRecDepth 100000 in
set_option maxHeartbeats 2000000 in
theorem run_neD (x y : Lid) (w : World) : (binOp .neq lidT (aggD x) (aggD y)).run Try.prog w = .ok (.bool (!eqD x y)) w := by
  have e : eqD x y = ((x.car.toList == y.car.toList) && (x.num == y.num) && (x.day == y.day) && (x.frm.toList == y.frm.toList)) := rfl
  rw [e]
  cases h1 : (x.car.toList == y.car.toList) <;> cases h2 : (x.num == y.num) <;> cases h3 : (x.day == y.day) <;> cases h4 : (x.frm.toList == y.frm.toList) <;> go_simp
set_option maxRecDepth 100000 in
set_option maxHeartbeats 4000000 in
theorem sameLegs_any (A A' : Option Addr) (c c' : Nat) (l m : List Lid) (w : World) (hl : l.length ≤ 1000) (hm : m.length ≤ 1000) (hL : LidL w (.slice A l.length c) l) (hM : LidL w (.slice A' m.length c') m) :
    Calls Try.prog 31 #[.slice A l.length c, .slice A' m.length c'] w fun e w' => e = .returned (.bool (decide (l = m))) ∧ Below w.heap.size w w' := by
  have HL := Lib.hid hL
  have HM := Lib.hid hM
  have H0 : Hid (l.length ≠ m.length → decide (l = m) = false) := Lib.hid legs_len
  have H1 : Hid (∀ (k : Nat) (x y : Lid), l[k]? = some x → m[k]? = some y → eqD x y = false → decide (l = m) = false) := Lib.hid (fun k x y h1 h2 h3 => legs_at h1 h2 h3)
  have H2 : Hid (l.length = m.length → (∀ (j : Nat) (x y : Lid), l[j]? = some x → m[j]? = some y → eqD x y = true) → decide (l = m) = true) := Lib.hid legs_all
  have HLN := Lib.hid hl
  generalize decide (l = m) = T at *
  clear hL hM hl hm
  by_cases hlm : l.length = m.length
  · have HLM := Lib.hid hlm
    have q0 : ((l.length : Int) != (m.length : Int)) = false := by simp [hlm]
    have q1 : (m.length : Int) = (l.length : Int) := by omega
    clear hlm
    go_enter Try.func31, Try.ntmps31
    go_wp2
    go_loopw [5] (fun vi wr => ∃ k : Nat, k ≤ l.length ∧ vi = .int .i64 k ∧ Hid (∀ (j : Nat) (x y : Lid), j < k → l[j]? = some x → m[j]? = some y → eqD x y = true) ∧ Below w.heap.size w wr) (fun vi _ => l.length - (intOf vi).toNat)
    case atStart => exact ⟨0, Nat.zero_le _, rfl, Lib.hid (fun j x y hj => absurd hj (Nat.not_lt_zero _)), Below.refl _ _⟩
    case round =>
      obtain ⟨k, hk, rfl, HK, hSr⟩ := hrel
      by_cases hlt : k < l.length
      · have hlt2 : k < m.length := by have := HLM.out; omega
        obtain ⟨x, hx⟩ : ∃ x, l[k]? = some x := ⟨_, List.getElem?_eq_getElem hlt⟩
        obtain ⟨y, hy⟩ : ∃ y, m[k]? = some y := ⟨_, List.getElem?_eq_getElem hlt2⟩
        obtain ⟨b, o, rfl, _, hc⟩ := row_get (RowL.more HL.out hSr) hx
        obtain ⟨b2, o2, rfl, _, hc2⟩ := row_get (RowL.more HM.out hSr) hy
        have x0 := hc 0 _ rfl
        have x1 := hc 1 _ rfl
        have x2 := hc 2 _ rfl
        have x3 := hc 3 _ rfl
        have y0 := hc2 0 _ rfl
        have y1 := hc2 1 _ rfl
        have y2 := hc2 2 _ rfl
        have y3 := hc2 3 _ rfl
        rw [Nat.add_zero] at x0 y0
        have i1 : (0 : Int) ≤ (k : Int) := by omega
        have i2 : (k : Int) < (l.length : Int) := by omega
        have i3 : (k : Int) < (m.length : Int) := by omega
        have hk8 : k < 1000 := by have := HLN.out; omega
        have w1 : IntKind.i64.wrap ((k : Int) + 1) = (k : Int) + 1 := IntWalk.i64_in _ (by omega)
        have heq := fun W => run_neD x y W
        have HX := Lib.hid hx
        have HY := Lib.hid hy
        have HB := Lib.hid hSr
        clear hx hc hy hc2 hlt hlt2 q0 q1
        cases hq : eqD x y with
        | false =>
          rw [hq] at heq
          have HR := Lib.hid (H1.out k x y HX.out HY.out hq)
          clear hq
          go_upto_region 6 with fail
          go_quiet (fail)
          go_wp2
          go_ret
          exact ⟨by rw [HR.out]; rfl, below_drewN HB.out _⟩
        | true =>
          rw [hq] at heq
          have HQ := Lib.hid hq
          clear hq
          go_upto_region 6 with fail
          go_quiet (fail)
          go_wp2
          go_roundw
          case rel =>
            refine ⟨k + 1, by omega, by go_num, Lib.hid (fun j u v hj hu hv => ?_), below_drewN HB.out _⟩
            by_cases hjk : j = k
            · subst hjk
              rw [HX.out] at hu
              rw [HY.out] at hv
              cases hu
              cases hv
              exact HQ.out
            · exact HK.out j u v (by omega) hu hv
          case measure => simp [intOf]; omega
      · have HR := Lib.hid (H2.out HLM.out (fun j x y hx => HK.out j x y (by have := (List.getElem?_eq_some_iff.1 hx).1; omega) hx))
        have i2 : ¬ (k : Int) < (l.length : Int) := by omega
        go_wp2
        go_ret
        exact ⟨by rw [HR.out]; rfl, hSr⟩
  · have HR := Lib.hid (H0.out hlm)
    have q0 : ((l.length : Int) != (m.length : Int)) = true := by simp; omega
    clear hlm
    go_enter Try.func31, Try.ntmps31
    go_wp2
    go_ret
    exact ⟨by rw [HR.out]; rfl, Below.refl _ _⟩
/-- the same hold, wherever its legs lie -/
def eqH (a b : Hd) : Bool := decide (a.id = b.id) && eqS a.cls b.cls && decide (a.cnt = b.cnt) && decide (a.til = b.til) && decide (a.l = b.l)
theorem hd_cellsR (w : World) (h : Hd) (i : Nat) (v : Value) (hv : (encH h)[i]? = some v) : (w.alloc (.cells #[.int .i64 h.id, .slice h.A h.l.length h.c, .string h.cls, .int .i64 h.cnt, .int .i64 h.til] 31)).cell? ⟨w.heap.size, i, none⟩ = some v := by
  rw [cells_new]
  rw [← hv]
  unfold encH
  simp
set_option maxRecDepth 100000 in
set_option maxHeartbeats 4000000 in
theorem same_any (a b : Hd) (w : World) (ha : a.l.length ≤ 1000) (hb : b.l.length ≤ 1000) (hA : LidL w (.slice a.A a.l.length a.c) a.l) (hB : LidL w (.slice b.A b.l.length b.c) b.l) :
    Calls Try.prog 15 #[aggH a, aggH b] w fun e w' => e = .returned (.bool (eqH a b)) ∧ Below w.heap.size w w' := by
  have h1 := bel_alloc w (.cells #[.int .i64 a.id, .slice a.A a.l.length a.c, .string a.cls, .int .i64 a.cnt, .int .i64 a.til] 31)
  have h2 := bel_alloc (w.alloc (.cells #[.int .i64 a.id, .slice a.A a.l.length a.c, .string a.cls, .int .i64 a.cnt, .int .i64 a.til] 31)) (.cells #[.int .i64 b.id, .slice b.A b.l.length b.c, .string b.cls, .int .i64 b.cnt, .int .i64 b.til] 31)
  have hw := h1.trans (h2.mono h1.size)
  have u0 := bel_cell h2 (hd_cellsR w a 0 _ rfl)
  have u1 := bel_cell h2 (hd_cellsR w a 1 _ rfl)
  have u2 := bel_cell h2 (hd_cellsR w a 2 _ rfl)
  have u3 := bel_cell h2 (hd_cellsR w a 3 _ rfl)
  have u4 := bel_cell h2 (hd_cellsR w a 4 _ rfl)
  have v0 := hd_cellsR (w.alloc (.cells #[.int .i64 a.id, .slice a.A a.l.length a.c, .string a.cls, .int .i64 a.cnt, .int .i64 a.til] 31)) b 0 _ rfl
  have v1 := hd_cellsR (w.alloc (.cells #[.int .i64 a.id, .slice a.A a.l.length a.c, .string a.cls, .int .i64 a.cnt, .int .i64 a.til] 31)) b 1 _ rfl
  have v2 := hd_cellsR (w.alloc (.cells #[.int .i64 a.id, .slice a.A a.l.length a.c, .string a.cls, .int .i64 a.cnt, .int .i64 a.til] 31)) b 2 _ rfl
  have v3 := hd_cellsR (w.alloc (.cells #[.int .i64 a.id, .slice a.A a.l.length a.c, .string a.cls, .int .i64 a.cnt, .int .i64 a.til] 31)) b 3 _ rfl
  have v4 := hd_cellsR (w.alloc (.cells #[.int .i64 a.id, .slice a.A a.l.length a.c, .string a.cls, .int .i64 a.cnt, .int .i64 a.til] 31)) b 4 _ rfl
  have es : (w.alloc (.cells #[.int .i64 a.id, .slice a.A a.l.length a.c, .string a.cls, .int .i64 a.cnt, .int .i64 a.til] 31)).heap.size = w.heap.size + 1 := by simp
  rw [es] at v0 v1 v2 v3 v4
  have KS := Lib.hid (sameLegs_any a.A b.A a.c b.c a.l b.l ((w.alloc (.cells #[.int .i64 a.id, .slice a.A a.l.length a.c, .string a.cls, .int .i64 a.cnt, .int .i64 a.til] 31)).alloc (.cells #[.int .i64 b.id, .slice b.A b.l.length b.c, .string b.cls, .int .i64 b.cnt, .int .i64 b.til] 31)) ha hb (hA.more hw) (hB.more hw))
  have HW := Lib.hid hw
  have HR : Hid (eqH a b = ((a.id == b.id) && (a.cls.toList == b.cls.toList) && (a.cnt == b.cnt) && (a.til == b.til) && decide (a.l = b.l))) := Lib.hid rfl
  generalize eqH a b = T at *
  generalize decide (a.l = b.l) = L at *
  clear h1 h2 hw hA hB ha hb es
  go_enter Try.func15, Try.ntmps15
  go_upto_region 1 with fail
  generalize ((w.alloc (.cells #[.int .i64 a.id, .slice a.A a.l.length a.c, .string a.cls, .int .i64 a.cnt, .int .i64 a.til] 31)).alloc (.cells #[.int .i64 b.id, .slice b.A b.l.length b.c, .string b.cls, .int .i64 b.cnt, .int .i64 b.til] 31)) = w5 at *
  cases g0 : (a.id == b.id) with
  | false =>
    have HE : Hid (T = false) := Lib.hid (by rw [HR.out, g0]; simp)
    go_wp2
    go_ret
    exact ⟨by rw [HE.out]; rfl, HW.out⟩
  | true =>
    cases g1 : (a.cls.toList == b.cls.toList) with
    | false =>
      have HE : Hid (T = false) := Lib.hid (by rw [HR.out, g0, g1]; simp)
      go_wp2
      go_ret
      exact ⟨by rw [HE.out]; rfl, HW.out⟩
    | true =>
      cases g2 : (a.cnt == b.cnt) with
      | false =>
        have HE : Hid (T = false) := Lib.hid (by rw [HR.out, g0, g1, g2]; simp)
        go_wp2
        go_ret
        exact ⟨by rw [HE.out]; rfl, HW.out⟩
      | true =>
        cases g3 : (a.til == b.til) with
        | false =>
          have HE : Hid (T = false) := Lib.hid (by rw [HR.out, g0, g1, g2, g3]; simp)
          go_wp2
          go_ret
          exact ⟨by rw [HE.out]; rfl, HW.out⟩
        | true =>
          have HE : Hid (T = L) := Lib.hid (by rw [HR.out, g0, g1, g2, g3]; simp)
          go_wp2_with (go_at_call 31; (with_reducible refine KS.out.mono ?_); rintro e w6 ⟨rfl, h6⟩)
          go_ret
          exact ⟨by rw [HE.out]; rfl, HW.out.trans (h6.mono HW.out.size)⟩
/-! ### the specification's set: block B is its struct -/
structure RefAt (w : World) (B : Nat) (A : Option Addr) (c : Nat) (hs : List Hd) : Prop where
  blk : w.heap[B]? = some (.cells #[.slice A hs.length c] 62 (0, 0))
  cap : hs.length ≤ c
  form : A = none ∨ ∃ g o, A = some ⟨g, o, none⟩
  rows : RowIn (fun k => k ≠ B) 5 encH w A hs
  srt : SrtH hs
  ok : ∀ h ∈ hs, OkH h ∧ RowIn (fun k => k ≠ B) 4 encD w h.A h.l ∧ rgtH h = true
theorem RefAt.box {w : World} {B : Nat} {A : Option Addr} {c : Nat} {hs : List Hd} (h : RefAt w B A c hs) : w.cell? ⟨B, 0, none⟩ = some (.slice A hs.length c) := cell_of_row _ _ 0 _ _ (0, 0) h.blk
theorem RefAt.froz {w : World} {B : Nat} {A : Option Addr} {c : Nat} {hs : List Hd} (h : RefAt w B A c hs) : w.frozen? ⟨B, 0, none⟩ = false := frozen_of_row _ _ 0 _ _ h.blk
theorem RefAt.lt {w : World} {B : Nat} {A : Option Addr} {c : Nat} {hs : List Hd} (h : RefAt w B A c hs) : B < w.heap.size := (Array.getElem?_eq_some_iff.1 h.blk).1
theorem RefAt.more {w w' : World} {B : Nat} {A : Option Addr} {c : Nat} {hs : List Hd} (h : RefAt w B A c hs) (hb : Below w.heap.size w w') : RefAt w' B A c hs :=
  ⟨(hb.block B h.lt).trans h.blk, h.cap, h.form, h.rows.more hb, h.srt, fun x hx => ⟨(h.ok x hx).1, (h.ok x hx).2.1.more hb, (h.ok x hx).2.2⟩⟩
set_option maxRecDepth 100000 in
set_option maxHeartbeats 400000 in
theorem rall_any (B : Nat) (A : Option Addr) (c : Nat) (hs : List Hd) (w : World) (h : RefAt w B A c hs) :
    Calls Try.prog 24 #[.pointer (some ⟨B, 0, none⟩)] w fun e w' => e = .returned (.slice A hs.length c) ∧ w' = w := by
  have h0 := h.box
  clear h
  go_enter Try.func24, Try.ntmps24
  go_wp2
  go_ret
  exact ⟨rfl, rfl⟩
set_option maxRecDepth 100000 in
set_option maxHeartbeats 400000 in
theorem rnew_any (w : World) :
    Calls Try.prog 10 #[] w fun e w' => e = .returned (.pointer (some ⟨w.heap.size, 0, none⟩)) ∧ RefAt w' w.heap.size none 0 [] ∧ Below w.heap.size w w' := by
  go_enter Try.func10, Try.ntmps10
  go_wp2
  go_ret
  exact ⟨rfl, ⟨heap_alloc_new w _, Nat.le_refl _, .inl rfl, .inl rfl, SrtH.nil, fun x hx => by cases hx⟩, bel_alloc w _⟩
/-- where a hold stands, or -1 -/
def atP (hs : List Hd) (i : Int) : Int := match hs.findIdx? (fun h => decide (h.id = i)) with
  | none => -1
  | some k => (k : Int)
theorem at_hit {hs : List Hd} {i : Int} {k : Nat} {x : Hd} (hx : hs[k]? = some x) (he : x.id = i) (hn : ∀ (j : Nat) (y : Hd), j < k → hs[j]? = some y → y.id ≠ i) : atP hs i = k := by
  obtain ⟨hk, e⟩ := List.getElem?_eq_some_iff.1 hx
  have : hs.findIdx? (fun h => decide (h.id = i)) = some k := by
    rw [List.findIdx?_eq_some_iff_getElem]
    refine ⟨hk, by rw [e]; exact decide_eq_true he, fun j hj => ?_⟩
    have := hn j _ hj (List.getElem?_eq_getElem (by omega))
    simpa using this
  unfold atP
  rw [this]
theorem at_no {hs : List Hd} {i : Int} (hn : ∀ (j : Nat) (y : Hd), hs[j]? = some y → y.id ≠ i) : atP hs i = -1 := by
  have : hs.findIdx? (fun h => decide (h.id = i)) = none := by
    rw [List.findIdx?_eq_none_iff]
    intro x hx
    obtain ⟨j, hj⟩ := List.getElem?_of_mem hx
    have := hn j x hj
    simpa using this
  unfold atP
  rw [this]
set_option maxRecDepth 100000 in
set_option maxHeartbeats 4000000 in
theorem at_any (B : Nat) (A : Option Addr) (c : Nat) (hs : List Hd) (i : Int) (w : World) (hl : hs.length ≤ 1000) (h : RefAt w B A c hs) :
    Calls Try.prog 30 #[.pointer (some ⟨B, 0, none⟩), .int .i64 i] w fun e w' => e = .returned (.int .i64 (atP hs i)) ∧ w' = w := by
  have h0 := h.box
  have HL := Lib.hid (h.rows.rowL c)
  have HF : Hid (∀ (k : Nat) (x : Hd), hs[k]? = some x → x.id = i → (∀ (j : Nat) (y : Hd), j < k → hs[j]? = some y → y.id ≠ i) → atP hs i = k) := Lib.hid (fun k x h1 h2 h3 => at_hit h1 h2 h3)
  have HN : Hid ((∀ (j : Nat) (y : Hd), hs[j]? = some y → y.id ≠ i) → atP hs i = -1) := Lib.hid at_no
  have HLN := Lib.hid hl
  generalize atP hs i = T at *
  clear h hl
  go_enter Try.func30, Try.ntmps30
  go_wp2
  go_loopw [5] (fun vi wr => ∃ k : Nat, k ≤ hs.length ∧ vi = .int .i64 k ∧ Hid (∀ (j : Nat) (y : Hd), j < k → hs[j]? = some y → y.id ≠ i) ∧ wr = w) (fun vi _ => hs.length - (intOf vi).toNat)
  case atStart => exact ⟨0, Nat.zero_le _, rfl, Lib.hid (fun j y hj => absurd hj (Nat.not_lt_zero _)), rfl⟩
  case round =>
    obtain ⟨k, hk, rfl, HK, rfl⟩ := hrel
    by_cases hlt : k < hs.length
    · obtain ⟨x, hx⟩ : ∃ x, hs[k]? = some x := ⟨_, List.getElem?_eq_getElem hlt⟩
      obtain ⟨b, o, rfl, _, hc⟩ := row_get HL.out hx
      have x0 := hc 0 _ rfl
      rw [Nat.add_zero] at x0
      have i1 : (0 : Int) ≤ (k : Int) := by omega
      have i2 : (k : Int) < (hs.length : Int) := by omega
      have hk8 : k < 1000 := by have := HLN.out; omega
      have w1 : IntKind.i64.wrap ((k : Int) + 1) = (k : Int) + 1 := IntWalk.i64_in _ (by omega)
      have HX := Lib.hid hx
      clear hx hc hlt
      by_cases he : x.id = i
      · have HR := Lib.hid (HF.out k x HX.out he HK.out)
        have g0 : (x.id == i) = true := by simp [he]
        clear he
        go_wp2
        go_ret
        exact ⟨by rw [HR.out]; rfl, rfl⟩
      · have HE := Lib.hid he
        have g0 : (x.id == i) = false := by simp [he]
        clear he
        go_wp2
        go_roundw
        case rel =>
          refine ⟨k + 1, by omega, by go_num, Lib.hid (fun j y hj hy => ?_), by trivial⟩
          by_cases hjk : j = k
          · subst hjk
            rw [HX.out] at hy
            cases hy
            exact HE.out
          · exact HK.out j y (by omega) hy
        case measure => simp [intOf]; omega
    · have HR := Lib.hid (HN.out (fun j y hy => HK.out j y (by have := (List.getElem?_eq_some_iff.1 hy).1; omega) hy))
      have i2 : ¬ (k : Int) < (hs.length : Int) := by omega
      go_wp2
      go_ret
      exact ⟨by rw [HR.out]; rfl, rfl⟩
theorem twi_pair {l : List Lid} {k j : Nat} {x y : Lid} (hx : l[k]? = some x) (hy : l[j]? = some y) (hj : j < k) (h : eqD y x = true) : twiP l = true := by
  refine twi_first hx ?_
  rw [(eqD_iff _ _).1 h] at hy
  rw [List.mem_iff_getElem?]
  exact ⟨j, by rw [List.getElem?_take, if_pos hj]; exact hy⟩
theorem twi_nopair {l : List Lid} (h : ∀ (k j : Nat) (x y : Lid), l[k]? = some x → l[j]? = some y → j < k → eqD y x = false) : twiP l = false := by
  refine twi_none (fun k x hx hm => ?_)
  obtain ⟨j, hj⟩ := List.mem_iff_getElem?.1 hm
  rw [List.getElem?_take] at hj
  split at hj
  · have := h k j x x hx hj (by assumption)
    rw [(eqD_iff x x).2 rfl] at this
    cases this
  · cases hj
set_option maxRecDepth 100000 in
set_option maxHeartbeats 4000000 in
theorem twice_any (A : Option Addr) (c : Nat) (l : List Lid) (w : World) (hl : l.length ≤ 1000) (hL : LidL w (.slice A l.length c) l) :
    Calls Try.prog 28 #[.slice A l.length c] w fun e w' => e = .returned (.bool (twiP l)) ∧ Below w.heap.size w w' := by
  have HL := Lib.hid hL
  have HF : Hid (∀ (k j : Nat) (x y : Lid), l[k]? = some x → l[j]? = some y → j < k → eqD y x = true → twiP l = true) := Lib.hid (fun k j x y h1 h2 h3 h4 => twi_pair h1 h2 h3 h4)
  have HN : Hid ((∀ (k j : Nat) (x y : Lid), l[k]? = some x → l[j]? = some y → j < k → eqD y x = false) → twiP l = false) := Lib.hid twi_nopair
  have HLN := Lib.hid hl
  generalize twiP l = T at *
  clear hL hl
  go_enter Try.func28, Try.ntmps28
  go_wp2
  go_loopw [3] (fun vi wr => ∃ k : Nat, k ≤ l.length ∧ vi = .int .i64 k ∧ Hid (∀ (k' j : Nat) (x y : Lid), k' < k → l[k']? = some x → l[j]? = some y → j < k' → eqD y x = false) ∧ Below w.heap.size w wr) (fun vi _ => l.length - (intOf vi).toNat)
  case atStart => exact ⟨0, Nat.zero_le _, rfl, Lib.hid (fun k' j x y hj => absurd hj (Nat.not_lt_zero _)), Below.refl _ _⟩
  case round =>
    obtain ⟨k, hk, rfl, HK, hSr⟩ := hrel
    obtain ⟨w5, rfl⟩ : ∃ w5, w5 = wr := ⟨_, rfl⟩
    by_cases hlt : k < l.length
    · obtain ⟨x, hx⟩ : ∃ x, l[k]? = some x := ⟨_, List.getElem?_eq_getElem hlt⟩
      obtain ⟨b, o, rfl, _, hc⟩ := row_get (RowL.more HL.out hSr) hx
      have x0 := hc 0 _ rfl
      have x1 := hc 1 _ rfl
      have x2 := hc 2 _ rfl
      have x3 := hc 3 _ rfl
      rw [Nat.add_zero] at x0
      have HB := Lib.hid hSr
      have HC : Hid (∀ j y, l[j]? = some y → ∀ i u, (encD y)[i]? = some u → w5.cell? ⟨b, o + j * 4 + i, none⟩ = some u) := by
        refine Lib.hid (fun j y hy i u hu => ?_)
        obtain ⟨b2, o2, e2, _, hc2⟩ := row_get (RowL.more HL.out HB.out) hy
        cases e2
        exact hc2 i u hu
      have i1 : (0 : Int) ≤ (k : Int) := by omega
      have i2 : (k : Int) < (l.length : Int) := by omega
      have hk8 : k < 1000 := by have := HLN.out; omega
      have w1 : IntKind.i64.wrap ((k : Int) + 1) = (k : Int) + 1 := IntWalk.i64_in _ (by omega)
      have HX := Lib.hid hx
      clear hx hc hSr
      go_wp2
      go_loopw [4] (fun vj wq => ∃ j : Nat, j ≤ k ∧ vj = .int .i64 j ∧ Hid (∀ (j' : Nat) (y : Lid), j' < j → l[j']? = some y → eqD y x = false) ∧ Below w5.heap.size w5 wq) (fun vj _ => k - (intOf vj).toNat)
      case atStart => exact ⟨0, Nat.zero_le _, rfl, Lib.hid (fun j' y hj => absurd hj (Nat.not_lt_zero _)), Below.refl _ _⟩
      case round =>
        obtain ⟨j, hj, rfl, HJ, hSq⟩ := hrel
        by_cases hltj : j < k
        · obtain ⟨y, hy⟩ : ∃ y, l[j]? = some y := ⟨_, List.getElem?_eq_getElem (by omega)⟩
          have y0 := bel_cell hSq (HC.out j y hy 0 _ rfl)
          have y1 := bel_cell hSq (HC.out j y hy 1 _ rfl)
          have y2 := bel_cell hSq (HC.out j y hy 2 _ rfl)
          have y3 := bel_cell hSq (HC.out j y hy 3 _ rfl)
          rw [Nat.add_zero] at y0
          have u0 := bel_cell hSq x0
          have u1 := bel_cell hSq x1
          have u2 := bel_cell hSq x2
          have u3 := bel_cell hSq x3
          have n1 : (0 : Int) ≤ (j : Int) := by omega
          have n2 : (j : Int) < (l.length : Int) := by omega
          have n3 : (j : Int) < (k : Int) := by omega
          have wj : IntKind.i64.wrap ((j : Int) + 1) = (j : Int) + 1 := IntWalk.i64_in _ (by omega)
          have heq := fun W => run_eqD y x W
          have HY := Lib.hid hy
          have HSQ := Lib.hid hSq
          have HLT := Lib.hid hltj
          clear hy hSq hltj x0 x1 x2 x3
          cases hq : eqD y x with
          | true =>
            rw [hq] at heq
            have HR := Lib.hid (HF.out k j x y HX.out HY.out HLT.out hq)
            clear hq
            go_upto_region 7 with fail
            go_quiet (fail)
            go_wp2
            go_ret
            exact ⟨by rw [HR.out]; rfl, HB.out.trans (below_drewN (HSQ.out.mono HB.out.size) _)⟩
          | false =>
            rw [hq] at heq
            have HQ := Lib.hid hq
            clear hq
            go_upto_region 7 with fail
            go_quiet (fail)
            go_wp2
            go_roundw
            case rel =>
              refine ⟨j + 1, by have := HLT.out; omega, by go_num, Lib.hid (fun j' z hj hz => ?_), below_drewN HSQ.out _⟩
              by_cases hjk : j' = j
              · subst hjk
                rw [HY.out] at hz
                cases hz
                exact HQ.out
              · exact HJ.out j' z (by omega) hz
            case measure => have := HLT.out; simp [intOf]; omega
        · obtain rfl : j = k := by omega
          have n3 : ¬ (j : Int) < (j : Int) := by omega
          clear x0 x1 x2 x3
          go_wp2
          go_roundw
          case rel =>
            refine ⟨j + 1, by omega, by go_num, Lib.hid (fun k' j' u v hk' hu hv hj' => ?_), HB.out.trans (hSq.mono HB.out.size)⟩
            by_cases hjk : k' = j
            · subst hjk
              rw [HX.out] at hu
              cases hu
              exact HJ.out j' v hj' hv
            · exact HK.out k' j' u v (by omega) hu hv hj'
          case measure => simp [intOf]; omega
    · have HR := Lib.hid (HN.out (fun k' j x y hx => HK.out k' j x y (by have := (List.getElem?_eq_some_iff.1 hx).1; omega) hx))
      have i2 : ¬ (k : Int) < (l.length : Int) := by omega
      go_wp2
      go_ret
      exact ⟨by rw [HR.out]; rfl, hSr⟩
end Go.Proofs.Ythillkbcbklhaaa
