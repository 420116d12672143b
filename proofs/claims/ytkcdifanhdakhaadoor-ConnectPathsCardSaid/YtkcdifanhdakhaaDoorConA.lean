/- Words for connecting times and segments; walks of matches, rank, Minutes, Fits, beside the reference's. -/
import Derived.Test.YtkcdifanhdakhaaDoorConP
import Derived.Test.YtkcdifanhdakhaaDoorOwnR
namespace Go.Proofs.YtkcdifanhdakhaaDoor.Con
open Go.RowKit Go.Shelf
set_option linter.unusedSimpArgs false
set_option linter.unusedVariables false

abbrev cnT : TypeId := 54
abbrev sgT : TypeId := 47
def encCn (c : Cn) : List Value := [.string c.a, .string c.i, .string c.o, .int .i64 c.m]
def encSg (s : Sg) : List Value := [.string s.car, .int .i64 s.num, .int .i64 s.day, .string s.f, .string s.t, .int .i64 s.dep, .int .i64 s.arr]
abbrev aggCn (c : Cn) : Value := .agg #[.string c.a, .string c.i, .string c.o, .int .i64 c.m]
abbrev aggSg (s : Sg) : Value := .agg #[.string s.car, .int .i64 s.num, .int .i64 s.day, .string s.f, .string s.t, .int .i64 s.dep, .int .i64 s.arr]
abbrev CnL (w : World) (v : Value) (l : List Cn) : Prop := RowL 4 encCn w v l
abbrev SgL (w : World) (v : Value) (l : List Sg) : Prop := RowL 7 encSg w v l
theorem row_get {α : Type} {enc : α → List Value} {sz : Nat} {w : World} {A : Option Addr} {n c : Nat} {L : List α} (h : RowL sz enc w (.slice A n c) L) {k : Nat} {y : α} (hk : L[k]? = some y) : ∃ b o, A = some ⟨b, o, none⟩ ∧ b < w.heap.size ∧ ∀ j u, (enc y)[j]? = some u → w.cell? ⟨b, o + k * sz + j, none⟩ = some u := by
  obtain ⟨hlt, rfl⟩ := List.getElem?_eq_some_iff.1 hk
  obtain ⟨b, o, h1, h2, h3⟩ := h.at rfl hlt
  exact ⟨b, o, h1, h2, h3⟩
/-- the times of a segment are within bounds -/
def tmB (s : Sg) : Prop := -1099511627776 ≤ s.dep ∧ s.dep ≤ 1099511627776 ∧ -1099511627776 ≤ s.arr ∧ s.arr ≤ 1099511627776

theorem mat_any (x y : ByteArray) (w : World) : Calls Tryd.prog 32 #[.string x, .string y] w fun e w' => e = .returned (.bool (matB x y)) ∧ w = w' := by
  cases h1 : x.toList.isEmpty <;> cases h2 : (x.toList == y.toList) <;>
  · have HM : Hid (matB x y = (x.toList.isEmpty || (x.toList == y.toList))) := Lib.hid rfl
    go_enter Tryd.func32, Tryd.ntmps32
    go_wp2
    go_ret
    exact ⟨ret_bool (by rw [HM.out, h1, h2]; rfl), rfl⟩
set_option maxHeartbeats 2000000 in
theorem rank_any (c : Cn) (w : World) : Calls Tryd.prog 33 #[aggCn c] w fun e w' => e = .returned (.int .i64 (rk c)) ∧ Below w.heap.size w w' := by
  have HM : Hid (rk c = (if c.a.toList.isEmpty then 0 else 6) + (if c.i.toList.isEmpty then 0 else 5) + (if c.o.toList.isEmpty then 0 else 4)) := Lib.hid rfl
  cases h1 : c.a.toList.isEmpty <;> cases h2 : c.i.toList.isEmpty <;> cases h3 : c.o.toList.isEmpty <;>
  · go_enter Tryd.func33, Tryd.ntmps33
    go_wp2
    go_ret
    exact ⟨ret_int (by rw [HM.out, h1, h2, h3]; rfl), bel_alloc _ _⟩
set_option maxHeartbeats 4000000 in
theorem rrank_any (c : Cn) (a i o : ByteArray) (w : World) : Calls Tryd.prog 82 #[aggCn c, .string a, .string i, .string o] w fun e w' => e = .returned (.int .i64 (rk2 c a i o)) ∧ Below w.heap.size w w' := by
  have HM : Hid (rk2 c a i o = if (c.a.toList.isEmpty || (c.a.toList == a.toList)) && (c.i.toList.isEmpty || (c.i.toList == i.toList)) && (c.o.toList.isEmpty || (c.o.toList == o.toList)) then (if c.a.toList.isEmpty then 0 else 110) + (if c.i.toList.isEmpty then 0 else 101) + (if c.o.toList.isEmpty then 0 else 100) else -1) := Lib.hid rfl
  cases h1 : c.a.toList.isEmpty <;> cases h2 : c.i.toList.isEmpty <;> cases h3 : c.o.toList.isEmpty <;> cases g1 : (c.a.toList == a.toList) <;> cases g2 : (c.i.toList == i.toList) <;> cases g3 : (c.o.toList == o.toList) <;>
  · go_enter Tryd.func82, Tryd.ntmps82
    go_wp2
    go_ret
    exact ⟨ret_int (by rw [HM.out, h1, h2, h3, g1, g2, g3]; rfl), bel_alloc _ _⟩


set_option maxRecDepth 100000 in
set_option maxHeartbeats 8000000 in
theorem minutes_any (v : Value) (l : List Cn) (a i o : ByteArray) (w : World) (hv : CnL w v l) (hn : l.length ≤ 1000) :
    Calls Tryd.prog 15 #[v, .string a, .string i, .string o] w fun e w' => e = .returned (.int .i64 (minC l a i o)) ∧ Below w.heap.size w w' := by
  obtain ⟨A, c, rfl, hvc⟩ := id hv
  have HV := Lib.hid hv
  clear hv hvc
  go_enter Tryd.func15, Tryd.ntmps15
  go_wp2
  go_loopw [9, 10, 16] (fun v9 v10 vi wr => ∃ (k : Nat) (b m : Int), k ≤ l.length ∧ v9 = .int .i64 b ∧ v10 = .int .i64 m ∧ vi = .int .i64 k ∧ Hid (minS (l.take k) a i o = (b, m)) ∧ SW w wr) (fun _ _ vi _ => l.length - (intOf vi).toNat)
  case atStart => exact ⟨0, -1, 60, Nat.zero_le _, rfl, rfl, rfl, Lib.hid rfl, Below.refl _ _⟩
  case round =>
    obtain ⟨k, b, m, hk, rfl, rfl, rfl, HK, hS⟩ := hrel
    by_cases hlt : k < l.length
    · obtain ⟨x, hx⟩ : ∃ x, l[k]? = some x := ⟨_, List.getElem?_eq_getElem hlt⟩
      obtain ⟨bb, off, e1, hbl, hc⟩ := row_get (HV.out.more hS) hx
      cases e1
      have i2 : (k : Int) < (l.length : Int) := by omega
      have d0 := hc 0 _ rfl
      have d1 := hc 1 _ rfl
      have d2 := hc 2 _ rfl
      have d3 := hc 3 _ rfl
      rw [Nat.add_zero] at d0
      have HS : Hid (minS (l.take (k + 1)) a i o = stM a i o (b, m) x) := Lib.hid (by rw [List.take_add_one, hx]; exact (minS_snoc _ _ _ _ _).trans (by rw [HK.out]))
      have HT : Hid (stM a i o (b, m) x = if (matB x.a a && matB x.i i && matB x.o o) && decide (rk x > b) then (rk x, x.m) else (b, m)) := Lib.hid rfl
      have M1 := Lib.hid (fun W => mat_any x.a a W)
      have M2 := Lib.hid (fun W => mat_any x.i i W)
      have M3 := Lib.hid (fun W => mat_any x.o o W)
      have KR := Lib.hid (fun W => rank_any x W)
      have hb1 := bel_alloc wr (.cells #[.string x.a, .string x.i, .string x.o, .int .i64 x.m] cnT)
      have hS1 : SW w (wr.alloc (.cells #[.string x.a, .string x.i, .string x.o, .int .i64 x.m] cnT)) := Below.alloc hS hS.size _
      have q3 := (cells_new wr #[.string x.a, .string x.i, .string x.o, .int .i64 x.m] cnT 3).trans (show _ = some (Value.int .i64 x.m) from rfl)
      clear hx hc hbl
      generalize rk x = r at *
      cases m1 : matB x.a a with
      | false =>
        rw [m1] at M1 HT
        go_wp2_with (go_at_call 32; with_reducible refine (M1.out _).mono ?_; rintro e w' ⟨rfl, rfl⟩)
        go_roundw
        case rel => exact ⟨k + 1, b, m, by omega, rfl, rfl, by go_num, Lib.hid (by rw [HS.out, HT.out]; rfl), hS1⟩
        case measure => simp [intOf]; omega
      | true =>
      rw [m1] at M1 HT
      cases m2 : matB x.i i with
      | false =>
        rw [m2] at M2 HT
        go_wp2_with (first | (go_at_call 32; with_reducible refine (M1.out _).mono ?_; rintro e w' ⟨rfl, rfl⟩) | (go_at_call 32; with_reducible refine (M2.out _).mono ?_; rintro e w' ⟨rfl, rfl⟩))
        go_roundw
        case rel => exact ⟨k + 1, b, m, by omega, rfl, rfl, by go_num, Lib.hid (by rw [HS.out, HT.out]; rfl), hS1⟩
        case measure => simp [intOf]; omega
      | true =>
      rw [m2] at M2 HT
      cases m3 : matB x.o o with
      | false =>
        rw [m3] at M3 HT
        go_wp2_with (first | (go_at_call 32; with_reducible refine (M1.out _).mono ?_; rintro e w' ⟨rfl, rfl⟩) | (go_at_call 32; with_reducible refine (M2.out _).mono ?_; rintro e w' ⟨rfl, rfl⟩) | (go_at_call 32; with_reducible refine (M3.out _).mono ?_; rintro e w' ⟨rfl, rfl⟩))
        go_roundw
        case rel => exact ⟨k + 1, b, m, by omega, rfl, rfl, by go_num, Lib.hid (by rw [HS.out, HT.out]; rfl), hS1⟩
        case measure => simp [intOf]; omega
      | true =>
      rw [m3] at M3 HT
      cases hr : decide (b < r) with
      | false =>
        have hr' : ¬ b < r := of_decide_eq_false hr
        have HU : Hid (minS (l.take (k + 1)) a i o = (b, m)) := Lib.hid (by rw [HS.out, HT.out, if_neg (by simpa using hr')])
        clear HS HT hr
        go_wp2_with (first | (go_at_call 32; with_reducible refine (M1.out _).mono ?_; rintro e w' ⟨rfl, rfl⟩) | (go_at_call 32; with_reducible refine (M2.out _).mono ?_; rintro e w' ⟨rfl, rfl⟩) | (go_at_call 32; with_reducible refine (M3.out _).mono ?_; rintro e w' ⟨rfl, rfl⟩) | (go_at_call 33; refine (KR.out _).mono ?_; rintro e w1 ⟨rfl, hb2⟩))
        go_roundw
        case rel => exact ⟨k + 1, b, m, by omega, rfl, rfl, by go_num, HU, Below.trans hS1 (Below.mono hb2 hS1.size)⟩
        case measure => simp [intOf]; omega
      | true =>
        have hr' : b < r := of_decide_eq_true hr
        have HU : Hid (minS (l.take (k + 1)) a i o = (r, x.m)) := Lib.hid (by rw [HS.out, HT.out, if_pos (by simpa using hr')])
        clear HS HT hr
        go_wp2_with (first | (go_at_call 32; with_reducible refine (M1.out _).mono ?_; rintro e w' ⟨rfl, rfl⟩) | (go_at_call 32; with_reducible refine (M2.out _).mono ?_; rintro e w' ⟨rfl, rfl⟩) | (go_at_call 32; with_reducible refine (M3.out _).mono ?_; rintro e w' ⟨rfl, rfl⟩) | (go_at_call 33; refine (KR.out _).mono ?_; rintro e w1 ⟨rfl, hb2⟩; have q3 := bel_cell hb2 q3))
        go_region
        go_wp2
        go_roundw
        case rel => exact ⟨k + 1, r, x.m, by omega, rfl, rfl, by go_num, HU, Below.trans hS1 (Below.mono (Below.drew hb2) hS1.size)⟩
        case measure => simp [intOf]; omega
    · have e : k = l.length := by omega
      subst e
      have HR : Hid (m = minC l a i o) := Lib.hid (by have := HK.out; rw [List.take_length] at this; unfold minC; rw [this])
      have i2 : ¬ (l.length : Int) < (l.length : Int) := by omega
      clear HK
      go_wp2
      go_ret
      exact ⟨ret_int HR.out, hS⟩
set_option maxRecDepth 100000 in
set_option maxHeartbeats 8000000 in
theorem rminutes_any (v : Value) (l : List Cn) (a i o : ByteArray) (w : World) (hv : CnL w v l) (hn : l.length ≤ 1000) :
    Calls Tryd.prog 67 #[v, .string a, .string i, .string o] w fun e w' => e = .returned (.int .i64 (minC l a i o)) ∧ Below w.heap.size w w' := by
  obtain ⟨A, c, rfl, hvc⟩ := id hv
  have HV := Lib.hid hv
  clear hv hvc
  go_enter Tryd.func67, Tryd.ntmps67
  go_wp2
  go_loopw [9, 10, 11] (fun v9 v10 vi wr => ∃ (k : Nat) (b m : Int), k ≤ l.length ∧ v9 = .int .i64 b ∧ v10 = .int .i64 m ∧ vi = .int .i64 k ∧ Hid (minT (l.take k) a i o = (b, m)) ∧ SW w wr) (fun _ _ vi _ => l.length - (intOf vi).toNat)
  case atStart => exact ⟨0, -1, 60, Nat.zero_le _, rfl, rfl, rfl, Lib.hid rfl, Below.refl _ _⟩
  case round =>
    obtain ⟨k, b, m, hk, rfl, rfl, rfl, HK, hS⟩ := hrel
    by_cases hlt : k < l.length
    · obtain ⟨x, hx⟩ : ∃ x, l[k]? = some x := ⟨_, List.getElem?_eq_getElem hlt⟩
      obtain ⟨bb, off, e1, hbl, hc⟩ := row_get (HV.out.more hS) hx
      cases e1
      have i2 : (k : Int) < (l.length : Int) := by omega
      have d0 := hc 0 _ rfl
      have d1 := hc 1 _ rfl
      have d2 := hc 2 _ rfl
      have d3 := hc 3 _ rfl
      rw [Nat.add_zero] at d0
      have HS : Hid (minT (l.take (k + 1)) a i o = stN a i o (b, m) x) := Lib.hid (by rw [List.take_add_one, hx]; exact (minT_snoc _ _ _ _ _).trans (by rw [HK.out]))
      have HT : Hid (stN a i o (b, m) x = if decide (rk2 x a i o > b) then (rk2 x a i o, x.m) else (b, m)) := Lib.hid rfl
      have KR := Lib.hid (fun W => rrank_any x a i o W)
      clear hx hc hbl
      generalize rk2 x a i o = r at *
      cases hr : decide (b < r) with
      | false =>
        have hr' : ¬ b < r := of_decide_eq_false hr
        have HU : Hid (minT (l.take (k + 1)) a i o = (b, m)) := Lib.hid (by rw [HS.out, HT.out, if_neg (by simpa using hr')])
        clear HS HT hr
        go_wp2_with (go_at_call 82; refine (KR.out _).mono ?_; rintro e w1 ⟨rfl, hb2⟩)
        go_roundw
        case rel => exact ⟨k + 1, b, m, by omega, rfl, rfl, by go_num, HU, Below.trans hS (Below.mono hb2 hS.size)⟩
        case measure => simp [intOf]; omega
      | true =>
        have hr' : b < r := of_decide_eq_true hr
        have HU : Hid (minT (l.take (k + 1)) a i o = (r, x.m)) := Lib.hid (by rw [HS.out, HT.out, if_pos (by simpa using hr')])
        clear HS HT hr
        go_wp2_with (go_at_call 82; refine (KR.out _).mono ?_; rintro e w1 ⟨rfl, hb2⟩; have d3 := bel_cell hb2 d3)
        go_region
        go_wp2
        go_roundw
        case rel => exact ⟨k + 1, r, x.m, by omega, rfl, rfl, by go_num, HU, Below.trans hS (Below.mono (Below.drew hb2) hS.size)⟩
        case measure => simp [intOf]; omega
    · have e : k = l.length := by omega
      subst e
      have HR : Hid (m = minC l a i o) := Lib.hid (by have := HK.out; rw [List.take_length] at this; rw [← minT_eq, this])
      have i2 : ¬ (l.length : Int) < (l.length : Int) := by omega
      clear HK
      go_wp2
      go_ret
      exact ⟨ret_int HR.out, hS⟩


set_option maxRecDepth 100000 in
set_option maxHeartbeats 8000000 in
theorem fits_any (v : Value) (l : List Cn) (x y : Sg) (w : World) (hv : CnL w v l) (hn : l.length ≤ 1000) (hx : tmB x) (hy : tmB y) :
    Calls Tryd.prog 12 #[v, aggSg x, aggSg y] w fun e w' => e = .returned (.bool (fitB l x y)) ∧ Below w.heap.size w w' := by
  have hb1 := bel_alloc w (.cells #[.string x.car, .int .i64 x.num, .int .i64 x.day, .string x.f, .string x.t, .int .i64 x.dep, .int .i64 x.arr] sgT)
  have hb2 := bel_alloc (w.alloc (.cells #[.string x.car, .int .i64 x.num, .int .i64 x.day, .string x.f, .string x.t, .int .i64 x.dep, .int .i64 x.arr] sgT)) (.cells #[.string y.car, .int .i64 y.num, .int .i64 y.day, .string y.f, .string y.t, .int .i64 y.dep, .int .i64 y.arr] sgT)
  have hb3 := hb1.trans (hb2.mono hb1.size)
  have KM := Lib.hid (minutes_any v l x.t x.car y.car _ (hv.more hb3) hn)
  obtain ⟨A, c, rfl, hvc⟩ := id hv
  clear hv hvc
  obtain ⟨x0, x1, x2, x3⟩ := hx
  obtain ⟨y0, y1, y2, y3⟩ := hy
  have HF : Hid (fitB l x y = ((y.f.toList == x.t.toList) && decide (y.dep - x.arr ≤ 1440) && decide (minC l x.t x.car y.car ≤ y.dep - x.arr))) := Lib.hid rfl
  generalize minC l x.t x.car y.car = mm at *
  obtain ⟨d, hd⟩ : ∃ d, d = y.dep - x.arr := ⟨_, rfl⟩
  rw [← hd] at HF
  have HD := Lib.hid hd
  have w1 : wrap64 (y.dep - x.arr) = d := by rw [← hd]; exact IntWalk.wrap64_in _ (by omega)
  clear hd
  clear x0 x1 x2 x3 y0 y1 y2 y3

  cases h1 : (y.f.toList == x.t.toList) with
  | false =>
    go_enter Tryd.func12, Tryd.ntmps12
    go_wp2
    go_ret
    exact ⟨ret_bool (by rw [HF.out, h1]; rfl), hb3⟩
  | true =>
  cases h2 : decide (d ≤ 1440) with
  | false =>
    have h2' : ¬ d ≤ 1440 := of_decide_eq_false h2
    go_enter Tryd.func12, Tryd.ntmps12
    go_wp2
    go_ret
    exact ⟨ret_bool (by rw [HF.out, h1, h2]; rfl), hb3⟩
  | true =>
  have h2' : d ≤ 1440 := of_decide_eq_true h2
  cases h3 : decide (mm ≤ d) with
  | false =>
    have h3' : ¬ mm ≤ d := of_decide_eq_false h3
    go_enter Tryd.func12, Tryd.ntmps12
    go_wp2_with (go_at_call 15; refine KM.out.mono ?_; rintro e w1 ⟨rfl, hb4⟩)
    go_ret
    exact ⟨ret_bool (by rw [HF.out, h1, h2, h3]; rfl), hb3.trans (hb4.mono hb3.size)⟩
  | true =>
    have h3' : mm ≤ d := of_decide_eq_true h3
    go_enter Tryd.func12, Tryd.ntmps12
    go_wp2_with (go_at_call 15; refine KM.out.mono ?_; rintro e w1 ⟨rfl, hb4⟩)
    go_ret
    exact ⟨ret_bool (by rw [HF.out, h1, h2, h3]; rfl), hb3.trans (hb4.mono hb3.size)⟩

set_option maxRecDepth 100000 in
set_option maxHeartbeats 8000000 in
theorem rfits_any (v : Value) (l : List Cn) (x y : Sg) (w : World) (hv : CnL w v l) (hn : l.length ≤ 1000) (hx : tmB x) (hy : tmB y) :
    Calls Tryd.prog 43 #[v, aggSg x, aggSg y] w fun e w' => e = .returned (.bool (fitB l x y)) ∧ Below w.heap.size w w' := by
  have hb1 := bel_alloc w (.cells #[.string x.car, .int .i64 x.num, .int .i64 x.day, .string x.f, .string x.t, .int .i64 x.dep, .int .i64 x.arr] sgT)
  have hb2 := bel_alloc (w.alloc (.cells #[.string x.car, .int .i64 x.num, .int .i64 x.day, .string x.f, .string x.t, .int .i64 x.dep, .int .i64 x.arr] sgT)) (.cells #[.string y.car, .int .i64 y.num, .int .i64 y.day, .string y.f, .string y.t, .int .i64 y.dep, .int .i64 y.arr] sgT)
  have hb3 := hb1.trans (hb2.mono hb1.size)
  have KM := Lib.hid (rminutes_any v l x.t x.car y.car _ (hv.more hb3) hn)
  obtain ⟨A, c, rfl, hvc⟩ := id hv
  clear hv hvc
  obtain ⟨x0, x1, x2, x3⟩ := hx
  obtain ⟨y0, y1, y2, y3⟩ := hy
  have HF : Hid (fitB l x y = ((x.t.toList == y.f.toList) && decide (y.dep - x.arr ≤ 1440) && decide (minC l x.t x.car y.car ≤ y.dep - x.arr))) := Lib.hid (by unfold fitB; rw [eqS_comm]; rfl)
  generalize minC l x.t x.car y.car = mm at *
  obtain ⟨d, hd⟩ : ∃ d, d = y.dep - x.arr := ⟨_, rfl⟩
  rw [← hd] at HF
  have HD := Lib.hid hd
  have w1 : wrap64 (y.dep - x.arr) = d := by rw [← hd]; exact IntWalk.wrap64_in _ (by omega)
  clear hd
  clear x0 x1 x2 x3 y0 y1 y2 y3

  cases h1 : (x.t.toList == y.f.toList) with
  | false =>
    go_enter Tryd.func43, Tryd.ntmps43
    go_wp2
    go_ret
    exact ⟨ret_bool (by rw [HF.out, h1]; rfl), hb3⟩
  | true =>
  cases h3 : decide (mm ≤ d) with
  | false =>
    have h3' : ¬ mm ≤ d := of_decide_eq_false h3
    go_enter Tryd.func43, Tryd.ntmps43
    go_wp2_with (go_at_call 67; refine KM.out.mono ?_; rintro e w1 ⟨rfl, hb4⟩)
    go_ret
    exact ⟨ret_bool (by rw [HF.out, h1, h3]; cases decide (d ≤ 1440) <;> rfl), hb3.trans (hb4.mono hb3.size)⟩
  | true =>
  have h3' : mm ≤ d := of_decide_eq_true h3
  cases h2 : decide (d ≤ 1440) with
  | false =>
    have h2' : ¬ d ≤ 1440 := of_decide_eq_false h2
    go_enter Tryd.func43, Tryd.ntmps43
    go_wp2_with (go_at_call 67; refine KM.out.mono ?_; rintro e w1 ⟨rfl, hb4⟩)
    go_ret
    exact ⟨ret_bool (by rw [HF.out, h1, h2, h3]; rfl), hb3.trans (hb4.mono hb3.size)⟩
  | true =>
    have h2' : d ≤ 1440 := of_decide_eq_true h2
    go_enter Tryd.func43, Tryd.ntmps43
    go_wp2_with (go_at_call 67; refine KM.out.mono ?_; rintro e w1 ⟨rfl, hb4⟩)
    go_ret
    exact ⟨ret_bool (by rw [HF.out, h1, h2, h3]; rfl), hb3.trans (hb4.mono hb3.size)⟩

end Go.Proofs.YtkcdifanhdakhaaDoor.Con
