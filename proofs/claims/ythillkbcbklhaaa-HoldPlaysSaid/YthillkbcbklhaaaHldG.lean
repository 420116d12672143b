/- The order of holds; slices.SortFunc at holds. -/
import Derived.Test.YthillkbcbklhaaaHldF
import Derived.Test.YthillkbcbklhaaaSortd
import Derived.Test.YthillkbcbklhaaaShelf
import Derived.Shelf.SlSortCmp.WholeK
namespace Go.Proofs.Ythillkbcbklhaaa
open Go.RowKit Go.Shelf Go.Lib Go.Sort
set_option linter.unusedSimpArgs false
set_option linter.unusedVariables false

theorem cmp_int (x y : Int) : (x < y ∧ Lib.compareInt x y = -1) ∨ (x = y ∧ Lib.compareInt x y = 0) ∨ (y < x ∧ Lib.compareInt x y = 1) := by
  unfold Lib.compareInt
  by_cases h1 : x < y
  · exact .inl ⟨h1, by rw [if_pos h1]⟩
  · by_cases h2 : y < x
    · exact .inr (.inr ⟨h2, by rw [if_neg h1, if_pos h2]⟩)
    · exact .inr (.inl ⟨by omega, by rw [if_neg h1, if_neg h2]⟩)
set_option maxRecDepth 100000 in
theorem nanI_any (x : Int) (w : World) : Calls Try.prog 46 #[.int .i64 x] w fun e w' => e = .returned (.bool false) ∧ w' = w := by
  have h : (x != x) = false := by simp
  go_enter Try.func46, Try.ntmps46
  go_wp2
  go_ret
  exact ⟨by first | rfl | (simp), rfl⟩
set_option maxRecDepth 100000 in
set_option maxHeartbeats 4000000 in
theorem cmpI_any (x y : Int) (w : World) : Calls Try.prog 41 #[.int .i64 x, .int .i64 y] w fun e w' => e = .returned (.int .i64 (Lib.compareInt x y)) ∧ w' = w := by
  have K1 := Lib.hid (nanI_any x w)
  have K2 := Lib.hid (nanI_any y w)
  rcases cmp_int x y with ⟨h, e⟩ | ⟨h, e⟩ | ⟨h, e⟩ <;> rw [e]
  · go_enter Try.func41, Try.ntmps41
    go_wp2_with (first | (go_at_call 46; with_reducible refine K1.out.mono ?_; rintro e w' ⟨rfl, rfl⟩) | (go_at_call 46; with_reducible refine K2.out.mono ?_; rintro e w' ⟨rfl, rfl⟩))
    go_ret
    exact ⟨rfl, rfl⟩
  · subst h
    have i1 : ¬ x < x := by omega
    go_enter Try.func41, Try.ntmps41
    go_wp2_with (first | (go_at_call 46; with_reducible refine K1.out.mono ?_; rintro e w' ⟨rfl, rfl⟩) | (go_at_call 46; with_reducible refine K2.out.mono ?_; rintro e w' ⟨rfl, rfl⟩))
    go_ret
    exact ⟨rfl, rfl⟩
  · have i1 : ¬ x < y := by omega
    go_enter Try.func41, Try.ntmps41
    go_wp2_with (first | (go_at_call 46; with_reducible refine K1.out.mono ?_; rintro e w' ⟨rfl, rfl⟩) | (go_at_call 46; with_reducible refine K2.out.mono ?_; rintro e w' ⟨rfl, rfl⟩))
    go_ret
    exact ⟨rfl, rfl⟩
/-- a world that has only drawn and grown -/
structure GR (w W : World) : Prop where
  bel : Below w.heap.size w W
  dr : w.drawn ≤ W.drawn
theorem GR.refl (w : World) : GR w w := ⟨Below.refl _ _, Nat.le_refl _⟩
theorem GR.drew {w W : World} (h : GR w W) : GR w W.drew := ⟨h.bel.drew, Nat.le_trans h.dr (Nat.le_succ _)⟩
theorem GR.alloc {w W : World} (h : GR w W) (o : Obj) : GR w (W.alloc o) := ⟨h.bel.trans ((bel_alloc W o).mono h.bel.size), h.dr⟩
theorem GR.grown {w W : World} (h : GR w W) : ∃ q os, W = grow (w.drewN q) os := by
  obtain ⟨⟨h1, h2, h3, h4, h5⟩, h6⟩ := h
  refine ⟨W.drawn - w.drawn, W.heap.extract w.heap.size W.heap.size, ?_⟩
  obtain ⟨hp, tp, dr, os, out⟩ := W
  obtain ⟨hp', tp', dr', os', out'⟩ := w
  dsimp only at h1 h2 h3 h4 h5 h6
  subst h1 h2 h3
  unfold grow World.drewN
  dsimp only
  congr 1
  · apply Array.ext_getElem?
    intro i
    by_cases hi : i < hp'.size
    · rw [Array.getElem?_append_left hi]; exact h5 i hi
    · rw [Array.getElem?_append_right (by omega), Array.getElem?_extract]
      by_cases hi2 : i < hp.size
      · rw [if_pos (by omega)]; congr 1; omega
      · rw [if_neg (by omega), Array.getElem?_eq_none (by omega)]
  · omega
theorem GR.cells {w W : World} {a : Addr} {v : Value} (h : GR w W) (hc : w.cell? a = some v) : W.cell? a = some v := bel_cell h.bel hc
/-- the first number that is not nought -/
def orL : List Int → Int
  | [] => 0
  | x :: r => if (x != 0) = true then x else orL r
theorem orL_at : ∀ (l : List Int) (k : Nat) (x : Int), (∀ (j : Nat) (y : Int), j < k → l[j]? = some y → (y != 0) = false) → l[k]? = some x → (x != 0) = true → orL l = x
  | [], k, x, _, h, _ => by simp at h
  | z :: r, 0, x, _, h, hx => by
    simp at h
    subst h
    rw [orL, if_pos hx]
  | z :: r, k + 1, x, h0, h, hx => by
    rw [orL, if_neg (by rw [h0 0 z (by omega) rfl]; simp)]
    exact orL_at r k x (fun j y hj hy => h0 (j + 1) y (by omega) (by simpa using hy)) (by simpa using h) hx
theorem orL_no : ∀ (l : List Int), (∀ (j : Nat) (y : Int), l[j]? = some y → (y != 0) = false) → orL l = 0
  | [], _ => rfl
  | z :: r, h => by
    rw [orL, if_neg (by rw [h 0 z rfl]; simp)]
    exact orL_no r (fun j y hy => h (j + 1) y (by simpa using hy))
set_option maxRecDepth 100000 in
set_option maxHeartbeats 4000000 in
theorem or_any (A : Option Addr) (c : Nat) (l : List Int) (w : World) (hl : l.length ≤ 1000) (hL : IntR w (.slice A l.length c) l) :
    Calls Try.prog 40 #[.slice A l.length c] w fun e w' => e = .returned (.int .i64 (orL l)) ∧ w' = w := by
  have HI := Lib.hid (orL_at l)
  have HN := Lib.hid (orL_no l)
  have HL := Lib.hid hL
  clear hL
  generalize orL l = r at *
  go_enter Try.func40, Try.ntmps40
  go_wp2
  go_loopw [8] (fun vi wr => ∃ k : Nat, k ≤ l.length ∧ vi = .int .i64 k ∧ Hid (∀ (j : Nat) (y : Int), j < k → l[j]? = some y → (y != 0) = false) ∧ wr = w) (fun vi _ => l.length - (intOf vi).toNat)
  case atStart => exact ⟨0, Nat.zero_le _, rfl, Lib.hid (fun j y hj => absurd hj (Nat.not_lt_zero _)), rfl⟩
  case round =>
    obtain ⟨k, hk, rfl, HK, rfl⟩ := hrel
    by_cases hlt : k < l.length
    · obtain ⟨x, hx⟩ : ∃ x, l[k]? = some x := ⟨_, List.getElem?_eq_getElem hlt⟩
      obtain ⟨b, o, rfl, z0⟩ := int_at HL.out hx
      have i2 : (k : Int) < (l.length : Int) := by omega
      have HX := Lib.hid hx
      clear hx
      cases h0 : (x != 0) with
      | true =>
        have HR := Lib.hid (HI.out k x HK.out HX.out h0)
        go_wp2
        go_ret
        exact ⟨ret_int HR.out.symm, rfl⟩
      | false =>
        have H0 := Lib.hid h0
        go_wp2
        go_roundw
        case rel =>
          refine ⟨k + 1, by omega, by go_num, Lib.hid (fun j y hj hy => ?_), by first | rfl | trivial⟩
          by_cases hjk : j = k
          · subst hjk
            rw [HX.out] at hy
            cases hy
            exact H0.out
          · exact HK.out j y (by omega) hy
        case measure => simp [intOf]; omega
    · have HR := Lib.hid (HN.out (fun j y hy => HK.out j y (by have := (List.getElem?_eq_some_iff.1 hy).1; omega) hy))
      go_wp2
      go_ret
      exact ⟨ret_int HR.out.symm, rfl⟩
theorem GR.trans {a b c : World} (h : GR a b) (k : GR b c) : GR a c := ⟨h.bel.trans (k.bel.mono h.bel.size), Nat.le_trans h.dr k.dr⟩
def cmH (a b : Hd) : Int := orL [Lib.compareInt a.til b.til, Lib.compareInt a.id b.id]
theorem cmH_lt (a b : Hd) : cmH a b < 0 ↔ ltH a b := by
  unfold cmH ltH
  simp only [orL]
  rcases cmp_int a.til b.til with ⟨h, e⟩ | ⟨h, e⟩ | ⟨h, e⟩ <;> rw [e]
  · simp [h]
  · rw [← h]
    rcases cmp_int a.id b.id with ⟨h2, e2⟩ | ⟨h2, e2⟩ | ⟨h2, e2⟩ <;> rw [e2]
    · simp [h2]
    · rw [← h2]; simp
    · simp; omega
  · simp; omega
theorem ltOf_D (x y : Hd) : ltOf cmH x y = true ↔ ltH x y := by
  unfold ltOf
  rw [decide_eq_true_eq]
  exact cmH_lt x y
theorem cmH_swo : SWO (ltOf cmH) where
  irrefl x := by rw [← Bool.not_eq_true, ltOf_D]; exact ltH_irrefl x
  trans x y z h1 h2 := by rw [ltOf_D] at *; exact ltH_trans h1 h2
  ntrans x y z h1 h2 := by
    rw [← Bool.not_eq_true, ltOf_D] at *
    unfold ltH at *
    omega
set_option maxRecDepth 100000 in
set_option maxHeartbeats 8000000 in
theorem cmpH_any (x y : Hd) (w : World) : Calls Try.prog 39 #[aggH x, aggH y] w fun e w' => e = .returned (.int .i64 (cmH x y)) ∧ ∃ q os', w' = grow (w.drewN q) os' := by
  have hb2 := bel_alloc (w.alloc (.cells #[.int .i64 x.id, .slice x.A x.l.length x.c, .string x.cls, .int .i64 x.cnt, .int .i64 x.til] hdT)) (.cells #[.int .i64 y.id, .slice y.A y.l.length y.c, .string y.cls, .int .i64 y.cnt, .int .i64 y.til] hdT)
  have p0 := bel_cell hb2 (hd_cells w x 0 _ rfl)
  have p4 := bel_cell hb2 (hd_cells w x 4 _ rfl)
  have q0 := hd_cells (w.alloc (.cells #[.int .i64 x.id, .slice x.A x.l.length x.c, .string x.cls, .int .i64 x.cnt, .int .i64 x.til] hdT)) y 0 _ rfl
  have q4 := hd_cells (w.alloc (.cells #[.int .i64 x.id, .slice x.A x.l.length x.c, .string x.cls, .int .i64 x.cnt, .int .i64 x.til] hdT)) y 4 _ rfl
  rw [World.size_alloc] at q0 q4
  have hg : GR w ((w.alloc (.cells #[.int .i64 x.id, .slice x.A x.l.length x.c, .string x.cls, .int .i64 x.cnt, .int .i64 x.til] hdT)).alloc (.cells #[.int .i64 y.id, .slice y.A y.l.length y.c, .string y.cls, .int .i64 y.cnt, .int .i64 y.til] hdT)) := ((GR.refl w).alloc _).alloc _
  have HC : Hid (cmH x y = orL [Lib.compareInt x.til y.til, Lib.compareInt x.id y.id]) := Lib.hid rfl
  have K1 := Lib.hid (fun W => cmpI_any x.til y.til W)
  have K2 := Lib.hid (fun W => cmpI_any x.id y.id W)
  generalize cmH x y = R at *
  generalize Lib.compareInt x.til y.til = r1 at *
  generalize Lib.compareInt x.id y.id = r2 at *
  clear hb2
  go_enter Try.func39, Try.ntmps39
  go_upto_region 1 with fail
  try simp only [World.size_alloc]
  generalize hw5 : (w.alloc (.cells #[.int .i64 x.id, .slice x.A x.l.length x.c, .string x.cls, .int .i64 x.cnt, .int .i64 x.til] hdT)).alloc (.cells #[.int .i64 y.id, .slice y.A y.l.length y.c, .string y.cls, .int .i64 y.cnt, .int .i64 y.til] hdT) = w5 at *
  clear hw5
  have HG := Lib.hid hg
  clear hg
  have f0 : ∀ W, GR w5 W → _ := fun W h => GR.cells h p0
  have f1 : ∀ W, GR w5 W → _ := fun W h => GR.cells h p4
  have g0 : ∀ W, GR w5 W → _ := fun W h => GR.cells h q0
  have g1 : ∀ W, GR w5 W → _ := fun W h => GR.cells h q4
  clear p0 p4 q0 q4
  have hS : (GR w5) _ := (GR.refl _).drew
  refine wp_region_held_drew (S := GR w5) (by kernel_rfl) hS (fun _ => ?_)
  refine wpAnyH_take (i := 0) (v := ?vC0) rfl (by kernel_rfl) (by kernel_rfl) (by kernel_rfl) (fun _ _ _ h => h) (Or.inl ⟨by rfl, ?hyC0⟩) hS ?restC0
  case hyC0 =>
    intro w hSw
    first | (go_simp; done) | (go_simp; with_reducible rfl)
  try simp only [Act.put, List.setIfInBounds_toArray, List.set_cons_zero, List.set_cons_succ]
  refine wpAnyH_take (i := 1) (v := ?vC1) rfl (by kernel_rfl) (by kernel_rfl) (by kernel_rfl) (fun _ _ _ h => h) (Or.inl ⟨by rfl, ?hyC1⟩) hS ?restC1
  case hyC1 =>
    intro w hSw
    have k0 := f0 w hSw; have k1 := f1 w hSw; have k2 := g0 w hSw; have k3 := g1 w hSw
    first | (go_simp; done) | (go_simp; with_reducible rfl)
  try simp only [Act.put, List.setIfInBounds_toArray, List.set_cons_zero, List.set_cons_succ]
  refine wpAnyH_take (i := 2) (v := ?vC2) rfl (by kernel_rfl) (by kernel_rfl) (by kernel_rfl) (fun _ _ _ h => h) (Or.inl ⟨by rfl, ?hyC2⟩) hS ?restC2
  case hyC2 =>
    intro w hSw
    first | (go_simp; done) | (go_simp; with_reducible rfl)
  try simp only [Act.put, List.setIfInBounds_toArray, List.set_cons_zero, List.set_cons_succ]
  refine wpAnyH_take (i := 3) (v := ?vC3) rfl (by kernel_rfl) (by kernel_rfl) (by kernel_rfl) (fun _ _ _ h => h) (Or.inl ⟨by rfl, ?hyC3⟩) hS ?restC3
  case hyC3 =>
    intro w hSw
    have k0 := f0 w hSw; have k1 := f1 w hSw; have k2 := g0 w hSw; have k3 := g1 w hSw
    first | (go_simp; done) | (go_simp; with_reducible rfl)
  try simp only [Act.put, List.setIfInBounds_toArray, List.set_cons_zero, List.set_cons_succ]
  refine wpAnyH_take (i := 5) (v := ?vC5) rfl (by kernel_rfl) (by kernel_rfl) (by kernel_rfl) (fun _ _ _ h => h) (Or.inl ⟨by rfl, ?hyC5⟩) hS ?restC5
  case hyC5 =>
    intro w hSw
    first | (go_simp; done) | (go_simp; with_reducible rfl)
  try simp only [Act.put, List.setIfInBounds_toArray, List.set_cons_zero, List.set_cons_succ]
  refine wpAnyH_take (i := 6) (v := ?vC6) rfl (by kernel_rfl) (by kernel_rfl) (by kernel_rfl) (fun _ _ _ h => h) (Or.inl ⟨by rfl, ?hyC6⟩) hS ?restC6
  case hyC6 =>
    intro w hSw
    have k0 := f0 w hSw; have k1 := f1 w hSw; have k2 := g0 w hSw; have k3 := g1 w hSw
    first | (go_simp; done) | (go_simp; with_reducible rfl)
  try simp only [Act.put, List.setIfInBounds_toArray, List.set_cons_zero, List.set_cons_succ]
  refine wpAnyH_take (i := 7) (v := ?vC7) rfl (by kernel_rfl) (by kernel_rfl) (by kernel_rfl) (fun _ _ _ h => h) (Or.inl ⟨by rfl, ?hyC7⟩) hS ?restC7
  case hyC7 =>
    intro w hSw
    first | (go_simp; done) | (go_simp; with_reducible rfl)
  try simp only [Act.put, List.setIfInBounds_toArray, List.set_cons_zero, List.set_cons_succ]
  refine wpAnyH_take (i := 8) (v := ?vC8) rfl (by kernel_rfl) (by kernel_rfl) (by kernel_rfl) (fun _ _ _ h => h) (Or.inl ⟨by rfl, ?hyC8⟩) hS ?restC8
  case hyC8 =>
    intro w hSw
    have k0 := f0 w hSw; have k1 := f1 w hSw; have k2 := g0 w hSw; have k3 := g1 w hSw
    first | (go_simp; done) | (go_simp; with_reducible rfl)
  try simp only [Act.put, List.setIfInBounds_toArray, List.set_cons_zero, List.set_cons_succ]
  refine wpAnyH_ready (rs := [4]) (by kernel_rfl) (by simp) ?_
  refine AllReadyH.cons rfl (fun K hK => ?_) AllReadyH.nil
  go_simp
  go_wp2_with ((go_at_call 41; with_reducible refine (K1.out _).mono ?_; rintro e w7 ⟨rfl, rfl⟩))
  refine hK.out _ _ hS (fun _ => ?_)
  clear hK K
  refine wpAnyH_ready (rs := [9]) (by kernel_rfl) (by simp) ?_
  refine AllReadyH.cons rfl (fun K hK => ?_) AllReadyH.nil
  go_simp
  go_wp2_with ((go_at_call 41; with_reducible refine (K2.out _).mono ?_; rintro e w7 ⟨rfl, rfl⟩))
  refine hK.out _ _ hS (fun _ => ?_)
  clear hK K
  refine wpAnyH_ready (rs := [10]) (by kernel_rfl) (by simp) ?_
  refine AllReadyH.cons rfl (fun K hK => ?_) AllReadyH.nil
  go_simp
  have KO := Lib.hid (or_any (some ⟨w5.drew.heap.size, 0, none⟩) 2 [r1, r2] (w5.drew.alloc (.cells #[.int .i64 r1, .int .i64 r2] 3)) (by show 2 ≤ 1000; omega) (RowL.new w5.drew [r1, r2] 3 (enc := encI) (sz := 1) (fun x => rfl) rfl 2))
  rw [← HC.out] at KO
  have hS := hS.alloc (.cells #[.int .i64 r1, .int .i64 r2] 3)
  refine hK.out _ _ hS (fun _ => ?_)
  clear hK K
  refine wpAnyH_ready (rs := [11]) (by kernel_rfl) (by simp) ?_
  refine AllReadyH.cons rfl (fun K hK => ?_) AllReadyH.nil
  go_simp
  go_wp2_with ((go_at_call 40; refine KO.out.mono ?_; rintro e w7 ⟨rfl, rfl⟩))
  refine hK.out _ _ hS (fun _ => ?_)
  clear hK K
  refine wpAnyH_take (i := 12) (v := ?vC12) rfl (by kernel_rfl) (by kernel_rfl) (by kernel_rfl) (fun _ _ _ h => h) (Or.inl ⟨by rfl, ?hyC12⟩) hS ?restC12
  case hyC12 =>
    intro w hSw
    first | (go_simp; done) | (go_simp; with_reducible rfl)
  try simp only [Act.put, List.setIfInBounds_toArray, List.set_cons_zero, List.set_cons_succ]
  refine wpAnyH_done (by kernel_rfl) ?_ _
  try simp only [List.getElem_toArray, List.getElem_cons_succ, List.getElem_cons_zero, List.set_cons_zero, List.set_cons_succ]
  go_wp2
  go_ret
  refine ⟨by first | rfl | simp, ?_⟩
  have hT := GR.trans HG.out hS
  exact hT.grown
theorem own_cellsD {B : Nat} {w : World} {g n cap : Nat} {l : List Hd} (h : ROwn hdT 5 encH B w (.slice (some ⟨g, 0, none⟩) n cap) l) : ∃ cur, w.heap[g]? = some (.cells cur hdT (0, 0)) := by
  rcases h.own.2 with ⟨a, _⟩ | ⟨g', cap', cur, e1, _, hg, _⟩
  · cases a
  · cases e1; exact ⟨cur, hg⟩
instance : Inhabited Hd := ⟨⟨0, none, 0, [], noB, 0, 0⟩⟩
theorem butD4 {w W : World} {g off : Nat} {d : Array Hd} (S : SWK encH 5 w g off d W) : But w W (fun k => (Value.slice (some ⟨g, 0, none⟩) 0 0).ownBlock = some k) := by
  obtain ⟨n, os, rfl⟩ := S
  refine ⟨rfl, rfl, rfl, ?_, fun k hk hne => ?_⟩
  · unfold sortWorldK putRowK; simp
  · unfold sortWorldK putRowK
    rw [Go.Sort.heap_grow_old _ _ (by simp; omega)]
    have : g ≠ k := fun e => hne (by rw [e]; rfl)
    simp [putRow, mapBlock, Sort.ahead, Array.getElem?_modify, this]
theorem belowD4 {w W' : World} {g off B : Nat} {d : Array Hd} (S : SWK encH 5 w g off d W') (hg : B ≤ g) (hB : B ≤ w.heap.size) : Below B w W' := by
  obtain ⟨n, os, rfl⟩ := S
  refine ⟨rfl, rfl, rfl, ?_, fun k hk => ?_⟩
  · unfold sortWorldK putRowK; simp
  · unfold sortWorldK putRowK
    rw [Go.Sort.heap_grow_old _ _ (by simp; omega)]
    have : g ≠ k := by omega
    simp [putRow, mapBlock, Sort.ahead, Array.getElem?_modify, this]
/-- l' is l, the dearest first, and v holds it -/
structure SrtR (B : Nat) (l : List Hd) (w' : World) (v : Value) (l' : List Hd) : Prop where
  perm : l'.Perm l
  ord : ∀ (i j : Nat) (x y : Hd), i < j → l'[i]? = some x → l'[j]? = some y → ¬ ltH y x
  row : RowL 5 encH w' v l'
  fresh : l' = [] ∨ ∃ b c, v = .slice (some ⟨b, 0, none⟩) l'.length c ∧ B ≤ b ∧ ∀ t, t < l'.length * 5 → w'.frozen? ⟨b, t, none⟩ = false
set_option maxRecDepth 100000 in
set_option maxHeartbeats 4000000 in
/-- nothing to sort -/
theorem sortD0_any (g : Value) (w : World) : Calls Try.prog 44 #[.slice none 0 0, g] w fun e w' => e = .returned (.tuple #[]) ∧ w' = w := by
  have KL : Hid (∀ W, Calls Try.prog 49 #[.int .u64 0] W fun e w' => e = .returned (.int .i64 0) ∧ w' = W) := Lib.hid (fun W => Try.bits_Len 0 W (by omega) (by omega))
  have KI : Hid (∀ W, Calls Try.prog 50 #[.slice none 0 0, .int .i64 0, .int .i64 0, g] W fun e w' => e = .returned (.tuple #[]) ∧ w' = W) := Lib.hid (fun W => by
    go_enter Try.func50, Try.ntmps50
    go_wp2
    go_loopw [8] (fun vi wr => vi = .int .i64 1 ∧ wr = W) (fun _ _ => 0)
    case atStart => exact ⟨rfl, rfl⟩
    case round =>
      obtain ⟨rfl, rfl⟩ := hrel
      go_wp2
      refine bodyPost_end (results_none rfl _ _ _) rfl ⟨rfl, rfl⟩)
  have KP : Hid (∀ W, Calls Try.prog 48 #[.slice none 0 0, .int .i64 0, .int .i64 0, .int .i64 0, g] W fun e w' => e = .returned (.tuple #[]) ∧ w' = W) := Lib.hid (fun W => by
    go_enter Try.func48, Try.ntmps48
    go_wp2
    go_loopw [1, 2, 3] (fun v1 v2 v3 wr => v1 = .int .i64 0 ∧ v2 = .int .i64 0 ∧ v3 = .int .i64 0 ∧ wr = W) (fun _ _ _ _ => 0)
    case atStart => exact ⟨rfl, rfl, rfl, rfl⟩
    case round =>
      obtain ⟨rfl, rfl, rfl, rfl⟩ := hrel
      go_wp2_with (go_at_call 50; refine (KI.out _).mono ?_; rintro e w' ⟨rfl, rfl⟩)
      refine bodyPost_ret (results_none rfl _ _ _) rfl ⟨rfl, rfl⟩)
  go_enter Try.func44, Try.ntmps44
  go_wp2_with (first | (go_at_call 49; refine (KL.out _).mono ?_; rintro e w' ⟨rfl, rfl⟩) | (go_at_call 48; refine (KP.out _).mono ?_; rintro e w' ⟨rfl, rfl⟩))
  refine bodyPost_end (results_none rfl _ _ _) rfl ⟨rfl, rfl⟩
theorem own_twoD {B : Nat} {w : World} {v : Value} {l : List Hd} (h : ROwn hdT 5 encH B w v l) : (v = .slice none 0 0 ∧ l = []) ∨ ∃ g cap cur, v = .slice (some ⟨g, 0, none⟩) l.length cap ∧ B ≤ g ∧ w.heap[g]? = some (.cells cur hdT (0, 0)) := by
  rcases h.own.2 with ⟨a, b⟩ | ⟨g', cap', cur, e1, hg0, hg, hq⟩
  · left
    refine ⟨a, ?_⟩
    cases l with
    | nil => rfl
    | cons x r => simp [cellsR] at b
  · right
    exact ⟨g', cap', cur, e1, hg0, hg⟩
set_option maxHeartbeats 2000000 in
set_option maxRecDepth 100000 in
theorem sortD_any (l : List Hd) (v : Value) (B : Nat) (w : World) (hO : ROwn hdT 5 encH B w v l) (hl : l.length ≤ 1000) :
    Calls Try.prog 44 #[v, .func (.func 39) #[] #[]] w fun e w' => e = .returned (.tuple #[]) ∧ (∃ l', SrtR B l w' v l') ∧ But w w' (fun k => v.ownBlock = some k) := by
  rcases own_twoD hO with ⟨rfl, rfl⟩ | ⟨g, cap, cur, rfl, hBg, hcs⟩
  · refine (sortD0_any _ w).mono ?_
    rintro e w' ⟨rfl, rfl⟩
    exact ⟨rfl, ⟨[], ⟨List.Perm.refl _, fun i j x y _ h => by simp at h, ⟨none, 0, rfl, .inl rfl⟩, .inl rfl⟩⟩, But.refl _ _⟩
  have hgs : g < w.heap.size := (Array.getElem?_eq_some_iff.1 hcs).1
  have hcell : ∀ i (hi : i < l.length) j u, (encH l[i])[j]? = some u → w.cell? ⟨g, 0 + i * 5 + j, none⟩ = some u := fun i hi j u hu => by
    have h2 := hO.own.cells (g := g) rfl _ _ (cellsR_at rowH.len l i j l[i] u (List.getElem?_eq_getElem hi) hu)
    rw [Addr.add_lit] at h2
    simpa using h2
  have hH : HoldsK encH 5 w g 0 l.toArray := by
    intro t ht
    rw [size_flatK] at ht
    simp only [List.size_toArray] at ht
    have hi : t / 5 < l.length := by omega
    have e1 : (flatK encH 5 l.toArray)[t]! = (encH l[t / 5])[t % 5]! := by
      rw [get_flatK _ _ _ _ (by simpa using ht)]
      congr 2
      rw [getElem!_pos _ _ (by simpa using hi)]
      simp
    have hm : t % 5 < (encH l[t / 5]).length := by rw [rowH.len]; omega
    refine ⟨?_, frozen_of_row _ _ _ _ _ hcs⟩
    rw [e1, getElem!_pos (encH l[t / 5]) (t % 5) hm]
    have h3 := hcell (t / 5) hi (t % 5) _ (List.getElem?_eq_getElem hm)
    rw [show 0 + t / 5 * 5 + t % 5 = 0 + t from by omega] at h3
    exact h3
  have hcmp : CmpLays Try.prog 39 #[] encH 5 cmH g 0 l.toArray.size w := fun m os dk _ x y => cmpH_any x y _
  have C := AnyQ.slices_SortFunc Try.sortD 5 (fun w => Try.isAgg36 w) (fun w => Try.sizeOf36 w) encH rowH.len rowH.one cmH cmH_swo 39 #[] g 0 cap l.toArray w (enters_of Try.func39 (by kernel_rfl) rfl) hcmp hH hgs (by simp; omega)
  change Calls Try.prog 44 _ _ _ at C
  simp only [List.size_toArray] at C
  refine C.mono ?_
  rintro e w' ⟨rfl, d', n, os, hp, hs, rfl⟩
  have hS : SWK encH 5 w g 0 d' (sortWorldK encH 5 w g 0 n d' os) := ⟨n, os, rfl⟩
  have hsz : d'.size = l.length := by have := hp.1; simpa using this
  have hH2 := hS.holds hgs hH (by simpa using hsz)
  refine ⟨rfl, ⟨d'.toList, ?_, ?_, ?_, .inr ⟨g, cap, by simp [hsz], hBg, fun t ht => by
    have h9 := (hH2 t (by rw [size_flatK]; simpa using ht)).2
    rw [Nat.zero_add] at h9
    exact h9⟩⟩, butD4 hS⟩
  · have h2 := hp.2.2
    have e1 : d'.extract 0 l.length = d' := by rw [← hsz]; exact Array.extract_size
    have e2 : l.toArray.extract 0 l.length = l.toArray := by
      have : l.length = l.toArray.size := by simp
      rw [this]; exact Array.extract_size
    rw [e1, e2] at h2
    simpa using h2
  · intro i j x y hij hx hy
    have hjl := (List.getElem?_eq_some_iff.1 hy).1
    simp only [Array.length_toList] at hjl
    have h3 := hs i j (Nat.zero_le _) hij (by omega)
    rw [getElem!_pos d' j hjl, getElem!_pos d' i (show i < d'.size by omega)] at h3
    rw [Array.getElem?_toList, Array.getElem?_eq_getElem (by omega)] at hx hy
    cases hx
    cases hy
    rw [← ltOf_D]
    simpa using h3
  · refine ⟨some ⟨g, 0, none⟩, cap, by simp [hsz], .inr ⟨g, 0, rfl, hS.lt hgs, fun i x j u hi hu => ?_⟩⟩
    have hil := (List.getElem?_eq_some_iff.1 hi).1
    simp only [Array.length_toList] at hil
    rw [Array.getElem?_toList, Array.getElem?_eq_getElem hil] at hi
    cases hi
    have hj : j < 5 := by have := (List.getElem?_eq_some_iff.1 hu).1; simpa [encH] using this
    have h4 := (hH2 (i * 5 + j) (by rw [size_flatK]; omega)).1
    rw [get_flatK _ _ _ _ (by omega), show (i * 5 + j) / 5 = i by omega, show (i * 5 + j) % 5 = j by omega, getElem!_pos d' i hil, getElem!_pos (encH d'[i]) j (by simp [encH]; omega)] at h4
    obtain ⟨_, hu2⟩ := List.getElem?_eq_some_iff.1 hu
    rw [show 0 + i * 5 + j = 0 + (i * 5 + j) from by omega, h4, hu2]
    rfl
end Go.Proofs.Ythillkbcbklhaaa
