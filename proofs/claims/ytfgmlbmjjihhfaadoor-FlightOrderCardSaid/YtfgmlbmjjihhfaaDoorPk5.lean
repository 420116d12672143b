/- Words and walks that the laws below ask: ZonD, FliC, PlaN, PlaL, FliD, FliE, FliF, FliG. -/
import Derived.Shelf.Abstract
import Derived.Deep.CutRange
import Derived.Deep.RegionHeld3
import Derived.Deep.Onto
import Derived.Lib.ItoaLen
import Derived.Deep.LoopGhost
import Derived.Test.YtfgmlbmjjihhfaaDoorPk3
import Derived.Test.YtfgmlbmjjihhfaaDoorPk4
/- Walks of the closures, of Offset, Local, UTC, last, Exists and Twice. -/
namespace Go.Proofs.YtfgmlbmjjihhfaaDoor.Zon
open Go.RowKit Go.Shelf
set_option linter.unusedSimpArgs false
set_option linter.unusedVariables false

set_option maxHeartbeats 2000000 in
theorem utcc_any (o : Int) (A : Option Addr) (c : Nat) (l : Shs) (u : Int) (B : Nat) (i : Nat) (W : World) (ok : OkZ o l) (hi : i < l.length) (z0 : W.cell? ⟨B, 0, none⟩ = some (.int .i64 o)) (z1 : W.cell? ⟨B, 1, none⟩ = some (.slice A l.length c)) (zu : W.cell? ⟨B + 1, 0, none⟩ = some (.int .i64 u)) (hL : ShL W A l) :
    Calls Tryd.prog 76 #[.int .i64 i, .pointer (some ⟨B, 0, none⟩), .pointer (some ⟨B + 1, 0, none⟩)] W fun e w' => e = .returned (.bool (decide (u < shA l i + shB o l i))) ∧ Below W.heap.size W w' := by
  have KB := Lib.hid (SW.call (w5 := W) (fun W' hW => before_any o A c l i W' ok.len (by omega) (hL.more hW)))
  obtain ⟨g, off, rfl, hgl, hcc⟩ := hL.at hi
  obtain ⟨g0, g1⟩ := hcc i hi
  have i1 : (i : Int) < (l.length : Int) := by omega
  have hl := ok.len
  have b1 := ok.at' i hi
  have b2 := ok.before i (by omega)
  have q0 := SW.cell z0
  have q1 := SW.cell z1
  have q2 := SW.cell zu
  have q3 := SW.cell g0
  clear hcc hL ok
  generalize shA l i = a at *
  generalize shB o l i = b at *
  go_enter Tryd.func76, Tryd.ntmps76
  go_wp2
  have hNe : Nonempty (Wd (SW W)) := ⟨⟨_, SW.drew _⟩⟩
  refine quietS (S := SW W) (by kernel_rfl) (by kernel_rfl) (SW.drew _) ?_
  repeat (first | go_big_quiet_skip | (go_big_quiet_want; go_big_quiet_op; first | go_big_quiet_on | go_big_quiet_call (((go_at_call 77; (with_reducible exact quiet_S (KB.out _ (Wd.ok _))))))))
  refine wpQuiet_nil ?_
  rintro W ⟨⟨_, hW⟩, rfl⟩
  go_wp2
  go_ret
  exact ⟨rfl, hW⟩
theorem eg_utc : ∀ args w, (callFunc 76 args).run Tryd.prog w = .ok (.enter 76 args) w := enters_of Tryd.func76 (by kernel_rfl) rfl
/-- the two boxes that a function with a closure makes: the zone's and the minute's -/
def Z2 (w : World) (o : Int) (A : Option Addr) (n c : Nat) (u : Int) : World := (w.alloc (.cells #[.int .i64 o, .slice A n c] zoneT)).alloc (.cells #[.int .i64 u] 3)
theorem Z2.bel (w : World) (o : Int) (A : Option Addr) (n c : Nat) (u : Int) : Below w.heap.size w (Z2 w o A n c u) := (bel_alloc _ _).alloc (by simp) _
theorem Z2.z0 (w : World) (o : Int) (A : Option Addr) (n c : Nat) (u : Int) : (Z2 w o A n c u).cell? ⟨w.heap.size, 0, none⟩ = some (.int .i64 o) :=
  (Below.cell (bel_alloc _ _) (by simp)).trans (cells_new w #[.int .i64 o, .slice A n c] zoneT 0)
theorem Z2.z1 (w : World) (o : Int) (A : Option Addr) (n c : Nat) (u : Int) : (Z2 w o A n c u).cell? ⟨w.heap.size, 1, none⟩ = some (.slice A n c) :=
  (Below.cell (bel_alloc _ _) (by simp)).trans (cells_new w #[.int .i64 o, .slice A n c] zoneT 1)
theorem Z2.zu (w : World) (o : Int) (A : Option Addr) (n c : Nat) (u : Int) : (Z2 w o A n c u).cell? ⟨w.heap.size + 1, 0, none⟩ = some (.int .i64 u) := by
  have h := cells_new (w.alloc (.cells #[.int .i64 o, .slice A n c] zoneT)) #[.int .i64 u] 3 0
  rw [World.size_alloc] at h
  exact h
theorem bel_cell {w w' : World} {a : Addr} {v : Value} (h : Below w.heap.size w w') (hc : w.cell? a = some v) : w'.cell? a = some v := (h.cell (World.block_lt_of_cell? _ _ hc)).trans hc

set_option maxRecDepth 100000 in
set_option maxHeartbeats 2000000 in
theorem utc_any (o : Int) (A : Option Addr) (c : Nat) (l : Shs) (u : Int) (w : World) (ok : OkZ o l) (hL : ShL w A l) (hu : -1099511627776 ≤ u ∧ u ≤ 1099511627776) :
    Calls Tryd.prog 55 #[encZ o A l.length c, .int .i64 u] w fun e w' => e = .returned (.int .i64 (utcZ o l u)) ∧ Below w.heap.size w w' := by
  have hb0 := Z2.bel w o A l.length c u
  have z0 := Z2.z0 w o A l.length c u
  have z1 := Z2.z1 w o A l.length c u
  have zu := Z2.zu w o A l.length c u
  have CS := Lib.hid (search_any 76 #[.pointer (some ⟨w.heap.size, 0, none⟩), .pointer (some ⟨w.heap.size + 1, 0, none⟩)] l.length (fun i => decide (u < shA l i + shB o l i)) (Z2 w o A l.length c u) eg_utc (by have := ok.len; omega)
    (fun i W hi hW => utcc_any o A c l u w.heap.size i W ok hi (bel_cell hW z0) (bel_cell hW z1) (bel_cell hW zu) ((hL.more hb0).more hW)) (utc_mono ok u))
  rw [show fstP (fun i => decide (u < shA l i + shB o l i)) l.length 0 = utcN o l u from rfl] at CS
  have hle := (utcN_spec ok u).1
  have CB := Lib.hid (fun W (hW : Below (Z2 w o A l.length c u).heap.size (Z2 w o A l.length c u) W) => before_any o A c l (utcN o l u) W ok.len hle ((hL.more hb0).more hW))
  have hr := ok.before _ hle
  have HR : Hid (utcZ o l u = if utcN o l u = 0 then u - shB o l (utcN o l u) else max (u - shB o l (utcN o l u)) (shA l (utcN o l u - 1))) := Lib.hid rfl
  have hl := ok.len
  generalize hk : utcN o l u = k at *
  clear hk
  have hA : 0 < k → ∃ g off, A = some ⟨g, off, none⟩ ∧ (Z2 w o A l.length c u).cell? ⟨g, off + (k - 1) * 2, none⟩ = some (.int .i64 (shA l (k - 1))) ∧ 0 ≤ shA l (k - 1) ∧ shA l (k - 1) < 52596000 := fun h => by
    obtain ⟨g, off, rfl, hgl, hcc⟩ := (hL.more hb0).at (k := k - 1) (by omega)
    exact ⟨g, off, rfl, (hcc (k - 1) (by omega)).1, ok.at' (k - 1) (by omega)⟩
  generalize shB o l k = r at *
  clear hL ok
  unfold Z2 at *
  by_cases h0 : k = 0
  · rw [if_pos h0] at HR
    have hk0 : ¬ (0 : Int) < (k : Int) := by omega
    clear h0 hA
    go_enter Tryd.func55, Tryd.ntmps55
    go_wp2_with (go_at_call 75; refine CS.out.mono ?_; rintro e w1 ⟨rfl, hb1⟩; have y0 := SW.cell (bel_cell hb1 z0); have y1 := SW.cell (bel_cell hb1 z1); have yu := SW.cell (bel_cell hb1 zu); have KB := Lib.hid (SW.call (w5 := w1) (fun W hW => CB.out W (hb1.trans (hW.mono hb1.size)))))
    have hNe : Nonempty (Wd (SW w1)) := ⟨⟨_, SW.drew _⟩⟩
    refine quietS (S := SW w1) (by kernel_rfl) (by kernel_rfl) (SW.drew _) ?_
    repeat (first | go_big_quiet_skip | (go_big_quiet_want; go_big_quiet_op; first | go_big_quiet_on | go_big_quiet_call (((go_at_call 77; (with_reducible exact quiet_S (KB.out _ (Wd.ok _))))))))
    refine wpQuiet_nil ?_
    rintro W ⟨⟨_, hW⟩, rfl⟩
    go_wp2
    go_ret
    have h1 := hb0.trans (hb1.mono hb0.size)
    exact ⟨by rw [HR.out]; rfl, h1.trans (hW.mono h1.size)⟩
  · rw [if_neg h0] at HR
    obtain ⟨g, off, rfl, ga, ha⟩ := hA (by omega)
    have hk0 : (0 : Int) < (k : Int) := by omega
    have i4 : (0 : Int) ≤ (k : Int) - 1 := by omega
    have i5 : (k : Int) - 1 < (l.length : Int) := by omega
    have i6 : ((k : Int) - 1).toNat = k - 1 := by omega
    clear h0 hA
    generalize shA l (k - 1) = a at *
    go_enter Tryd.func55, Tryd.ntmps55
    go_wp2_with (go_at_call 75; refine CS.out.mono ?_; rintro e w1 ⟨rfl, hb1⟩; have y0 := SW.cell (bel_cell hb1 z0); have y1 := SW.cell (bel_cell hb1 z1); have yu := SW.cell (bel_cell hb1 zu); have ya := SW.cell (bel_cell hb1 ga); have KB := Lib.hid (SW.call (w5 := w1) (fun W hW => CB.out W (hb1.trans (hW.mono hb1.size)))))
    have hNe : Nonempty (Wd (SW w1)) := ⟨⟨_, SW.drew _⟩⟩
    refine quietS (S := SW w1) (by kernel_rfl) (by kernel_rfl) (SW.drew _) ?_
    repeat (first | go_big_quiet_skip | (go_big_quiet_want; go_big_quiet_op; first | go_big_quiet_on | go_big_quiet_call (((go_at_call 77; (with_reducible exact quiet_S (KB.out _ (Wd.ok _))))))))
    refine wpQuiet_nil ?_
    rintro W ⟨⟨_, hW⟩, rfl⟩
    have x1 := y1 ⟨_, hW⟩
    have x2 := ya ⟨_, hW⟩
    dsimp only at x1 x2
    go_wp2
    all_goals
      go_ret
      have h1 := hb0.trans (hb1.mono hb0.size)
      exact ⟨by rw [HR.out]; exact ret_int (by omega), h1.trans (hW.mono h1.size)⟩

end Go.Proofs.YtfgmlbmjjihhfaaDoor.Zon

/- Walks of isNext, departure and arrival. -/
namespace Go.Proofs.YtfgmlbmjjihhfaaDoor
open Go.RowKit Go.Shelf
set_option linter.unusedSimpArgs false
set_option linter.unusedVariables false

def badF (before : List Lg) (x : Lg) : Bool := match before.getLast? with
  | none => false
  | some y => !(x.f.toList == y.t.toList)
def nextB (before : List Lg) (x : Lg) : Bool := !badF before x && (!(x.t.toList == x.f.toList) && !(before.any fun b => b.f.toList == x.t.toList))
set_option maxHeartbeats 400000 in
theorem nextc_any (b x : Lg) (B : Nat) (W : World) (z : W.cell? ⟨B, 1, none⟩ = some (.string x.t)) :
    Calls Tryd.prog 45 #[encG b, .pointer (some ⟨B, 0, none⟩)] W fun e w' => e = .returned (.bool (b.f.toList == x.t.toList)) ∧ Below W.heap.size W w' := by
  have hlt := World.block_lt_of_cell? _ _ z
  have z' := (Below.cell (bel_alloc W (.cells #[.string b.f, .string b.t, .int .i64 b.dep, .int .i64 b.arr, .string b.eq] legT)) (p := ⟨B, 1, none⟩) hlt).trans z
  go_enter Tryd.func45, Tryd.ntmps45
  go_wp2
  go_ret
  exact ⟨rfl, bel_alloc _ _⟩
theorem eg_next : ∀ args w, (callFunc 45 args).run Tryd.prog w = .ok (.enter 45 args) w := enters_of Tryd.func45 (by kernel_rfl) rfl

set_option maxRecDepth 100000 in
set_option maxHeartbeats 4000000 in
theorem isNext_any (A : Option Addr) (c : Nat) (l : List Lg) (x : Lg) (w : World) (hl : l.length ≤ 1000) (hL : LegL w (.slice A l.length c) l) :
    Calls Tryd.prog 24 #[.slice A l.length c, encG x] w fun e w' => e = .returned (.bool (nextB l x)) ∧ Below w.heap.size w w' := by
  have hb0 := bel_alloc w (.cells #[.string x.f, .string x.t, .int .i64 x.dep, .int .i64 x.arr, .string x.eq] legT)
  have q0 := (cells_new w #[.string x.f, .string x.t, .int .i64 x.dep, .int .i64 x.arr, .string x.eq] legT 0).trans (show _ = some (.string x.f) from rfl)
  have q1 := (cells_new w #[.string x.f, .string x.t, .int .i64 x.dep, .int .i64 x.arr, .string x.eq] legT 1).trans (show _ = some (.string x.t) from rfl)
  have hL5 := hL.more hb0
  go_enter Tryd.func24, Tryd.ntmps24
  go_upto_region 1 with fail
  generalize hw5 : w.alloc (.cells #[.string x.f, .string x.t, .int .i64 x.dep, .int .i64 x.arr, .string x.eq] legT) = w5 at *
  clear hw5
  have f0 := SW.cell q0
  have f1 := SW.cell q1
  have HN : Hid (nextB l x = (!badF l x && (!(x.t.toList == x.f.toList) && !(l.any fun b => b.f.toList == x.t.toList)))) := Lib.hid rfl
  go_cut [19] from 5 (fun v wx => v = .bool (badF l x) ∧ SW w5 wx)
  case first =>
    by_cases h0 : l.length = 0
    · have hE : badF l x = false := by rw [List.eq_nil_of_length_eq_zero h0]; rfl
      have HE := Lib.hid hE
      have i0 : ¬ (0 : Int) < (l.length : Int) := by omega
      have hdec : decide (0 < l.length) = false := decide_eq_false (by omega)
      clear hE h0
      have hNe : Nonempty (Wd (SW w5)) := ⟨⟨_, SW.drew _⟩⟩
      refine quietS (S := SW w5) (by kernel_rfl) (by kernel_rfl) (SW.drew _) ?_
      repeat (first | go_big_quiet_skip | (go_big_quiet_want; go_big_quiet_op; first | go_big_quiet_on | go_big_quiet_call ((fail))))
      refine wpQuiet_nil ?_
      rintro W ⟨⟨_, hW⟩, rfl⟩
      go_wp2
      go_meet
      exact ⟨by rw [HE.out], hW⟩
    · obtain ⟨b, o, y, rfl, hbl, hy, c0, c1, c2, c3, c4⟩ := LegL.get hL5 (show l.length - 1 < l.length by omega)
      have hE : badF l x = !(x.f.toList == y.t.toList) := by
        unfold badF
        rw [List.getLast?_eq_getElem?, hy]
      have HE := Lib.hid hE
      have i0 : (0 : Int) < (l.length : Int) := by omega
      have hdec : decide (0 < l.length) = true := decide_eq_true (by omega)
      have i1 : ((l.length : Int) - 1) = ((l.length - 1 : Nat) : Int) := by omega
      have i2 : ((l.length - 1 : Nat) : Int) < (l.length : Int) := by omega
      have f2 := SW.cell c1
      clear hE h0 hy c0 c1 c2 c3 c4
      generalize l.length - 1 = last at *
      have hNe : Nonempty (Wd (SW w5)) := ⟨⟨_, SW.drew _⟩⟩
      refine quietS (S := SW w5) (by kernel_rfl) (by kernel_rfl) (SW.drew _) ?_
      repeat (first | go_big_quiet_skip | (go_big_quiet_want; go_big_quiet_op; first | go_big_quiet_on | go_big_quiet_call ((fail))))
      refine wpQuiet_nil ?_
      rintro W ⟨⟨_, hW⟩, rfl⟩
      go_wp2
      go_meet
      exact ⟨by rw [HE.out], hW⟩
  case rest =>
    obtain ⟨rfl, hS⟩ := hcut
    cases hbf : badF l x
    · rw [hbf] at HN
      have k0 := bel_get q0 _ hS
      have k1 := bel_get q1 _ hS
      cases hft : (x.t.toList == x.f.toList)
      · rw [hft] at HN
        have HC := Lib.hid (containsL_any 45 #[.pointer (some ⟨w.heap.size, 0, none⟩)] A c l (fun b => b.f.toList == x.t.toList) wc eg_next hl (hL5.more hS) (fun a W ha hW => nextc_any a x _ W (bel_cell hW k1)))
        generalize (l.any fun b => b.f.toList == x.t.toList) = an at *
        clear hL hL5
        go_wp2_with (go_at_call 44; refine HC.out.mono ?_; rintro e w' ⟨rfl, hb'⟩)
        go_ret
        exact ⟨ret_bool (by rw [HN.out]; simp), hb0.trans ((Below.trans hS (Below.mono hb' hS.size)).mono hb0.size)⟩
      · rw [hft] at HN
        go_wp2
        go_ret
        exact ⟨ret_bool (by rw [HN.out]; simp), hb0.trans (Below.mono hS hb0.size)⟩
    · rw [hbf] at HN
      go_wp2
      go_ret
      exact ⟨ret_bool (by rw [HN.out]; simp), hb0.trans (Below.mono hS hb0.size)⟩

end Go.Proofs.YtfgmlbmjjihhfaaDoor

/- Walk of neighbours. -/
namespace Go.Proofs.YtfgmlbmjjihhfaaDoor
open Go.RowKit Go.Shelf
set_option linter.unusedSimpArgs false
set_option linter.unusedVariables false

abbrev nilS : Value := .slice none 0 0
end Go.Proofs.YtfgmlbmjjihhfaaDoor

/- Walk of checkAirports, whatever there is to report. -/
namespace Go.Proofs.YtfgmlbmjjihhfaaDoor
open Go.RowKit Go.Shelf
set_option linter.unusedSimpArgs false
set_option linter.unusedVariables false

abbrev errT : TypeId := 37
theorem errs_new (w : World) (es : List Int) {cs : Array Value} (hcs : cs = (es.map (Value.int .i64)).toArray) : ∀ k (h : k < es.length), (w.alloc (.cells cs errT)).cell? ⟨w.heap.size, k, none⟩ = some (.int .i64 es[k]) := by
  intro k hk
  subst hcs
  rw [cells_new, List.getElem?_toArray, List.getElem?_map, List.getElem?_eq_getElem hk]
  rfl
theorem But.on {w w' w'' : World} {X : Nat → Prop} (h : But w w' X) (hb : Below w'.heap.size w' w'') : But w w'' X := h.trans (But.of_below (X := X) hb) (fun _ _ h => h)
/-- since w6 nothing has turned but v's own block -/
abbrev SX (w6 : World) (v : Value) (W : World) : Prop := But w6 W (fun k => v.ownBlock = some k)
theorem SX.cell {w6 W : World} {v : Value} {a : Addr} {x : Value} (hc : w6.cell? a = some x) (hne : v.ownBlock ≠ some a.block) (h : SX w6 v W) : W.cell? a = some x :=
  (World.cell?_of_block (h.block a.block (World.block_lt_of_cell? _ _ hc) hne)).trans hc
theorem SX.map {κ : Type} [DecidableEq κ] {P : Program} {k : TypeId} {en : κ → Value} {w6 W : World} {v : Value} {b n : Nat} {g : κ → Option Value} (hm : MapK P k en w6 b n g) (hne : v.ownBlock ≠ some b) (h : SX w6 v W) : MapK P k en W b n g := hm.same (h.block b hm.lt hne)
theorem ROwn.grown {α : Type} {enc : α → List Value} {e : TypeId} {sz B : Nat} {w w' : World} {v : Value} {l : List α} {row : Option Nat} (h : ROwn e sz enc B w v l) (hg : w.grownBy w' row) (hne : row ≠ v.ownBlock ∨ v.ownBlock = none) : ROwn e sz enc B w' v l :=
  ⟨h.own.kept hg (by
    rcases hne with h1 | h1
    · exact .inr (fun e => h1 e.symm)
    · exact .inl h1), Nat.le_trans h.base hg.size⟩
theorem itoa_nat (k : Nat) : Lib.itoa (k : Int) = Lib.decDigits k := by
  unfold Lib.itoa
  rw [if_neg (by omega)]
  simp
theorem decA_size (k : Nat) (h : k < 100) : (decA k).size ≤ 21 := by
  have := Lib.itoa_length_le (k : Int) (by omega) (by omega)
  show (Lib.itoa (k : Int)).toArray.size ≤ 21
  simpa using this
theorem dec_small (k : Nat) (h : k < 100) (w : World) : Calls Tryd.prog 21 #[.int .i64 (k : Int)] w fun e w' => e = .returned (.string (decA k)) ∧ w = w' := by
  have HC : Hid (∀ w, Calls Tryd.prog 42 #[.int .i64 (k : Int)] w fun e w' => e = .returned (.string (decA k)) ∧ w = w') := Lib.hid (fun w => by
    have h := Tryd.strconv_Itoa_small k h w
    rw [← itoa_nat] at h
    exact h.mono (by rintro e w' ⟨rfl, rfl⟩; exact ⟨rfl, rfl⟩))
  generalize decA k = s at *
  go_enter Tryd.func21, Tryd.ntmps21
  go_wp2_with (go_at_call 42; refine (HC.out _).mono ?_; rintro e w' ⟨rfl, rfl⟩)
  go_ret
  exact ⟨rfl, rfl⟩
def gC (L : List Air) (c : ByteArray) : Option Value := if L.any (fun b => decide (b.code = c)) then some (.bool true) else none
def gL (L : List Air) (c : ByteArray) : Option Value := (L.find? (fun b => decide (b.city = c))).map fun b => .string b.land
def gV (L : List Air) (c : ByteArray) : Option Value := if sevB L c then some (.bool true) else none
theorem gC_put (L : List Air) (a : Air) : (fun c' => if c' = a.code then some (Value.bool true) else gC L c') = gC (L ++ [a]) := by
  funext c
  unfold gC
  by_cases e : c = a.code
  · subst e; simp
  · have e' : ¬ a.code = c := fun h => e h.symm
    simp [e, e']
theorem gL_new (L : List Air) (a : Air) (h : L.find? (fun b => decide (b.city = a.city)) = none) : (fun c' => if c' = a.city then some (Value.string a.land) else gL L c') = gL (L ++ [a]) := by
  funext c
  unfold gL
  by_cases e : c = a.city
  · subst e; rw [List.find?_append, h]; simp
  · have e' : ¬ a.city = c := fun h => e h.symm
    rw [List.find?_append]; simp [e, e']
theorem gL_old (L : List Air) (a b : Air) (h : L.find? (fun b => decide (b.city = a.city)) = some b) : gL (L ++ [a]) = gL L := by
  funext c
  unfold gL
  by_cases e : c = a.city
  · subst e; rw [List.find?_append, h]; simp
  · have e' : ¬ a.city = c := fun h => e h.symm
    rw [List.find?_append]; simp [e']
theorem gV_put (L : List Air) (a : Air) (h : ∀ c, sevB (L ++ [a]) c = (decide (c = a.city) || sevB L c)) : (fun c' => if c' = a.city then some (Value.bool true) else gV L c') = gV (L ++ [a]) := by
  funext c
  unfold gV
  rw [h]
  by_cases e : c = a.city <;> simp [e]
theorem gC_get (L : List Air) (c : ByteArray) : (gC L c).getD (.bool false) = .bool (L.any fun b => decide (b.code = c)) := by
  unfold gC
  cases L.any fun b => decide (b.code = c) <;> rfl
theorem gV_get (L : List Air) (c : ByteArray) : (gV L c).getD (.bool false) = .bool (sevB L c) := by
  unfold gV
  cases sevB L c <;> rfl
theorem mov_sev (L : List Air) (a : Air) : movB L a = sevB (L ++ [a]) a.city := by
  cases h : L.find? (fun b => decide (b.city = a.city)) with
  | none =>
    obtain ⟨h1, h2⟩ := sev_new L a h
    rw [h1, h2]
    unfold sevB
    rw [h]
  | some f =>
    by_cases hl : f.land = a.land
    · obtain ⟨h1, h2⟩ := sev_same L a f h hl
      rw [h1, h2]
    · obtain ⟨h1, h2⟩ := sev_diff L a f h hl
      rw [h1, h2]; simp
theorem ShL.but' {w w' : World} {X : Nat → Prop} {A : Option Addr} {l : Shs} (h : ShL w A l) (hb : But w w' X) (hA : l = [] ∨ A = none ∨ ∃ g o, A = some ⟨g, o, none⟩ ∧ ¬ X g) : ShL w' A l := by
  rcases h with h | ⟨b, o, rfl, hlt, hc⟩
  · exact .inl h
  · rcases hA with h | h | ⟨g, o', e, hx⟩
    · exact .inl h
    · cases h
    · cases e
      exact .inr ⟨b, o, rfl, Nat.lt_of_lt_of_le hlt hb.size, fun i hi => ⟨(World.cell?_of_block (a := ⟨b, o + i * 2, none⟩) (hb.block b hlt hx)).trans (hc i hi).1, (World.cell?_of_block (a := ⟨b, o + i * 2 + 1, none⟩) (hb.block b hlt hx)).trans (hc i hi).2⟩⟩
theorem ShL.below {w w' : World} {lo : Nat} {A : Option Addr} {l : Shs} (h : ShL w A l) (hb : Below w.heap.size w w') : ShL w' A l := h.more hb

end Go.Proofs.YtfgmlbmjjihhfaaDoor

/- Words for legs with their zones; walks of departure, arrival, findNonstops, isOrdered. -/
namespace Go.Proofs.YtfgmlbmjjihhfaaDoor
open Go.RowKit Go.Shelf
set_option linter.unusedSimpArgs false
set_option linter.unusedVariables false

/-- a leg with the zones of its airports -/
structure NS where
  x : Lg
  fo : Int
  fA : Option Addr
  fc : Nat
  fs : Shs
  ti : Int
  tA : Option Addr
  tc : Nat
  ts : Shs
abbrev nonT : TypeId := 69
def encNS (n : NS) : List Value := [.string n.x.f, .string n.x.t, .int .i64 n.x.dep, .int .i64 n.x.arr, .string n.x.eq, .int .i64 n.fo, .slice n.fA n.fs.length n.fc, .int .i64 n.ti, .slice n.tA n.ts.length n.tc]
abbrev encN (n : NS) : Value := .agg #[.string n.x.f, .string n.x.t, .int .i64 n.x.dep, .int .i64 n.x.arr, .string n.x.eq, .int .i64 n.fo, .slice n.fA n.fs.length n.fc, .int .i64 n.ti, .slice n.tA n.ts.length n.tc]
theorem rtN : RT Tryd.prog 66 nonT 9 encNS where
  ht := Tryd.underlying66
  info := ⟨.agg #[.string noB, .string noB, .int .i64 0, .int .i64 0, .string noB, .int .i64 0, .slice none 0 0, .int .i64 0, .slice none 0 0], 128, by kernel_rfl, rfl, by omega⟩
  len x := rfl
  one x u hu := by simp [encNS] at hu; rcases hu with rfl | rfl | rfl | rfl | rfl | rfl | rfl | rfl | rfl <;> rfl
  pos := by omega

set_option maxRecDepth 100000 in
set_option maxHeartbeats 2000000 in
theorem departure_any (n : NS) (day : Int) (w : World) (ok : OkZ n.fo n.fs) (hL : ShL w n.fA n.fs) (hd : -100000000 ≤ day ∧ day ≤ 100000000) (hm : -1000000 ≤ n.x.dep ∧ n.x.dep ≤ 1000000) :
    Calls Tryd.prog 30 #[encN n, .int .i64 day] w fun e w' => e = .returned (.int .i64 (utcZ n.fo n.fs (day * 1440 + n.x.dep))) ∧ Below w.heap.size w w' := by
  have hb0 := bel_alloc w (.cells (encNS n).toArray nonT)
  have HU := Lib.hid (Zon.utc_any n.fo n.fA n.fc n.fs (day * 1440 + n.x.dep) _ ok (hL.more hb0) (by omega))
  generalize utcZ n.fo n.fs (day * 1440 + n.x.dep) = r at *
  clear ok hL
  unfold encNS at *
  go_enter Tryd.func30, Tryd.ntmps30
  go_wp2_with (go_at_call 55; refine HU.out.mono ?_; rintro e w' ⟨rfl, hb'⟩)
  go_ret
  exact ⟨rfl, hb0.trans (Below.mono hb' hb0.size)⟩
set_option maxRecDepth 100000 in
set_option maxHeartbeats 2000000 in
theorem arrival_any (n : NS) (day : Int) (w : World) (ok : OkZ n.ti n.ts) (hL : ShL w n.tA n.ts) (hd : -100000000 ≤ day ∧ day ≤ 100000000) (hm : -1000000 ≤ n.x.arr ∧ n.x.arr ≤ 1000000) :
    Calls Tryd.prog 31 #[encN n, .int .i64 day] w fun e w' => e = .returned (.int .i64 (utcZ n.ti n.ts (day * 1440 + n.x.arr))) ∧ Below w.heap.size w w' := by
  have hb0 := bel_alloc w (.cells (encNS n).toArray nonT)
  have HU := Lib.hid (Zon.utc_any n.ti n.tA n.tc n.ts (day * 1440 + n.x.arr) _ ok (hL.more hb0) (by omega))
  generalize utcZ n.ti n.ts (day * 1440 + n.x.arr) = r at *
  clear ok hL
  unfold encNS at *
  go_enter Tryd.func31, Tryd.ntmps31
  go_wp2_with (go_at_call 55; refine HU.out.mono ?_; rintro e w' ⟨rfl, hb'⟩)
  go_ret
  exact ⟨rfl, hb0.trans (Below.mono hb' hb0.size)⟩

/-- the airport with a code, or the zero airport -/
def airOf (l : List Air) (s : ByteArray) : Air := (findC l s).getD airZ
/-- shifts that lie in memory of one's own, off the row v -/
def ShO (w : World) (v : Value) (A : Option Addr) (l : Shs) : Prop := ShL w A l ∧ (l = [] ∨ A = none ∨ ∃ g, A = some ⟨g, 0, none⟩ ∧ g < w.heap.size ∧ v.ownBlock ≠ some g)
/-- n is the leg x with its zones -/
structure NsOf (w : World) (v : Value) (l : List Air) (x : Lg) (n : NS) : Prop where
  ex : n.x = x
  fo : n.fo = (airOf l x.f).off
  fs : n.fs = (airOf l x.f).shs
  ti : n.ti = (airOf l x.t).off
  ts : n.ts = (airOf l x.t).shs
  shf : ShO w v n.fA n.fs
  sht : ShO w v n.tA n.ts
theorem ShO.more {w w' : World} {v : Value} {A : Option Addr} {l : Shs} (h : ShO w v A l) (hb : Below w.heap.size w w') : ShO w' v A l :=
  ⟨h.1.more hb, h.2.imp id fun h => h.imp id fun ⟨g, h1, h2, h3⟩ => ⟨g, h1, Nat.lt_of_lt_of_le h2 hb.size, h3⟩⟩
theorem NsOf.more {w w' : World} {v : Value} {l : List Air} {x : Lg} {n : NS} (h : NsOf w v l x n) (hb : Below w.heap.size w w') : NsOf w' v l x n := ⟨h.ex, h.fo, h.fs, h.ti, h.ts, h.shf.more hb, h.sht.more hb⟩
theorem ShO.chg {w w' : World} {v v' : Value} {A : Option Addr} {l : Shs} (h : ShO w v A l) (hc : Chg w w' v v') : ShO w' v' A l := by
  refine ⟨h.1.but' hc.but (h.2.imp id fun h => h.imp id fun ⟨g, h1, h2, h3⟩ => ⟨g, 0, h1, h3⟩), h.2.imp id fun h => h.imp id fun ⟨g, h1, h2, h3⟩ => ⟨g, h1, Nat.lt_of_lt_of_le h2 hc.but.size, fun e => ?_⟩⟩
  rcases hc.own g e with h4 | h4
  · exact h3 h4
  · omega
theorem NsOf.chg {w w' : World} {v v' : Value} {l : List Air} {x : Lg} {n : NS} (h : NsOf w v l x n) (hc : Chg w w' v v') : NsOf w' v' l x n := ⟨h.ex, h.fo, h.fs, h.ti, h.ts, h.shf.chg hc, h.sht.chg hc⟩

set_option maxRecDepth 100000 in
set_option maxHeartbeats 8000000 in
theorem nonstops_any (p : PV) (A : Option Addr) (c : Nat) (lg : List Lg) (w : World) (hl : p.l.length ≤ 40) (hL : AirL w p.A p.l) (hs : ∀ a ∈ p.l, a.shs.length ≤ 300) (hG : LegL w (.slice A lg.length c) lg) (hn : lg.length ≤ 100) :
    Calls Tryd.prog 29 #[encP p, .slice A lg.length c] w fun e w' => ∃ v' L, e = .returned v' ∧ ROwn nonT 9 encNS w.heap.size w' v' L ∧ L.length = lg.length ∧ (∀ (k : Nat) (x : Lg) (n : NS), lg[k]? = some x → L[k]? = some n → NsOf w' v' p.l x n) ∧ Below w.heap.size w w' := by
  have hb0 := bel_alloc w (.cells #[.slice p.A p.l.length p.ca, .slice p.D p.ds.length p.cd] placesT)
  have q0 := (cells_new w #[.slice p.A p.l.length p.ca, .slice p.D p.ds.length p.cd] placesT 0).trans (show _ = some (.slice p.A p.l.length p.ca) from rfl)
  have q1 := (cells_new w #[.slice p.A p.l.length p.ca, .slice p.D p.ds.length p.cd] placesT 1).trans (show _ = some (.slice p.D p.ds.length p.cd) from rfl)
  have hL5 := hL.more hb0
  have hG5 := hG.more hb0
  go_enter Tryd.func29, Tryd.ntmps29
  go_wp2
  generalize hw5 : w.alloc (.cells #[.slice p.A p.l.length p.ca, .slice p.D p.ds.length p.cd] placesT) = w5 at *
  clear hw5
  have y0 := bel_get q0
  have y1 := bel_get q1
  have KF : Hid (∀ s W, SW w5 W → Calls Tryd.prog 43 #[.agg #[.slice p.A p.l.length p.ca, .slice p.D p.ds.length p.cd], .string s] W fun e w' => Below W.heap.size W w' ∧ FindF W.heap.size (airOf p.l s) (findC p.l s).isSome e w') := Lib.hid (fun s W hW => find2_any p s W hl (hL5.more hW) hs)
  have HN : Hid (ROwn nonT 9 encNS w5.heap.size w5 (.slice none 0 0) []) := Lib.hid (ROwn.nil (Nat.le_refl _))
  clear hL hL5 hs
  go_loopg [5, 14] lg.length (fun kx v5 vi wr => ∃ (v : Value) (k : Nat) (L : List NS), v = v5 ∧ vi = .int .i64 k ∧ k + kx = lg.length ∧ Hid (ROwn nonT 9 encNS w5.heap.size wr v L ∧ L.length = k ∧ (∀ (k : Nat) (x : Lg) (n : NS), lg[k]? = some x → L[k]? = some n → NsOf wr v p.l x n) ∧ SW w5 wr))
  case atStart => exact ⟨_, 0, [], rfl, rfl, by omega, Lib.hid ⟨HN.out, rfl, fun k x n _ h => by simp at h, Below.refl _ _⟩⟩
  case round =>
    obtain ⟨v, k, L, rfl, rfl, hkx, HH⟩ := hrel
    clear HN
    have HKX := Lib.hid hkx
    have hSr : SW w5 wr := HH.out.2.2.2
    by_cases hlt : k < lg.length
    · clear hkx
      obtain ⟨b, o, x, rfl, hbl, hx, c0, c1, c2, c3, c4⟩ := LegL.get (hG5.more hSr) hlt
      have HX := Lib.hid hx
      have i2 : (k : Int) < (lg.length : Int) := by omega
      have hbx := bel_alloc wr (.cells #[.string x.f, .string x.t, .int .i64 x.dep, .int .i64 x.arr, .string x.eq] legT)
      have hSx : SW w5 (wr.alloc (.cells #[.string x.f, .string x.t, .int .i64 x.dep, .int .i64 x.arr, .string x.eq] legT)) := Below.alloc hSr hSr.size _
      have l0 := (cells_new wr #[.string x.f, .string x.t, .int .i64 x.dep, .int .i64 x.arr, .string x.eq] legT 0).trans (show _ = some (.string x.f) from rfl)
      have l1 := (cells_new wr #[.string x.f, .string x.t, .int .i64 x.dep, .int .i64 x.arr, .string x.eq] legT 1).trans (show _ = some (.string x.t) from rfl)
      have l2 := (cells_new wr #[.string x.f, .string x.t, .int .i64 x.dep, .int .i64 x.arr, .string x.eq] legT 2).trans (show _ = some (.int .i64 x.dep) from rfl)
      have l3 := (cells_new wr #[.string x.f, .string x.t, .int .i64 x.dep, .int .i64 x.arr, .string x.eq] legT 3).trans (show _ = some (.int .i64 x.arr) from rfl)
      have l4 := (cells_new wr #[.string x.f, .string x.t, .int .i64 x.dep, .int .i64 x.arr, .string x.eq] legT 4).trans (show _ = some (.string x.eq) from rfl)
      have z0 := y0 _ hSx
      have z1 := y1 _ hSx
      have HLn : Hid (L.length ≤ 100000000) := Lib.hid (by have := HH.out.2.1; omega)
      clear hx
      obtain ⟨N, hN⟩ : ∃ N, N = wr.heap.size := ⟨_, rfl⟩
      obtain ⟨a1, ha1⟩ : ∃ a1, a1 = airOf p.l x.f := ⟨_, rfl⟩
      obtain ⟨a2, ha2⟩ : ∃ a2, a2 = airOf p.l x.t := ⟨_, rfl⟩
      have K1 := KF.out x.f _ hSx
      have K2 := KF.out x.t
      rw [← ha1] at K1
      rw [← ha2] at K2
      have K2 := Lib.hid K2
      have HA1 := Lib.hid ha1
      have HA2 := Lib.hid ha2
      have hSz := hbx.size
      clear ha1 ha2
      go_upto_region 7 with (first
        | (go_at_call 43; refine (K2.out _ hS2).mono ?_; rintro e w3 ⟨hb3, A2, c2', rfl, hs2, hf2⟩)
        | (go_at_call 43; refine K1.mono ?_; rintro e w1 ⟨hb1, A1, c1', rfl, hs1, hf1⟩; have hS1 : SW w5 w1 := Below.trans hSx (Below.mono hb1 hSx.size); have hS2 : SW w5 (w1.alloc (.cells #[.string a1.code, .string a1.city, .string a1.land, .int .i64 a1.off, .slice A1 a1.shs.length c1'] airT)) := Below.alloc hS1 hS1.size _; have z0 := y0 _ hS2; have z1 := y1 _ hS2; have hb12 : Below wr.heap.size wr (w1.alloc (.cells #[.string a1.code, .string a1.city, .string a1.land, .int .i64 a1.off, .slice A1 a1.shs.length c1'] airT)) := (hbx.trans (Below.mono hb1 hbx.size)).alloc (Nat.le_trans hbx.size hb1.size) _; have r0 := bel_cell (bel_alloc w1 (.cells #[.string a1.code, .string a1.city, .string a1.land, .int .i64 a1.off, .slice A1 a1.shs.length c1'] airT)) (bel_cell hb1 l0); have r1 := bel_cell (bel_alloc w1 (.cells #[.string a1.code, .string a1.city, .string a1.land, .int .i64 a1.off, .slice A1 a1.shs.length c1'] airT)) (bel_cell hb1 l1)))
      have bx1 := bel_alloc w1 (.cells #[.string a1.code, .string a1.city, .string a1.land, .int .i64 a1.off, .slice A1 a1.shs.length c1'] airT)
      have bx3 := bel_alloc w3 (.cells #[.string a2.code, .string a2.city, .string a2.land, .int .i64 a2.off, .slice A2 a2.shs.length c2'] airT)
      have l0 := bel_cell bx3 (bel_cell hb3 (bel_cell bx1 (bel_cell hb1 l0)))
      have l1 := bel_cell bx3 (bel_cell hb3 (bel_cell bx1 (bel_cell hb1 l1)))
      have l2 := bel_cell bx3 (bel_cell hb3 (bel_cell bx1 (bel_cell hb1 l2)))
      have l3 := bel_cell bx3 (bel_cell hb3 (bel_cell bx1 (bel_cell hb1 l3)))
      have l4 := bel_cell bx3 (bel_cell hb3 (bel_cell bx1 (bel_cell hb1 l4)))
      have m3 := bel_cell bx3 (bel_cell hb3 ((cells_new w1 #[.string a1.code, .string a1.city, .string a1.land, .int .i64 a1.off, .slice A1 a1.shs.length c1'] airT 3).trans (show _ = some (.int .i64 a1.off) from rfl)))
      have m4 := bel_cell bx3 (bel_cell hb3 ((cells_new w1 #[.string a1.code, .string a1.city, .string a1.land, .int .i64 a1.off, .slice A1 a1.shs.length c1'] airT 4).trans (show _ = some (.slice A1 a1.shs.length c1') from rfl)))
      have n3 := (cells_new w3 #[.string a2.code, .string a2.city, .string a2.land, .int .i64 a2.off, .slice A2 a2.shs.length c2'] airT 3).trans (show _ = some (.int .i64 a2.off) from rfl)
      have n4 := (cells_new w3 #[.string a2.code, .string a2.city, .string a2.land, .int .i64 a2.off, .slice A2 a2.shs.length c2'] airT 4).trans (show _ = some (.slice A2 a2.shs.length c2') from rfl)
      have hb13 : Below wr.heap.size wr w3 := hb12.trans (Below.mono hb3 hb12.size)
      have hb14 : Below wr.heap.size wr (w3.alloc (.cells #[.string a2.code, .string a2.city, .string a2.land, .int .i64 a2.off, .slice A2 a2.shs.length c2'] airT)) := hb13.alloc hb13.size _
      have hs1' := ((hs1.more bx1).more hb3).more bx3
      have hs2' := hs2.more bx3
      have hSq : SW w5 (w3.alloc (.cells #[.string a2.code, .string a2.city, .string a2.land, .int .i64 a2.off, .slice A2 a2.shs.length c2'] airT)) := Below.trans hSr (hb14.mono hSr.size)
      have hO := HH.out.1.more hb14
      have HNs := Lib.hid (fun (k' : Nat) (x' : Lg) (n' : NS) h1 h2 => (HH.out.2.2.1 k' x' n' h1 h2).more hb14)
      generalize hw4 : w3.alloc (.cells #[.string a2.code, .string a2.city, .string a2.land, .int .i64 a2.off, .slice A2 a2.shs.length c2'] airT) = w4 at *
      have hfr : ∀ (A' : Option Addr) (l' : Shs), ShL w4 A' l' → (A' = none ∨ ∃ g, A' = some ⟨g, 0, none⟩ ∧ wr.heap.size ≤ g) → ShO w4 v A' l' := fun A' l' h1 h2 => ⟨h1, by
        rcases h1 with h | ⟨b', o', e1, e2, _⟩
        · exact .inl h
        · rcases h2 with h2 | ⟨g, h2, h4⟩
          · exact .inr (.inl h2)
          · refine .inr (.inr ⟨g, h2, ?_, fun e => ?_⟩)
            · rw [h2] at e1; cases e1; exact e2
            · have := (HH.out.1.low e).2; omega⟩
      have HS1 := Lib.hid (hfr A1 a1.shs hs1' (by
        rcases hf1 with h | ⟨g, h, hg⟩
        · exact .inl h
        · exact .inr ⟨g, h, by rw [World.size_alloc] at hg; omega⟩))
      have HS2 := Lib.hid (hfr A2 a2.shs hs2' (by
        rcases hf2 with h | ⟨g, h, hg⟩
        · exact .inl h
        · exact .inr ⟨g, h, by have := hb12.size; omega⟩))
      have HLk := Lib.hid HH.out.2.1
      clear hfr hs1' hs2' hs1 hs2 hf1 hf2 hb3 hb1 bx1 bx3 hb13 HH hw4 K1 K2 hS1 hS2 hb12
      go_wp2_with (at_builtin; refine wpList_rapp rtN rfl _ _ rfl hO rfl (bel_alloc _ _) _ (⟨x, a1.off, A1, c1', a1.shs, a2.off, A2, c2', a2.shs⟩ : NS) _ rfl (cs := #[.string x.f, .string x.t, .int .i64 x.dep, .int .i64 x.arr, .string x.eq, .int .i64 a1.off, .slice A1 a1.shs.length c1', .int .i64 a2.off, .slice A2 a2.shs.length c2']) rfl (heap_alloc_new _ _) HLn.out ?_; intro v' w' hO' hC')
      have HZ : Hid (ROwn nonT 9 encNS w5.heap.size w' v' (L ++ [(⟨x, a1.off, A1, c1', a1.shs, a2.off, A2, c2', a2.shs⟩ : NS)]) ∧ (L ++ [(⟨x, a1.off, A1, c1', a1.shs, a2.off, A2, c2', a2.shs⟩ : NS)]).length = k + 1 ∧ (∀ (k' : Nat) (x' : Lg) (n' : NS), lg[k']? = some x' → (L ++ [(⟨x, a1.off, A1, c1', a1.shs, a2.off, A2, c2', a2.shs⟩ : NS)])[k']? = some n' → NsOf w' v' p.l x' n') ∧ SW w5 w') := Lib.hid ⟨hO', by rw [List.length_append, HLk.out]; rfl, fun k' x' n' h1 h2 => by
        by_cases hk' : k' < L.length
        · rw [List.getElem?_append_left hk'] at h2
          exact (HNs.out k' x' n' h1 h2).chg hC'
        · have hke : k' = k := by
            have := (List.getElem?_eq_some_iff.1 h2).1
            rw [List.length_append] at this
            have := HLk.out
            simp at *
            omega
          subst hke
          rw [List.getElem?_append_right (by omega), HLk.out, Nat.sub_self] at h2
          rw [HX.out] at h1
          cases h1
          cases h2
          exact (⟨rfl, by rw [← HA1.out], by rw [← HA1.out], by rw [← HA2.out], by rw [← HA2.out], HS1.out, HS2.out⟩ : NsOf w4 v p.l x _).chg hC', Below.trans hSq ((hC'.below hO).mono (Nat.le_refl _))⟩
      clear hO' hC' hO
      go_roundg (lg.length - (k + 1))
      case measure => have := HKX.out; omega
      case rel => exact ⟨_, k + 1, _, rfl, by go_num, by omega, HZ⟩
    · have hk : k = lg.length := by omega
      have HZ : Hid (ROwn nonT 9 encNS w.heap.size wr v L ∧ L.length = lg.length ∧ (∀ (k : Nat) (x : Lg) (n : NS), lg[k]? = some x → L[k]? = some n → NsOf wr v p.l x n) ∧ Below w.heap.size w wr) := Lib.hid ⟨⟨HH.out.1.own.mono hb0.size, Nat.le_trans hb0.size hSr.size⟩, by rw [HH.out.2.1, hk], HH.out.2.2.1, hb0.trans (Below.mono hSr hb0.size)⟩
      clear HH hkx hk
      go_wp2
      go_ret
      exact ⟨v, L, rfl, HZ.out⟩

end Go.Proofs.YtfgmlbmjjihhfaaDoor

/- Walk of isOrdered. -/
namespace Go.Proofs.YtfgmlbmjjihhfaaDoor
open Go.RowKit Go.Shelf
set_option linter.unusedSimpArgs false
set_option linter.unusedVariables false

/-- departures and arrivals in their order -/
def ordT : Bool → Int → List (Int × Int) → Bool
  | _, _, [] => true
  | first, before, (d, a) :: r => if a ≤ d then false else if first = false ∧ d < before then false else ordT false a r
def depL (l : List Air) (x : Lg) (day : Int) : Int := utcZ (airOf l x.f).off (airOf l x.f).shs (day * 1440 + x.dep)
def arrL (l : List Air) (x : Lg) (day : Int) : Int := utcZ (airOf l x.t).off (airOf l x.t).shs (day * 1440 + x.arr)
def timL (l : List Air) (lg : List Lg) (day : Int) : List (Int × Int) := lg.map fun x => (depL l x day, arrL l x day)
theorem okZ_zero : OkZ 0 [] := ⟨by simp, by omega, fun k h => by simp at h, fun k h => by simp at h, fun k h => by simp at h⟩
theorem okZ_of {l : List Air} (h : ∀ a ∈ l, OkZ a.off a.shs) (s : ByteArray) : OkZ (airOf l s).off (airOf l s).shs := by
  unfold airOf
  cases hc : findC l s with
  | none => exact okZ_zero
  | some a => exact h a (List.mem_of_find?_eq_some hc)
theorem ordT_step {l : List Air} {lg : List Lg} {day : Int} {k : Nat} {x : Lg} (h : lg[k]? = some x) (first : Bool) (before : Int) :
    ordT first before ((timL l lg day).drop k) = if arrL l x day ≤ depL l x day then false else if first = false ∧ depL l x day < before then false else ordT false (arrL l x day) ((timL l lg day).drop (k + 1)) := by
  obtain ⟨hlt, rfl⟩ := List.getElem?_eq_some_iff.1 h
  unfold timL
  have hl : k < (lg.map fun x => (depL l x day, arrL l x day)).length := by rw [List.length_map]; exact hlt
  rw [List.drop_eq_getElem_cons hl, List.getElem_map]
  rfl
theorem RowL.get9 {w : World} {A : Option Addr} {n c : Nat} {L : List NS} (h : RowL 9 encNS w (.slice A n c) L) {k : Nat} (hk : k < L.length) : ∃ b o y, A = some ⟨b, o, none⟩ ∧ b < w.heap.size ∧ L[k]? = some y ∧ ∀ j u, (encNS y)[j]? = some u → w.cell? ⟨b, o + k * 9 + j, none⟩ = some u := by
  obtain ⟨b, o, h1, h2, h3⟩ := h.at rfl hk
  exact ⟨b, o, L[k], h1, h2, List.getElem?_eq_getElem hk, h3⟩

set_option maxRecDepth 100000 in
set_option maxHeartbeats 8000000 in
theorem isOrdered_any (v : Value) (l : List Air) (lg : List Lg) (L : List NS) (day : Int) (w : World) (hv : RowL 9 encNS w v L) (hLL : L.length = lg.length) (hN : ∀ (k : Nat) (x : Lg) (n : NS), lg[k]? = some x → L[k]? = some n → NsOf w v l x n) (hz : ∀ a ∈ l, OkZ a.off a.shs)
    (hlen : lg.length ≤ 100) (hd : -100000000 ≤ day ∧ day ≤ 100000000) (hm : ∀ x ∈ lg, (-1000000 ≤ x.dep ∧ x.dep ≤ 1000000) ∧ -1000000 ≤ x.arr ∧ x.arr ≤ 1000000) :
    Calls Tryd.prog 47 #[v, .int .i64 day] w fun e w' => e = .returned (.bool (ordT true 0 (timL l lg day))) ∧ Below w.heap.size w w' := by
  obtain ⟨A, c, rfl, hvc⟩ := id hv
  have HN := Lib.hid hN
  have HZ := Lib.hid hz
  have HM := Lib.hid hm
  clear hN hz hm hvc
  have HLL := Lib.hid hLL
  rw [hLL]
  have HV := Lib.hid hv
  clear hv hLL
  go_enter Tryd.func47, Tryd.ntmps47
  go_wp2
  go_loopg [5, 12] lg.length (fun kx v5 vi wr => ∃ (k : Nat) (before : Int), v5 = .int .i64 before ∧ vi = .int .i64 k ∧ k + kx = lg.length ∧ Hid (ordT true 0 (timL l lg day) = ordT (decide (k = 0)) before ((timL l lg day).drop k)) ∧ SW w wr)
  case atStart => exact ⟨0, 0, rfl, rfl, by omega, Lib.hid rfl, Below.refl _ _⟩
  case round =>
    obtain ⟨k, before, rfl, rfl, hkx, HO, hS⟩ := hrel
    have HKX := Lib.hid hkx
    by_cases hlt : k < lg.length
    · clear hkx
      obtain ⟨x, hx⟩ : ∃ x, lg[k]? = some x := ⟨_, List.getElem?_eq_getElem hlt⟩
      obtain ⟨b, o, n, rfl, hbl, hn, hc⟩ := RowL.get9 (HV.out.more hS) (show k < L.length by have := HLL.out; omega)
      have hns := HN.out k x n hx hn
      have HST := Lib.hid (HO.out.trans (ordT_step hx _ _))
      have hzf := okZ_of HZ.out x.f
      have hzt := okZ_of HZ.out x.t
      have hmx := HM.out x (List.mem_of_getElem? hx)
      have hdl : depL l x day = utcZ n.fo n.fs (day * 1440 + n.x.dep) := by unfold depL; rw [hns.fo, hns.fs, hns.ex]
      have hal : arrL l x day = utcZ n.ti n.ts (day * 1440 + n.x.arr) := by unfold arrL; rw [hns.ti, hns.ts, hns.ex]
      rw [hdl, hal] at HST
      have i2 : (k : Int) < (lg.length : Int) := by omega
      have c0 := hc 0 _ rfl
      have c1 := hc 1 _ rfl
      have c2 := hc 2 _ rfl
      have c3 := hc 3 _ rfl
      have c4 := hc 4 _ rfl
      have c5 := hc 5 _ rfl
      have c6 := hc 6 _ rfl
      have c7 := hc 7 _ rfl
      have c8 := hc 8 _ rfl
      rw [Nat.add_zero] at c0
      have hbx := bel_alloc wr (.cells (encNS n).toArray nonT)
      have hSx : SW w (wr.alloc (.cells (encNS n).toArray nonT)) := Below.alloc hS hS.size _
      have K1 : Hid (∀ W, SW (wr.alloc (.cells (encNS n).toArray nonT)) W → Calls Tryd.prog 30 #[encN n, .int .i64 day] W fun e w' => e = .returned (.int .i64 (utcZ n.fo n.fs (day * 1440 + n.x.dep))) ∧ SW (wr.alloc (.cells (encNS n).toArray nonT)) w') :=
        Lib.hid (SW.call (fun W hW => departure_any n day W (by rw [hns.fo, hns.fs]; exact hzf) (hns.shf.1.more (Below.trans hSx (Below.mono hW hSx.size))) hd (by rw [hns.ex]; exact hmx.1)))
      have K2 : Hid (∀ W, SW (wr.alloc (.cells (encNS n).toArray nonT)) W → Calls Tryd.prog 31 #[encN n, .int .i64 day] W fun e w' => e = .returned (.int .i64 (utcZ n.ti n.ts (day * 1440 + n.x.arr))) ∧ SW (wr.alloc (.cells (encNS n).toArray nonT)) w') :=
        Lib.hid (SW.call (fun W hW => arrival_any n day W (by rw [hns.ti, hns.ts]; exact hzt) (hns.sht.1.more (Below.trans hSx (Below.mono hW hSx.size))) hd (by rw [hns.ex]; exact hmx.2)))
      have f0 := SW.cell ((cells_new wr (encNS n).toArray nonT 0).trans (show _ = some (.string n.x.f) from rfl))
      have f1 := SW.cell ((cells_new wr (encNS n).toArray nonT 1).trans (show _ = some (.string n.x.t) from rfl))
      have f2 := SW.cell ((cells_new wr (encNS n).toArray nonT 2).trans (show _ = some (.int .i64 n.x.dep) from rfl))
      have f3 := SW.cell ((cells_new wr (encNS n).toArray nonT 3).trans (show _ = some (.int .i64 n.x.arr) from rfl))
      have f4 := SW.cell ((cells_new wr (encNS n).toArray nonT 4).trans (show _ = some (.string n.x.eq) from rfl))
      have f5 := SW.cell ((cells_new wr (encNS n).toArray nonT 5).trans (show _ = some (.int .i64 n.fo) from rfl))
      have f6 := SW.cell ((cells_new wr (encNS n).toArray nonT 6).trans (show _ = some (.slice n.fA n.fs.length n.fc) from rfl))
      have f7 := SW.cell ((cells_new wr (encNS n).toArray nonT 7).trans (show _ = some (.int .i64 n.ti) from rfl))
      have f8 := SW.cell ((cells_new wr (encNS n).toArray nonT 8).trans (show _ = some (.slice n.tA n.ts.length n.tc) from rfl))
      clear hns hx hn hc hdl hal hzf hzt hmx
      generalize utcZ n.fo n.fs (day * 1440 + n.x.dep) = dd at *
      generalize utcZ n.ti n.ts (day * 1440 + n.x.arr) = aa at *
      unfold encNS at *
      go_wp2
      have hNe : Nonempty (Wd (SW (wr.alloc (.cells [.string n.x.f, .string n.x.t, .int .i64 n.x.dep, .int .i64 n.x.arr, .string n.x.eq, .int .i64 n.fo, .slice n.fA n.fs.length n.fc, .int .i64 n.ti, .slice n.tA n.ts.length n.tc].toArray nonT)))) := ⟨⟨_, SW.drew _⟩⟩
      refine quietS (S := SW (wr.alloc (.cells [.string n.x.f, .string n.x.t, .int .i64 n.x.dep, .int .i64 n.x.arr, .string n.x.eq, .int .i64 n.fo, .slice n.fA n.fs.length n.fc, .int .i64 n.ti, .slice n.tA n.ts.length n.tc].toArray nonT))) (by kernel_rfl) (by kernel_rfl) (SW.drew _) ?_
      repeat (first | go_big_quiet_skip | (go_big_quiet_want; go_big_quiet_op; first | go_big_quiet_on | go_big_quiet_call ((first | (go_at_call 30; (with_reducible exact quiet_S (K1.out _ (Wd.ok _)))) | (go_at_call 31; (with_reducible exact quiet_S (K2.out _ (Wd.ok _))))))))
      refine wpQuiet_nil ?_
      rintro W ⟨⟨_, hW⟩, rfl⟩
      have hSw : SW w W := Below.trans hSx (Below.mono hW hSx.size)
      by_cases h1 : aa ≤ dd
      · have HR := Lib.hid (HST.out.trans (if_pos h1))
        go_wp2
        go_ret
        exact ⟨ret_bool HR.out.symm, hSw⟩
      · have HS2 := Lib.hid (HST.out.trans (if_neg h1))
        have hna : ¬ aa ≤ dd := h1
        by_cases h0 : k = 0
        · have HR : Hid (ordT true 0 (timL l lg day) = ordT (decide (k + 1 = 0)) aa ((timL l lg day).drop (k + 1))) := Lib.hid (by
            rw [HS2.out, if_neg (by simp [h0])]
            rw [show decide (k + 1 = 0) = false by simp])
          subst h0
          clear HS2 HST h1
          go_wp2
          go_roundg (lg.length - (0 + 1))
          case measure => have := HKX.out; omega
          case rel => exact ⟨0 + 1, aa, rfl, by go_num, by omega, HR, hSw⟩
        · have i3 : (0 : Int) < (k : Int) := by omega
          have i4 : 0 < k := by omega
          by_cases h2 : dd < before
          · have HR := Lib.hid (HS2.out.trans (if_pos ⟨by simp [h0], h2⟩))
            clear HS2 HST h1 h0
            go_wp2
            go_ret
            exact ⟨ret_bool HR.out.symm, hSw⟩
          · have HR : Hid (ordT true 0 (timL l lg day) = ordT (decide (k + 1 = 0)) aa ((timL l lg day).drop (k + 1))) := Lib.hid (by
              rw [HS2.out, if_neg (fun h => h2 h.2)]
              rw [show decide (k + 1 = 0) = false by simp])
            clear HS2 HST h1 h0
            go_wp2
            go_roundg (lg.length - (k + 1))
            case measure => have := HKX.out; omega
            case rel => exact ⟨k + 1, aa, rfl, by go_num, by omega, HR, hSw⟩
    · have HR : Hid (ordT true 0 (timL l lg day) = true) := Lib.hid (by
        rw [HO.out, List.drop_of_length_le (by unfold timL; rw [List.length_map]; omega)]
        rfl)
      go_wp2
      go_ret
      exact ⟨ret_bool HR.out.symm, hS⟩

end Go.Proofs.YtfgmlbmjjihhfaaDoor

/- Walks of the comparisons of legs and of flights: slices.Equal, SameLegs. -/
namespace Go.Proofs.YtfgmlbmjjihhfaaDoor
open Go.RowKit Go.Shelf
set_option linter.unusedSimpArgs false
set_option linter.unusedVariables false

def eqLg (x y : Lg) : Bool := (x.f.toList == y.f.toList) && ((x.t.toList == y.t.toList) && (decide (x.dep = y.dep) && (decide (x.arr = y.arr) && (x.eq.toList == y.eq.toList))))
def sameL : List Lg → List Lg → Bool
  | [], [] => true
  | x :: l, y :: m => eqLg x y && sameL l m
  | _, _ => false
theorem sameL_len : ∀ (l m : List Lg), l.length ≠ m.length → sameL l m = false
  | [], [], h => absurd rfl h
  | [], _ :: _, _ => rfl
  | _ :: _, [], _ => rfl
  | x :: l, y :: m, h => by simp only [sameL]; rw [sameL_len l m (by simpa using h), Bool.and_false]
theorem eqLg_refl (x : Lg) : eqLg x x = true := by simp [eqLg]
theorem sameL_refl : ∀ l : List Lg, sameL l l = true
  | [] => rfl
  | x :: l => by simp only [sameL]; rw [eqLg_refl, sameL_refl l]; rfl
theorem sameL_drop (l m : List Lg) {k : Nat} {x y : Lg} (hx : l[k]? = some x) (hy : m[k]? = some y) : sameL (l.drop k) (m.drop k) = (eqLg x y && sameL (l.drop (k + 1)) (m.drop (k + 1))) := by
  obtain ⟨hk, e⟩ := List.getElem?_eq_some_iff.1 hx
  obtain ⟨hk', e'⟩ := List.getElem?_eq_some_iff.1 hy
  rw [List.drop_eq_getElem_cons hk, List.drop_eq_getElem_cons hk', e, e']
  rfl

set_option maxRecDepth 100000 in
set_option maxHeartbeats 4000000 in
theorem sameLegs_any (u v : Value) (l m : List Lg) (w : World) (hu : LegL w u l) (hv : LegL w v m) (hl : l.length ≤ 1000) (hm : m.length ≤ 1000) :
    Calls Tryd.prog 33 #[u, v] w fun e w' => e = .returned (.bool (sameL l m)) ∧ Below w.heap.size w w' := by
  obtain ⟨A, c, rfl, hA⟩ := hu
  obtain ⟨A', c', rfl, hA'⟩ := hv
  have hL : LegL w (.slice A l.length c) l := ⟨A, c, rfl, hA⟩
  have hL' : LegL w (.slice A' m.length c') m := ⟨A', c', rfl, hA'⟩
  clear hA hA'
  by_cases hlen : l.length = m.length
  · have HM : Hid (l.length = m.length) := Lib.hid hlen
    have hq : ((l.length : Int) != (m.length : Int)) = false := by rw [hlen]; simp
    clear hlen
    go_enter Tryd.func33, Tryd.ntmps33
    go_wp2
    go_loopw [5] (fun vi wr => ∃ k : Nat, k ≤ l.length ∧ vi = .int .i64 k ∧ Hid (sameL l m = sameL (l.drop k) (m.drop k)) ∧ SW w wr) (fun vi _ => l.length - (intOf vi).toNat)
    case atStart => exact ⟨0, Nat.zero_le _, rfl, Lib.hid rfl, Below.refl _ _⟩
    case round =>
      obtain ⟨k, hk, rfl, HK, hS⟩ := hrel
      by_cases hlt : k < l.length
      · obtain ⟨b, o, x, rfl, _, hx, c0, c1, c2, c3, c4⟩ := LegL.get (hL.more hS) hlt
        obtain ⟨b', o', y, rfl, _, hy, d0, d1, d2, d3, d4⟩ := LegL.get (hL'.more hS) (show k < m.length by have := HM.out; omega)
        have i2 : (k : Int) < (l.length : Int) := by omega
        have i3 : (k : Int) < (m.length : Int) := by have := HM.out; omega
        have HK2 := Lib.hid (HK.out.trans (sameL_drop l m hx hy))
        have f0 := SW.cell c0
        have f1 := SW.cell c1
        have f2 := SW.cell c2
        have f3 := SW.cell c3
        have f4 := SW.cell c4
        have g0 := SW.cell d0
        have g1 := SW.cell d1
        have g2 := SW.cell d2
        have g3 := SW.cell d3
        have g4 := SW.cell d4
        clear hx hy c0 c1 c2 c3 c4 d0 d1 d2 d3 d4 HK
        cases h1 : x.f.toList == y.f.toList
        · skip
          have HR : Hid (sameL l m = false) := Lib.hid (by rw [HK2.out]; unfold eqLg; simp [h1])
          clear HK2
          go_wp2
          have hNe : Nonempty (Wd (SW wr)) := ⟨⟨_, SW.drew _⟩⟩
          refine quietS (S := SW wr) (by kernel_rfl) (by kernel_rfl) (SW.drew _) ?_
          repeat (first | go_big_quiet_skip | (go_big_quiet_want; go_big_quiet_op; first | go_big_quiet_on | go_big_quiet_call ((fail))))
          refine wpQuiet_nil ?_
          rintro W ⟨⟨_, hW⟩, rfl⟩
          go_wp2
          go_ret
          exact ⟨ret_bool HR.out.symm, Below.trans hS (Below.mono hW hS.size)⟩
        · skip
          cases h2 : x.t.toList == y.t.toList
          · skip
            have HR : Hid (sameL l m = false) := Lib.hid (by rw [HK2.out]; unfold eqLg; simp [h1, h2])
            clear HK2
            go_wp2
            have hNe : Nonempty (Wd (SW wr)) := ⟨⟨_, SW.drew _⟩⟩
            refine quietS (S := SW wr) (by kernel_rfl) (by kernel_rfl) (SW.drew _) ?_
            repeat (first | go_big_quiet_skip | (go_big_quiet_want; go_big_quiet_op; first | go_big_quiet_on | go_big_quiet_call ((fail))))
            refine wpQuiet_nil ?_
            rintro W ⟨⟨_, hW⟩, rfl⟩
            go_wp2
            go_ret
            exact ⟨ret_bool HR.out.symm, Below.trans hS (Below.mono hW hS.size)⟩
          · skip
            by_cases h3 : x.dep = y.dep
            · have h3b : (x.dep == y.dep) = true := beq_iff_eq.2 h3
              by_cases h4 : x.arr = y.arr
              · have h4b : (x.arr == y.arr) = true := beq_iff_eq.2 h4
                cases h5 : x.eq.toList == y.eq.toList
                · skip
                  have HR : Hid (sameL l m = false) := Lib.hid (by rw [HK2.out]; unfold eqLg; simp [h1, h2, h3, h4, h5])
                  clear HK2
                  go_wp2
                  have hNe : Nonempty (Wd (SW wr)) := ⟨⟨_, SW.drew _⟩⟩
                  refine quietS (S := SW wr) (by kernel_rfl) (by kernel_rfl) (SW.drew _) ?_
                  repeat (first | go_big_quiet_skip | (go_big_quiet_want; go_big_quiet_op; first | go_big_quiet_on | go_big_quiet_call ((fail))))
                  refine wpQuiet_nil ?_
                  rintro W ⟨⟨_, hW⟩, rfl⟩
                  go_wp2
                  go_ret
                  exact ⟨ret_bool HR.out.symm, Below.trans hS (Below.mono hW hS.size)⟩
                · skip
                  have HR : Hid (sameL l m = sameL (l.drop (k + 1)) (m.drop (k + 1))) := Lib.hid (by rw [HK2.out, show eqLg x y = true by unfold eqLg; simp [h1, h2, h3, h4, h5], Bool.true_and])
                  clear HK2
                  go_wp2
                  have hNe : Nonempty (Wd (SW wr)) := ⟨⟨_, SW.drew _⟩⟩
                  refine quietS (S := SW wr) (by kernel_rfl) (by kernel_rfl) (SW.drew _) ?_
                  repeat (first | go_big_quiet_skip | (go_big_quiet_want; go_big_quiet_op; first | go_big_quiet_on | go_big_quiet_call ((fail))))
                  refine wpQuiet_nil ?_
                  rintro W ⟨⟨_, hW⟩, rfl⟩
                  go_wp2
                  go_roundw
                  case rel => exact ⟨k + 1, by omega, by go_num, HR, Below.trans hS (Below.mono hW hS.size)⟩
                  case measure => simp [intOf]; omega
              · have h4b : (x.arr == y.arr) = false := beq_eq_false_iff_ne.2 h4
                have HR : Hid (sameL l m = false) := Lib.hid (by rw [HK2.out]; unfold eqLg; simp [h1, h2, h3, h4])
                clear HK2
                go_wp2
                have hNe : Nonempty (Wd (SW wr)) := ⟨⟨_, SW.drew _⟩⟩
                refine quietS (S := SW wr) (by kernel_rfl) (by kernel_rfl) (SW.drew _) ?_
                repeat (first | go_big_quiet_skip | (go_big_quiet_want; go_big_quiet_op; first | go_big_quiet_on | go_big_quiet_call ((fail))))
                refine wpQuiet_nil ?_
                rintro W ⟨⟨_, hW⟩, rfl⟩
                go_wp2
                go_ret
                exact ⟨ret_bool HR.out.symm, Below.trans hS (Below.mono hW hS.size)⟩
            · have h3b : (x.dep == y.dep) = false := beq_eq_false_iff_ne.2 h3
              have HR : Hid (sameL l m = false) := Lib.hid (by rw [HK2.out]; unfold eqLg; simp [h1, h2, h3])
              clear HK2
              go_wp2
              have hNe : Nonempty (Wd (SW wr)) := ⟨⟨_, SW.drew _⟩⟩
              refine quietS (S := SW wr) (by kernel_rfl) (by kernel_rfl) (SW.drew _) ?_
              repeat (first | go_big_quiet_skip | (go_big_quiet_want; go_big_quiet_op; first | go_big_quiet_on | go_big_quiet_call ((fail))))
              refine wpQuiet_nil ?_
              rintro W ⟨⟨_, hW⟩, rfl⟩
              go_wp2
              go_ret
              exact ⟨ret_bool HR.out.symm, Below.trans hS (Below.mono hW hS.size)⟩
      · have HR : Hid (sameL l m = true) := Lib.hid (by
          rw [HK.out, List.drop_of_length_le (by omega), List.drop_of_length_le (by have := HM.out; omega)]
          rfl)
        go_wp2
        go_ret
        exact ⟨ret_bool HR.out.symm, hS⟩
  · have HR : Hid (sameL l m = false) := Lib.hid (sameL_len l m hlen)
    have hq : ((l.length : Int) != (m.length : Int)) = true := by simp; omega
    clear hlen
    go_enter Tryd.func33, Tryd.ntmps33
    go_wp2
    go_ret
    exact ⟨ret_bool HR.out.symm, Below.refl _ _⟩

set_option maxRecDepth 100000 in
set_option maxHeartbeats 4000000 in
theorem equalL_any (u v : Value) (l m : List Lg) (w : World) (hu : LegL w u l) (hv : LegL w v m) (hl : l.length ≤ 1000) (hm : m.length ≤ 1000) :
    Calls Tryd.prog 32 #[u, v] w fun e w' => e = .returned (.bool (sameL l m)) ∧ Below w.heap.size w w' := by
  obtain ⟨A, c, rfl, hA⟩ := hu
  obtain ⟨A', c', rfl, hA'⟩ := hv
  have hL : LegL w (.slice A l.length c) l := ⟨A, c, rfl, hA⟩
  have hL' : LegL w (.slice A' m.length c') m := ⟨A', c', rfl, hA'⟩
  clear hA hA'
  by_cases hlen : l.length = m.length
  · have HM : Hid (l.length = m.length) := Lib.hid hlen
    have hq : ((l.length : Int) != (m.length : Int)) = false := by rw [hlen]; simp
    clear hlen
    go_enter Tryd.func32, Tryd.ntmps32
    go_wp2
    go_loopw [13] (fun vi wr => ∃ k : Nat, k ≤ l.length ∧ vi = .int .i64 k ∧ Hid (sameL l m = sameL (l.drop k) (m.drop k)) ∧ SW w wr) (fun vi _ => l.length - (intOf vi).toNat)
    case atStart => exact ⟨0, Nat.zero_le _, rfl, Lib.hid rfl, Below.refl _ _⟩
    case round =>
      obtain ⟨k, hk, rfl, HK, hS⟩ := hrel
      by_cases hlt : k < l.length
      · obtain ⟨b, o, x, rfl, _, hx, c0, c1, c2, c3, c4⟩ := LegL.get (hL.more hS) hlt
        obtain ⟨b', o', y, rfl, _, hy, d0, d1, d2, d3, d4⟩ := LegL.get (hL'.more hS) (show k < m.length by have := HM.out; omega)
        have i2 : (k : Int) < (l.length : Int) := by omega
        have i3 : (k : Int) < (m.length : Int) := by have := HM.out; omega
        have HK2 := Lib.hid (HK.out.trans (sameL_drop l m hx hy))
        have f0 := SW.cell c0
        have f1 := SW.cell c1
        have f2 := SW.cell c2
        have f3 := SW.cell c3
        have f4 := SW.cell c4
        have g0 := SW.cell d0
        have g1 := SW.cell d1
        have g2 := SW.cell d2
        have g3 := SW.cell d3
        have g4 := SW.cell d4
        clear hx hy c0 c1 c2 c3 c4 d0 d1 d2 d3 d4 HK
        cases h1 : x.f.toList == y.f.toList
        · skip
          have HR : Hid (sameL l m = false) := Lib.hid (by rw [HK2.out]; unfold eqLg; simp [h1])
          clear HK2
          go_wp2
          have hNe : Nonempty (Wd (SW wr)) := ⟨⟨_, SW.drew _⟩⟩
          refine quietS (S := SW wr) (by kernel_rfl) (by kernel_rfl) (SW.drew _) ?_
          repeat (first | go_big_quiet_skip | (go_big_quiet_want; go_big_quiet_op; first | go_big_quiet_on | go_big_quiet_call ((fail))))
          refine wpQuiet_nil ?_
          rintro W ⟨⟨_, hW⟩, rfl⟩
          go_wp2
          go_ret
          exact ⟨ret_bool HR.out.symm, Below.trans hS (Below.mono hW hS.size)⟩
        · skip
          cases h2 : x.t.toList == y.t.toList
          · skip
            have HR : Hid (sameL l m = false) := Lib.hid (by rw [HK2.out]; unfold eqLg; simp [h1, h2])
            clear HK2
            go_wp2
            have hNe : Nonempty (Wd (SW wr)) := ⟨⟨_, SW.drew _⟩⟩
            refine quietS (S := SW wr) (by kernel_rfl) (by kernel_rfl) (SW.drew _) ?_
            repeat (first | go_big_quiet_skip | (go_big_quiet_want; go_big_quiet_op; first | go_big_quiet_on | go_big_quiet_call ((fail))))
            refine wpQuiet_nil ?_
            rintro W ⟨⟨_, hW⟩, rfl⟩
            go_wp2
            go_ret
            exact ⟨ret_bool HR.out.symm, Below.trans hS (Below.mono hW hS.size)⟩
          · skip
            by_cases h3 : x.dep = y.dep
            · have h3b : (x.dep == y.dep) = true := beq_iff_eq.2 h3
              by_cases h4 : x.arr = y.arr
              · have h4b : (x.arr == y.arr) = true := beq_iff_eq.2 h4
                cases h5 : x.eq.toList == y.eq.toList
                · skip
                  have HR : Hid (sameL l m = false) := Lib.hid (by rw [HK2.out]; unfold eqLg; simp [h1, h2, h3, h4, h5])
                  clear HK2
                  go_wp2
                  have hNe : Nonempty (Wd (SW wr)) := ⟨⟨_, SW.drew _⟩⟩
                  refine quietS (S := SW wr) (by kernel_rfl) (by kernel_rfl) (SW.drew _) ?_
                  repeat (first | go_big_quiet_skip | (go_big_quiet_want; go_big_quiet_op; first | go_big_quiet_on | go_big_quiet_call ((fail))))
                  refine wpQuiet_nil ?_
                  rintro W ⟨⟨_, hW⟩, rfl⟩
                  go_wp2
                  go_ret
                  exact ⟨ret_bool HR.out.symm, Below.trans hS (Below.mono hW hS.size)⟩
                · skip
                  have HR : Hid (sameL l m = sameL (l.drop (k + 1)) (m.drop (k + 1))) := Lib.hid (by rw [HK2.out, show eqLg x y = true by unfold eqLg; simp [h1, h2, h3, h4, h5], Bool.true_and])
                  clear HK2
                  go_wp2
                  have hNe : Nonempty (Wd (SW wr)) := ⟨⟨_, SW.drew _⟩⟩
                  refine quietS (S := SW wr) (by kernel_rfl) (by kernel_rfl) (SW.drew _) ?_
                  repeat (first | go_big_quiet_skip | (go_big_quiet_want; go_big_quiet_op; first | go_big_quiet_on | go_big_quiet_call ((fail))))
                  refine wpQuiet_nil ?_
                  rintro W ⟨⟨_, hW⟩, rfl⟩
                  go_wp2
                  go_roundw
                  case rel => exact ⟨k + 1, by omega, by go_num, HR, Below.trans hS (Below.mono hW hS.size)⟩
                  case measure => simp [intOf]; omega
              · have h4b : (x.arr == y.arr) = false := beq_eq_false_iff_ne.2 h4
                have HR : Hid (sameL l m = false) := Lib.hid (by rw [HK2.out]; unfold eqLg; simp [h1, h2, h3, h4])
                clear HK2
                go_wp2
                have hNe : Nonempty (Wd (SW wr)) := ⟨⟨_, SW.drew _⟩⟩
                refine quietS (S := SW wr) (by kernel_rfl) (by kernel_rfl) (SW.drew _) ?_
                repeat (first | go_big_quiet_skip | (go_big_quiet_want; go_big_quiet_op; first | go_big_quiet_on | go_big_quiet_call ((fail))))
                refine wpQuiet_nil ?_
                rintro W ⟨⟨_, hW⟩, rfl⟩
                go_wp2
                go_ret
                exact ⟨ret_bool HR.out.symm, Below.trans hS (Below.mono hW hS.size)⟩
            · have h3b : (x.dep == y.dep) = false := beq_eq_false_iff_ne.2 h3
              have HR : Hid (sameL l m = false) := Lib.hid (by rw [HK2.out]; unfold eqLg; simp [h1, h2, h3])
              clear HK2
              go_wp2
              have hNe : Nonempty (Wd (SW wr)) := ⟨⟨_, SW.drew _⟩⟩
              refine quietS (S := SW wr) (by kernel_rfl) (by kernel_rfl) (SW.drew _) ?_
              repeat (first | go_big_quiet_skip | (go_big_quiet_want; go_big_quiet_op; first | go_big_quiet_on | go_big_quiet_call ((fail))))
              refine wpQuiet_nil ?_
              rintro W ⟨⟨_, hW⟩, rfl⟩
              go_wp2
              go_ret
              exact ⟨ret_bool HR.out.symm, Below.trans hS (Below.mono hW hS.size)⟩
      · have HR : Hid (sameL l m = true) := Lib.hid (by
          rw [HK.out, List.drop_of_length_le (by omega), List.drop_of_length_le (by have := HM.out; omega)]
          rfl)
        go_wp2
        go_ret
        exact ⟨ret_bool HR.out.symm, hS⟩
  · have HR : Hid (sameL l m = false) := Lib.hid (sameL_len l m hlen)
    have hq : ((l.length : Int) != (m.length : Int)) = true := by simp; omega
    clear hlen
    go_enter Tryd.func32, Tryd.ntmps32
    go_wp2
    go_ret
    exact ⟨ret_bool HR.out.symm, Below.refl _ _⟩

end Go.Proofs.YtfgmlbmjjihhfaaDoor

/- Walks of Same, of the program and of the reference. -/
namespace Go.Proofs.YtfgmlbmjjihhfaaDoor
open Go.RowKit Go.Shelf
set_option linter.unusedSimpArgs false
set_option linter.unusedVariables false

def sameB (a b : FV) : Bool := (a.car.toList == b.car.toList) && ((a.num == b.num) && ((a.pf == b.pf) && ((a.pt == b.pt) && ((a.pd == b.pd) && sameL a.lg b.lg))))
theorem sameB_refl (a : FV) : sameB a a = true := by simp [sameB, sameL_refl]

set_option maxRecDepth 100000 in
set_option maxHeartbeats 4000000 in
theorem same_any7 (a b : FV) (w : World) (ha : LegL w (.slice a.A a.lg.length a.c) a.lg) (hb : LegL w (.slice b.A b.lg.length b.c) b.lg) (hl : a.lg.length ≤ 1000) (hm : b.lg.length ≤ 1000) :
    Calls Tryd.prog 10 #[encFl a, encFl b] w fun e w' => e = .returned (.bool (sameB a b)) ∧ Below w.heap.size w w' := by
  have hb0 : Below w.heap.size w ((w.alloc (.cells #[.string a.car, .int .i64 a.num, .int .i64 a.pf, .int .i64 a.pt, .int .i64 a.pd, .slice a.A a.lg.length a.c] fliT)).alloc (.cells #[.string b.car, .int .i64 b.num, .int .i64 b.pf, .int .i64 b.pt, .int .i64 b.pd, .slice b.A b.lg.length b.c] fliT)) :=
    ((Below.refl _ w).alloc (Nat.le_refl _) _).alloc (by simp) _
  have HC := Lib.hid (equalL_any _ _ a.lg b.lg _ (ha.more hb0) (hb.more hb0) hl hm)
  clear ha hb
  go_enter Tryd.func10, Tryd.ntmps10
  cases h1 : a.car.toList == b.car.toList
  · skip
    have HR : Hid (sameB a b = false) := Lib.hid (by unfold sameB; simp only [h1, Bool.false_and, Bool.true_and])
    clear HC
    go_wp2
    go_ret
    exact ⟨ret_bool HR.out.symm, hb0⟩
  · skip
    cases h2 : (a.num == b.num)
    · skip
      have HR : Hid (sameB a b = false) := Lib.hid (by unfold sameB; simp only [h1, h2, Bool.false_and, Bool.true_and])
      clear HC
      go_wp2
      go_ret
      exact ⟨ret_bool HR.out.symm, hb0⟩
    · skip
      cases h3 : (a.pf == b.pf)
      · skip
        have HR : Hid (sameB a b = false) := Lib.hid (by unfold sameB; simp only [h1, h2, h3, Bool.false_and, Bool.true_and])
        clear HC
        go_wp2
        go_ret
        exact ⟨ret_bool HR.out.symm, hb0⟩
      · skip
        cases h4 : (a.pt == b.pt)
        · skip
          have HR : Hid (sameB a b = false) := Lib.hid (by unfold sameB; simp only [h1, h2, h3, h4, Bool.false_and, Bool.true_and])
          clear HC
          go_wp2
          go_ret
          exact ⟨ret_bool HR.out.symm, hb0⟩
        · skip
          cases h5 : (a.pd == b.pd)
          · skip
            have HR : Hid (sameB a b = false) := Lib.hid (by unfold sameB; simp only [h1, h2, h3, h4, h5, Bool.false_and, Bool.true_and])
            clear HC
            go_wp2
            go_ret
            exact ⟨ret_bool HR.out.symm, hb0⟩
          · skip
            have HR : Hid (sameB a b = sameL a.lg b.lg) := Lib.hid (by unfold sameB; simp only [h1, h2, h3, h4, h5, Bool.false_and, Bool.true_and])
            go_wp2_with (first | (go_at_call 32; refine HC.out.mono ?_; rintro e w' ⟨rfl, hb'⟩))
            go_ret
            exact ⟨ret_bool HR.out.symm, hb0.trans (Below.mono hb' hb0.size)⟩

set_option maxRecDepth 100000 in
set_option maxHeartbeats 4000000 in
theorem rsame_any7 (a b : FV) (w : World) (ha : LegL w (.slice a.A a.lg.length a.c) a.lg) (hb : LegL w (.slice b.A b.lg.length b.c) b.lg) (hl : a.lg.length ≤ 1000) (hm : b.lg.length ≤ 1000) :
    Calls Tryd.prog 11 #[encFl a, encFl b] w fun e w' => e = .returned (.bool (sameB a b)) ∧ Below w.heap.size w w' := by
  have hb0 : Below w.heap.size w ((w.alloc (.cells #[.string a.car, .int .i64 a.num, .int .i64 a.pf, .int .i64 a.pt, .int .i64 a.pd, .slice a.A a.lg.length a.c] fliT)).alloc (.cells #[.string b.car, .int .i64 b.num, .int .i64 b.pf, .int .i64 b.pt, .int .i64 b.pd, .slice b.A b.lg.length b.c] fliT)) :=
    ((Below.refl _ w).alloc (Nat.le_refl _) _).alloc (by simp) _
  have HC := Lib.hid (sameLegs_any _ _ a.lg b.lg _ (ha.more hb0) (hb.more hb0) hl hm)
  clear ha hb
  go_enter Tryd.func11, Tryd.ntmps11
  cases h1 : a.car.toList == b.car.toList
  · skip
    have HR : Hid (sameB a b = false) := Lib.hid (by unfold sameB; simp only [h1, Bool.false_and, Bool.true_and])
    clear HC
    go_wp2
    go_ret
    exact ⟨ret_bool HR.out.symm, hb0⟩
  · skip
    cases h2 : (a.num == b.num)
    · skip
      have HR : Hid (sameB a b = false) := Lib.hid (by unfold sameB; simp only [h1, h2, Bool.false_and, Bool.true_and])
      clear HC
      go_wp2
      go_ret
      exact ⟨ret_bool HR.out.symm, hb0⟩
    · skip
      cases h3 : (a.pf == b.pf)
      · skip
        have HR : Hid (sameB a b = false) := Lib.hid (by unfold sameB; simp only [h1, h2, h3, Bool.false_and, Bool.true_and])
        clear HC
        go_wp2
        go_ret
        exact ⟨ret_bool HR.out.symm, hb0⟩
      · skip
        cases h4 : (a.pt == b.pt)
        · skip
          have HR : Hid (sameB a b = false) := Lib.hid (by unfold sameB; simp only [h1, h2, h3, h4, Bool.false_and, Bool.true_and])
          clear HC
          go_wp2
          go_ret
          exact ⟨ret_bool HR.out.symm, hb0⟩
        · skip
          cases h5 : (a.pd == b.pd)
          · skip
            have HR : Hid (sameB a b = false) := Lib.hid (by unfold sameB; simp only [h1, h2, h3, h4, h5, Bool.false_and, Bool.true_and])
            clear HC
            go_wp2
            go_ret
            exact ⟨ret_bool HR.out.symm, hb0⟩
          · skip
            have HR : Hid (sameB a b = sameL a.lg b.lg) := Lib.hid (by unfold sameB; simp only [h1, h2, h3, h4, h5, Bool.false_and, Bool.true_and])
            go_wp2_with (first | (go_at_call 33; refine HC.out.mono ?_; rintro e w' ⟨rfl, hb'⟩))
            go_ret
            exact ⟨ret_bool HR.out.symm, hb0.trans (Below.mono hb' hb0.size)⟩

end Go.Proofs.YtfgmlbmjjihhfaaDoor
