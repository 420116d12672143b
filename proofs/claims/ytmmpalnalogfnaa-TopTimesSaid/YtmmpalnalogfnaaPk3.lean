/- Words and walks that the laws below ask: PerD, PerM, PerE, CalB, CalC, CalE, PerT, FliI, FliL, FliK, PlainA, TextB, TextC, Build, TextD, FliM, PlaE, PlaF, PlaG, FliX, FliJ, SgB, SchA, SchB, SgC, SchC, SchC2, SchC3, PerF, PerG, PerH, PerI, SchP, SchE, SchD, SchF, SchK. -/
import Derived.RangeFuncNested
import Derived.RangeFuncBound
import Derived.RangeFuncCalls
import Derived.RangeFuncLeaves
import Derived.Shelf.Abstract
import Derived.Shelf.RegionOpen
import Derived.WalkKit
import Derived.OwnWalkIn
import Derived.TacticsInMore
import Derived.LoopNIn
import Derived.LoopIn
import Derived.Maps.AppendAt
import Derived.Sort.QuietIn
import Derived.Sort.BigQuietIn
import Derived.Deep.AppendLies
import Derived.RangeFuncBox
import Derived.Deep.WholeRow
import Derived.BigQuiet
import Derived.Deep.QuietTactic
import Derived.Laws.Concat
import Derived.Lib.UnsafeStr
import Derived.Lib.BufferWrite
import Derived.Deep.RegionLaw
import Derived.Lib.Bytealg
import Derived.Test.YtmmpalnalogfnaaChecked
import Derived.Lib.Strings
import Derived.Lib.Slices
import Derived.Lib.Walk
import Derived.Lib.Builder
import Derived.Lib.AppendStr
import Derived.Laws.Externs
import Derived.Shelf.GgClosure.StringsIndexFunc
import Derived.DeepKeys4
import Derived.WideKeyPair
import Derived.BigRegion
import Derived.Deep.LoopGhost
import Derived.Test.YtmmpalnalogfnaaPk1
import Derived.Test.YtmmpalnalogfnaaPk2
/- The iterator over the days of a period: its contract, over whatever loop. -/
namespace Go.Proofs.Ytmmpalnalogfnaa.Per
open Go.RowKit Go.Shelf
set_option linter.unusedSimpArgs false
set_option linter.unusedVariables false
attribute [local go_sem] Oper.semAt_some

/-- a day that there is -/
abbrev Dy := { x : Int // 0 ≤ x ∧ x < 36525 }
abbrev encD (x : Dy) : Array Value := #[.int .i64 x.1]
abbrev perT : TypeId := 27
/-- block B holds the period p -/
def BoxAt (W : World) (B : Nat) (p : Per) : Prop := W.heap[B]? = some (.cells #[.int .i64 p.1, .int .i64 p.2.1, .int .i64 p.2.2] perT (0, 0))
theorem BoxAt.cell {W : World} {B : Nat} {p : Per} (h : BoxAt W B p) : W.cell? ⟨B, 0, none⟩ = some (.int .i64 p.1) ∧ W.cell? ⟨B, 1, none⟩ = some (.int .i64 p.2.1) ∧ W.cell? ⟨B, 2, none⟩ = some (.int .i64 p.2.2) :=
  ⟨cell_of_row _ _ 0 _ _ (0, 0) h, cell_of_row _ _ 1 _ _ (0, 0) h, cell_of_row _ _ 2 _ _ (0, 0) h⟩
theorem BoxAt.lt {W : World} {B : Nat} {p : Per} (h : BoxAt W B p) : B < W.heap.size := (Array.getElem?_eq_some_iff.1 h).1
theorem BoxAt.more {W W' : World} {B : Nat} {p : Per} (h : BoxAt W B p) (hb : Below W.heap.size W W') : BoxAt W' B p := (hb.block B h.lt).trans h
theorem BoxAt.drew' {W : World} {B : Nat} {p : Per} (h : BoxAt W B p) : BoxAt W.drew B p := h.more (Below.refl _ _).drew
/-- what a round keeps -/
def KpB (n₀ B : Nat) (W W' : World) : Prop := Below n₀ W W' ∧ W'.heap[B]? = W.heap[B]?
theorem kp_t {n₀ B : Nat} {X Y Z : World} (h : KpB n₀ B X Y) (k : KpB n₀ B Y Z) : KpB n₀ B X Z := ⟨h.1.trans k.1, k.2.trans h.2⟩
theorem kp_b {n₀ B : Nat} {w : World} (hn : n₀ ≤ w.heap.size) (hB : B < w.heap.size) (W : World) (l : Nat) (o o' : Obj) (hl : w.heap.size ≤ l) (h : W.heap[l]? = some o) (h1 : o.isCells = false) (h2 : o.isWalk = false) : KpB n₀ B W (W.putObj l o') :=
  ⟨belowK_b hn W l o o' hl h h1 h2, World.putObj_heap_other (by omega)⟩
theorem grown_of_below {W W' : World} (h : Below W.heap.size W W') : W.grownBy W' none := ⟨h.os, h.tape, h.output, h.size, fun k hk _ => h.block k hk⟩
theorem abide_below {β : Type} {B : Nat} {J : β → World → Prop} (hJ : AbidesFrom B J) {s : β} {W W' : World} (h : J s W) (hb : Below W.heap.size W W') : J s W' :=
  hJ s W W' none h (grown_of_below hb) (fun r e => by cases e)

/-- the days as numbers -/
def vals (l : List Dy) : List Int := l.map (·.1)
theorem vals_snoc (l : List Dy) (x : Dy) : vals (l ++ [x]) = vals l ++ [x.1] := by simp [vals]
theorem vals_len (l : List Dy) : (vals l).length = l.length := by simp [vals]
theorem wide_fn (f : Nat) : Fence.wide.fn f := trivial
attribute [local simp] wide_fn
theorem quietSIn {F : Fence} {n : Nat} {P : Program} {S : World → Prop} {id : Nat} {Q : Exit → Act → World → Prop} {a : Act} {w : World} {l : List Oper} (hro : F.round = none) (hm : P.follows .mixedOrders = true) (hB : Region.lexB .any l.toArray = true) (hC : S w.drew)
    (h : wpQuietIn F n P l.toArray (fun w' => ∃ x : Wd S, w' = x.w) (fun a' => ∀ w', (∃ x : Wd S, w' = x.w) → Q .normal a' w') l a) : (Code.region id l.toArray true).wpIn F n P Q a w :=
  wpIn_region_quiet (C := fun w' => ∃ x : Wd S, w' = x.w) hro hm hB ⟨⟨_, hC⟩, rfl⟩ (by simpa using h)
theorem quiet_SIn {F : Fence} {n : Nat} {P : Program} {f : FuncId} {args : Array Value} {W : World} {S : World → Prop} {v : Value} (h : CallsIn F n P f args W fun e w' => e = .returned v ∧ S w') :
    CallsIn F n P f args W fun e w'' => e = .returned v ∧ ∃ x : Wd S, w'' = x.w := h.mono (by rintro e w' ⟨he, hs⟩; exact ⟨he, ⟨w', hs⟩, rfl⟩)
/-- a world of a round before its yield -/
def InRd (J : List Dy → World → Prop) (pre : List Dy) (B : Nat) (p : Per) (W : World) : Prop := J pre W ∧ BoxAt W B p
theorem inRd_call {J : List Dy → World → Prop} {B0 : Nat} (hJa : AbidesFrom B0 J) {pre : List Dy} {B : Nat} {p : Per} {f : Nat} {args : Array Value} {v : Value} (h : ∀ W, Calls Try.prog f args W fun e w' => e = .returned v ∧ Below W.heap.size W w') (W : World) (hi : InRd J pre B p W) :
    CallsIn Fence.wide 8 Try.prog f args W fun e w' => e = .returned v ∧ InRd J pre B p w' :=
  callsIn_wide.2 ((h W).mono (by rintro e w' ⟨he, hb⟩; exact ⟨he, abide_below hJa hi.1 hb, hi.2.more hb⟩))

theorem yield_two {F : Fence} {m : Nat} {P : Program} {l : Nat} {fn : FuncId} {tmps : Array Value} {assign body : Code} {W : World} {R1 R2 : World → Prop}
    (h : RoundIn F m P l fn tmps assign body W fun e W' => (e = .returned (.bool true) ∧ R1 W') ∨ (e = .returned (.bool false) ∧ R2 W')) :
    RoundIn F m P l fn tmps assign body W fun e W' => ∃ b, e = .returned (.bool b) ∧ (b = true → R1 W') ∧ (b = false → R2 W') := h.mono (by
  rintro e W' (⟨rfl, h⟩ | ⟨rfl, h⟩)
  · exact ⟨true, rfl, fun _ => h, fun e => (nomatch e)⟩
  · exact ⟨false, rfl, fun e => (nomatch e), fun _ => h⟩)

set_option maxRecDepth 100000 in
set_option maxHeartbeats 2000000 in
theorem each1_in (l Bn n₀ : Nat) (f t d : Int) (J Jx : List Dy → World → Prop) (B0 : Nat) (hJa : AbidesFrom B0 J)
    (hY : ∀ pre x W, J pre W → pre.length < 800 → YieldAt Fence.wide 8 Try.prog l (encD x) W fun e W' =>
      (e = .returned (.bool true) ∧ J (pre ++ [x]) W' ∧ KpB n₀ Bn W W') ∨ (e = .returned (.bool false) ∧ Jx (pre ++ [x]) W'))
    (W : World) (hBn : BoxAt W Bn (f, t, d)) (h0 : J [] W) :
    CallsIn Fence.wide 9 Try.prog 77 #[.func (.yield l) #[] #[], .pointer (some ⟨Bn, 0, none⟩)] W fun e W' => (∃ v, e = .returned v) ∧
      ((∃ ys : List Dy, vals ys = daysQ (f, t, d) ∧ J ys W') ∨ (∃ pre, True ∧ Jx pre W')) := by
  obtain ⟨c0, c1, c2⟩ := hBn.cell
  have CV := isValid_any f t d W
  cases h : okQ (f, t, d)
  · rw [h] at CV
    refine callsIn_of_wp Try.func77 rfl trivial ?_ rfl
    simp only [Try.ntmps77, List.size_toArray, List.length_cons, List.length_nil, Nat.reduceAdd, Nat.reduceSub, Array.replicate_succ, Array.replicate_zero, List.push_toArray, List.append_toArray, List.nil_append, List.cons_append]
    gi_wp2_with (gi_at_call 24; refine (callsIn_wide.2 CV).mono ?_; rintro e w' ⟨rfl, hb⟩)
    refine bodyPost_ret (results_none rfl _ _ _) rfl ?_
    exact ⟨⟨_, rfl⟩, .inl ⟨[], by rw [daysQ_no h]; rfl, abide_below hJa h0 hb⟩⟩
  · rw [h] at CV
    have hq := okQ_yes h
    have q0 : 0 ≤ f := hq.1
    have q1 : f ≤ t := hq.2.1
    have q2 : t < 36525 := hq.2.2.1
    have q3 : t - f < 800 := hq.2.2.2.1
    have q4 : 1 ≤ d := hq.2.2.2.2.1
    have q5 : d ≤ 127 := hq.2.2.2.2.2
    have hlen : lenQ (f, t, d) = (t - f + 1).toNat := rfl
    have HD := Lib.hid (daysQ_yes h)
    clear h hq
    refine callsIn_of_wp Try.func77 rfl trivial ?_ rfl
    simp only [Try.ntmps77, List.size_toArray, List.length_cons, List.length_nil, Nat.reduceAdd, Nat.reduceSub, Array.replicate_succ, Array.replicate_zero, List.push_toArray, List.append_toArray, List.nil_append, List.cons_append]
    gi_wp2_with (gi_at_call 24; refine (callsIn_wide.2 CV).mono ?_; rintro e w' ⟨rfl, hb⟩; have hBn2 := hBn.more hb; have c0' := hBn2.cell.1)
    gi_loopw [3] (fun i wr => ∃ (k : Nat) (pre : List Dy), k ≤ lenQ (f, t, d) ∧ i = .int .i64 (f + k) ∧ Hid (vals pre = daysTo (f, t, d) k) ∧ J pre wr ∧ BoxAt wr Bn (f, t, d)) (fun i _ => (t + 1 - intOf i).toNat)
    case atStart => exact ⟨0, [], Nat.zero_le _, by simp, Lib.hid rfl, abide_below hJa h0 hb, hBn2⟩
    case round =>
      clear CV hb hBn2 c0' c0 c1 c2 hBn h0
      obtain ⟨k, pre, hk, rfl, HP, hJ, hB⟩ := hrel
      obtain ⟨g0, g1, g2⟩ := hB.cell
      by_cases hlt : k < lenQ (f, t, d)
      · have x1 : 0 ≤ f + (k : Int) := by omega
        have x2 : f + (k : Int) < 36525 := by omega
        have x3 : f + (k : Int) ≤ t := by omega
        have hpl : pre.length < 800 := by
          have h1 := daysTo_len (f, t, d) k
          rw [← HP.out, vals_len] at h1
          omega
        have CW := Lib.hid (inRd_call hJa (pre := pre) (B := Bn) (p := (f, t, d)) (fun W => wk_any (f + k) W (by omega) (by omega)))
        have CH := Lib.hid (inRd_call hJa (pre := pre) (B := Bn) (p := (f, t, d)) (fun W => hasWd_any f t d (wkN (f + k)) W (by omega) (by omega) (wkN_lt _)))
        have hI : InRd J pre Bn (f, t, d) wr.drew := ⟨abide_below hJa hJ (Below.refl _ _).drew, hB.drew'⟩
        have g0' : ∀ x : Wd (InRd J pre Bn (f, t, d)), x.w.cell? ⟨Bn, 0, none⟩ = some (.int .i64 f) := fun x => x.ok.2.cell.1
        have g1' : ∀ x : Wd (InRd J pre Bn (f, t, d)), x.w.cell? ⟨Bn, 1, none⟩ = some (.int .i64 t) := fun x => x.ok.2.cell.2.1
        have g2' : ∀ x : Wd (InRd J pre Bn (f, t, d)), x.w.cell? ⟨Bn, 2, none⟩ = some (.int .i64 d) := fun x => x.ok.2.cell.2.2
        cases hw : wdB d (f + k)
        · rw [show d.toNat.testBit (wkN (f + k)) = false from hw] at CH
          have HN := Lib.hid (daysTo_miss (f, t, d) k hw)
          clear hw
          generalize wkN (f + k) = wk at *
          gi_wp2
          have hNe : Nonempty (Wd (InRd J pre Bn (f, t, d))) := ⟨⟨_, hI⟩⟩
          refine quietSIn (S := InRd J pre Bn (f, t, d)) rfl (by kernel_rfl) (by kernel_rfl) (hI) ?_
          repeat (first | gi_big_quiet_skip | (gi_big_quiet_want; gi_big_quiet_op; first | go_big_quiet_on | gi_big_quiet_call ((first | (gi_at_call 26; exact quiet_SIn (CW.out _ (Wd.ok _))) | (gi_at_call 25; exact quiet_SIn (CH.out _ (Wd.ok _)))))))
          refine wpQuietIn_nil ?_
          rintro W ⟨⟨_, hW⟩, rfl⟩
          gi_wp2
          go_roundw
          case rel => exact ⟨k + 1, pre, by omega, by congr 1; omega, Lib.hid (by rw [HP.out, HN.out]), hW.1, hW.2⟩
          case measure => simp [intOf]; omega
        · rw [show d.toNat.testBit (wkN (f + k)) = true from hw] at CH
          have HN := Lib.hid (daysTo_hit (f, t, d) k hw)
          clear hw
          have HY := Lib.hid hY
          clear hY
          generalize wkN (f + k) = wk at *
          gi_wp2
          gi_region_with (first | (gi_at_call 26; refine (CW.out _ hI).mono ?_; rintro e w2 ⟨rfl, hI2⟩; have k0 := hI2.2.cell.1; have k1 := hI2.2.cell.2.1; have k2 := hI2.2.cell.2.2) | (gi_at_call 25; refine (CH.out _ hI2).mono ?_; rintro e w3 ⟨rfl, hI3⟩; obtain ⟨fn, tmps, assign, body, hy, hR⟩ := HY.out pre ⟨f + k, x1, x2⟩ w3 hI3.1 hpl; dsimp only [encD] at hy) | (refine (yield_two hR).mono ?_; rintro e W3 ⟨b, rfl, hb1, hb2⟩))
          all_goals
            cases b
            · have hx := hb2 rfl
              gi_wp2
              refine bodyPost_ret (results_none rfl _ _ _) rfl ?_
              exact ⟨⟨_, rfl⟩, .inr ⟨_, hx⟩⟩
            · obtain ⟨hJ3, hk3⟩ := hb1 rfl
              gi_wp2
              go_roundw
              case rel => exact ⟨k + 1, pre ++ [⟨f + k, x1, x2⟩], by omega, by congr 1; omega, Lib.hid (by rw [vals_snoc, HP.out, HN.out]), hJ3, hk3.2.trans hI3.2⟩
              case measure => simp [intOf]; omega
      · have e : k = lenQ (f, t, d) := by omega
        subst e
        gi_wp2
        go_end0
        exact ⟨⟨_, rfl⟩, .inl ⟨pre, by rw [HP.out, HD.out], hJ⟩⟩

/-- the contract of the iterator's value -/
theorem each_stops (Bn n₀ : Nat) (p : Per) (w : World) (hBn : BoxAt w Bn p) :
    SeqStopsK Fence.wide 9 Try.prog 77 #[.pointer (some ⟨Bn, 0, none⟩)] encD (KpB n₀ Bn) (fun ys => vals ys = daysQ p) (fun _ => True) 800 w := fun l J Jx W hW hJ _ hY h0 =>
  each1_in l Bn n₀ p.1 p.2.1 p.2.2 J Jx W.heap.size hJ hY W (hBn.more hW) h0
set_option maxHeartbeats 1000000 in
/-- 'each(p)': the period is boxed; the function value captures the box -/
theorem each_any (p : Per) (w : World) : CallsIn Fence.wide 9 Try.prog 55 #[encQ p] w fun e w' => e = .returned (.func (.func 77) #[] #[.pointer (some ⟨w.heap.size, 0, none⟩)]) ∧ w' = w.alloc (.cells #[.int .i64 p.1, .int .i64 p.2.1, .int .i64 p.2.2] perT) := by
  refine callsIn_of_wp Try.func55 rfl trivial ?_ rfl
  simp only [Try.ntmps55, List.size_toArray, List.length_cons, List.length_nil, Nat.reduceAdd, Nat.reduceSub, Array.replicate_succ, Array.replicate_zero, List.push_toArray, List.append_toArray, List.nil_append, List.cons_append]
  gi_wp2
  go_ret
  exact ⟨rfl, rfl⟩

end Go.Proofs.Ytmmpalnalogfnaa.Per

/- Words for memory: lists of numbers and of periods, as slices. -/
namespace Go.Proofs.Ytmmpalnalogfnaa.Per
open Go.RowKit
set_option linter.unusedSimpArgs false
set_option linter.unusedVariables false

/-- the slice value v holds the numbers l, in memory that lies in w -/
def IntL (w : World) (v : Value) (l : List Int) : Prop :=
  ∃ A c, v = .slice A l.length c ∧ (l = [] ∨ ∃ b o, A = some ⟨b, o, none⟩ ∧ b < w.heap.size ∧ ∀ i (h : i < l.length), w.cell? ⟨b, o + i, none⟩ = some (.int .i64 l[i]))
theorem IntL.more {w w' : World} {v : Value} {l : List Int} (h : IntL w v l) (hb : Below w.heap.size w w') : IntL w' v l := by
  obtain ⟨A, c, rfl, h⟩ := h
  refine ⟨A, c, rfl, ?_⟩
  rcases h with h | ⟨b, o, rfl, hlt, hc⟩
  · exact .inl h
  · exact .inr ⟨b, o, rfl, Nat.lt_of_lt_of_le hlt hb.size, fun i hi => (hb.cell (p := ⟨b, o + i, none⟩) hlt).trans (hc i hi)⟩
theorem IntL.of_own {e : TypeId} {B : Nat} {w : World} {v : Value} {l : List Int} (h : w.ownsRow B e 1 v l.length (l.map (Value.int .i64))) : IntL w v l := by
  cases l with
  | nil =>
    rcases h.2 with ⟨rfl, _⟩ | ⟨g, cap, cur, rfl, _⟩
    · exact ⟨none, 0, rfl, .inl rfl⟩
    · exact ⟨_, cap, rfl, .inl rfl⟩
  | cons x r =>
    obtain ⟨g, cap, rfl, _, hlt⟩ := h.form (by simp)
    refine ⟨_, cap, rfl, .inr ⟨g, 0, rfl, hlt, fun i hi => ?_⟩⟩
    have := h.cells (g := g) rfl i (.int .i64 (x :: r)[i]) (by rw [List.getElem?_map, List.getElem?_eq_getElem hi]; rfl)
    have hadd : (⟨g, 0, none⟩ : Addr).add i = ⟨g, 0 + i, none⟩ := by unfold Addr.add; split <;> simp_all
    rw [← hadd]
    exact this
/-- the cells of periods, one behind the other -/
def cellsQ (l : List Per) : List Value := l.flatMap fun p => [.int .i64 p.1, .int .i64 p.2.1, .int .i64 p.2.2]
theorem cellsQ_at : ∀ (l : List Per) (i : Nat) (h : i < l.length), (cellsQ l)[i * 3]? = some (.int .i64 l[i].1) ∧ (cellsQ l)[i * 3 + 1]? = some (.int .i64 l[i].2.1) ∧ (cellsQ l)[i * 3 + 2]? = some (.int .i64 l[i].2.2)
  | [], i, h => by simp at h
  | x :: r, 0, h => by simp [cellsQ]
  | x :: r, i + 1, h => by
    have ih := cellsQ_at r i (by simpa using h)
    have e : cellsQ (x :: r) = .int .i64 x.1 :: .int .i64 x.2.1 :: .int .i64 x.2.2 :: cellsQ r := by simp [cellsQ]
    rw [e, show (i + 1) * 3 = i * 3 + 1 + 1 + 1 by omega, show i * 3 + 1 + 1 + 1 + 1 = (i * 3 + 1) + 1 + 1 + 1 by omega, show i * 3 + 1 + 1 + 1 + 2 = (i * 3 + 2) + 1 + 1 + 1 by omega]
    simp only [List.getElem?_cons_succ, List.getElem_cons_succ]
    exact ih
/-- the slice value v holds the periods l, in memory that lies in w -/
def PerL (w : World) (v : Value) (l : List Per) : Prop :=
  ∃ A c, v = .slice A l.length c ∧ (l = [] ∨ ∃ b o, A = some ⟨b, o, none⟩ ∧ b < w.heap.size ∧ ∀ i (h : i < l.length), w.cell? ⟨b, o + i * 3, none⟩ = some (.int .i64 l[i].1) ∧ w.cell? ⟨b, o + i * 3 + 1, none⟩ = some (.int .i64 l[i].2.1) ∧ w.cell? ⟨b, o + i * 3 + 2, none⟩ = some (.int .i64 l[i].2.2))
theorem PerL.more {w w' : World} {v : Value} {l : List Per} (h : PerL w v l) (hb : Below w.heap.size w w') : PerL w' v l := by
  obtain ⟨A, c, rfl, h⟩ := h
  refine ⟨A, c, rfl, ?_⟩
  rcases h with h | ⟨b, o, rfl, hlt, hc⟩
  · exact .inl h
  · exact .inr ⟨b, o, rfl, Nat.lt_of_lt_of_le hlt hb.size, fun i hi => ⟨(hb.cell (p := ⟨b, o + i * 3, none⟩) hlt).trans (hc i hi).1, (hb.cell (p := ⟨b, o + i * 3 + 1, none⟩) hlt).trans (hc i hi).2.1, (hb.cell (p := ⟨b, o + i * 3 + 2, none⟩) hlt).trans (hc i hi).2.2⟩⟩
theorem PerL.of_own {e : TypeId} {B : Nat} {w : World} {v : Value} {l : List Per} (h : w.ownsRow B e 3 v l.length (cellsQ l)) : PerL w v l := by
  cases l with
  | nil =>
    rcases h.2 with ⟨rfl, _⟩ | ⟨g, cap, cur, rfl, _⟩
    · exact ⟨none, 0, rfl, .inl rfl⟩
    · exact ⟨_, cap, rfl, .inl rfl⟩
  | cons x r =>
    obtain ⟨g, cap, rfl, _, hlt⟩ := h.form (by simp [cellsQ])
    have hadd : ∀ j, (⟨g, 0, none⟩ : Addr).add j = ⟨g, 0 + j, none⟩ := fun j => by unfold Addr.add; split <;> simp_all
    refine ⟨_, cap, rfl, .inr ⟨g, 0, rfl, hlt, fun i hi => ?_⟩⟩
    obtain ⟨a0, a1, a2⟩ := cellsQ_at (x :: r) i hi
    have h0 := h.cells (g := g) rfl _ _ a0
    have h1 := h.cells (g := g) rfl _ _ a1
    have h2 := h.cells (g := g) rfl _ _ a2
    rw [hadd] at h0 h1 h2
    exact ⟨h0, by rw [Nat.add_assoc]; exact h1, by rw [Nat.add_assoc]; exact h2⟩

/-- a row of numbers of the call's own -/
structure IOwn (e : TypeId) (B : Nat) (w : World) (v : Value) (l : List Int) : Prop where
  own : w.ownsRow B e 1 v l.length (l.map (Value.int .i64))
  base : B ≤ w.heap.size
theorem IOwn.nil {e : TypeId} {B : Nat} {w : World} (hB : B ≤ w.heap.size) : IOwn e B w (.slice none 0 0) [] := ⟨World.ownsRow_nil _ _ _ _, hB⟩
theorem IOwn.more {e : TypeId} {B : Nat} {w w' : World} {v : Value} {l : List Int} (h : IOwn e B w v l) (hb : Below w.heap.size w w') : IOwn e B w' v l := ⟨own_more h.own hb, Nat.le_trans h.base hb.size⟩
theorem IOwn.alloc {e : TypeId} {B : Nat} {w : World} {v : Value} {l : List Int} (h : IOwn e B w v l) (o : Obj) : IOwn e B (w.alloc o) v l := h.more (bel_alloc w o)
/-- a row of periods of the call's own -/
structure POwn (e : TypeId) (B : Nat) (w : World) (v : Value) (l : List Per) : Prop where
  own : w.ownsRow B e 3 v l.length (cellsQ l)
  base : B ≤ w.heap.size
theorem POwn.nil {e : TypeId} {B : Nat} {w : World} (hB : B ≤ w.heap.size) : POwn e B w (.slice none 0 0) [] := ⟨World.ownsRow_nil _ _ _ _, hB⟩
theorem POwn.more {e : TypeId} {B : Nat} {w w' : World} {v : Value} {l : List Per} (h : POwn e B w v l) (hb : Below w.heap.size w w') : POwn e B w' v l := ⟨own_more h.own hb, Nat.le_trans h.base hb.size⟩
theorem POwn.alloc {e : TypeId} {B : Nat} {w : World} {v : Value} {l : List Per} (h : POwn e B w v l) (o : Obj) : POwn e B (w.alloc o) v l := h.more (bel_alloc w o)

theorem info_int : (Try.prog.info? 3).map (fun i => (i.zero, i.size, i.bytes)) = some (some (.int .i64 0), 1, 8) := by kernel_rfl
section
/-- 'append(v, x)' for numbers: one way on -/
theorem wpList_iapp {B : Nat} {w : World} {ops : Array Oper} {rest : List Oper} {o : Oper} {a : Act} {Q : Exit → Act → World → Prop} (hgd : o.guard = none) (s x : Operand)
    (ho : o.op = .call { callee := .builtin .append, args := #[s, x], argTypes := #[64, 64] }) (v : Value) (l : List Int) (hs : a.eval s = v) (h0 : IOwn 3 B w v l)
    (b : Nat) (new : Int) (c : Nat) (hx : a.eval x = .slice (some ⟨b, 0, none⟩) 1 c) (hb : w.heap[b]? = some (.cells #[.int .i64 new] 3 (0, 0)))
    (hlim : l.length ≤ 1000000000)
    (h : ∀ v' w', IOwn 3 B w' v' (l ++ [new]) → Below B w w' → wpList Try.prog ops Q rest (a.put o.dst v') w') : wpList Try.prog ops Q (o :: rest) a w := by
  obtain ⟨i, hi, hz, hz1, hz2⟩ := info_parts info_int
  refine wpList_append_lies w hgd s x 64 ho B 3 i (.int .i64 0) 1 8 Try.underlying64 hi hz hz1 hz2 rfl (by omega) v l.length (l.map (Value.int .i64)) hs h0.own ⟨b, 0, none⟩ 1 c [.int .i64 new] hx
    rfl ?_ (by intro u hu; simp at hu; subst hu; rfl) (by omega) (by unfold maxLen; omega) (by omega) h0.base w.heap.size rfl ?_
  · exact World.news_of_block (cs := #[.int .i64 new]) hb
  · intro g cap w' hown hgrow _ _
    refine h _ _ ⟨?_, Nat.le_trans h0.base hgrow.size⟩ ((Below.refl B w).grown hgrow h0.base (own_below' h0.own))
    rw [List.map_append, List.length_append]
    exact hown
end

end Go.Proofs.Ytmmpalnalogfnaa.Per

/- Walks of the three loops over the days of a period: Count, Days, Normal. -/
namespace Go.Proofs.Ytmmpalnalogfnaa.Per
open Go.RowKit Go.Shelf
set_option linter.unusedSimpArgs false
set_option linter.unusedVariables false
attribute [local go_sem] Oper.semAt_some
attribute [local simp] wide_fn

/-- 'a block holds these cells' speaks of cells alone -/
theorem cells_own {β : Type} (B : Nat) (t : TypeId) (g : β → Array Value) : Own (fun s W => W.heap[B]? = some (.cells (g s) t (0, 0))) := fun s X Y row hs hg hrow =>
  (hg.block B (Array.getElem?_eq_some_iff.1 hs).1 (fun e' => by obtain ⟨o, ho, hc⟩ := hrow B e'.symm; rw [hs] at ho; cases ho; cases hc)).trans hs
theorem boxAt_own {β : Type} (B : Nat) (p : Per) : Own (fun (_ : β) W => BoxAt W B p) := cells_own B perT fun _ => #[.int .i64 p.1, .int .i64 p.2.1, .int .i64 p.2.2]
theorem zip_one (t : Array Value) (n : Nat) (v : Value) : Array.foldl (fun (t : Array Value) (x : Nat × Value) => t.setIfInBounds x.1 x.2) t (#[n].zip #[v]) = t.setIfInBounds n v := by simp
theorem BoxAt.set {W : World} {B B' : Nat} {p : Per} (h : BoxAt W B p) (hne : B ≠ B') (j : Nat) (u : Value) : BoxAt (W.setCell ⟨B', j, none⟩ u) B p := (Below.heap_setCell _ _ _ B hne).trans h

set_option maxRecDepth 100000 in
set_option maxHeartbeats 2000000 in
theorem count_in (p : Per) (w : World) : CallsIn Fence.wide 10 Try.prog 28 #[encQ p] w fun e W' => e = .returned (.int .i64 (daysQ p).length) ∧ Below w.heap.size w W' := by
  refine callsIn_of_wp_marks Try.func28 rfl trivial ?_ rfl
  simp only [Try.ntmps28, List.size_toArray, List.length_cons, List.length_nil, Nat.reduceAdd, Nat.reduceSub, Array.replicate_succ, Array.replicate_zero, List.push_toArray, List.append_toArray, List.nil_append, List.cons_append]
  gi_wp2_with (gi_at_call 55; refine (each_any p _).mono ?_; rintro e w' ⟨rfl, rfl⟩)
  obtain ⟨W0, hW0⟩ : ∃ W0, W0 = ((w.alloc (.cells #[.int .i64 p.1, .int .i64 p.2.1, .int .i64 p.2.2] perT)).alloc (.cells #[.int .i64 0] 3)).alloc (.cells #[.int .i64 p.1, .int .i64 p.2.1, .int .i64 p.2.2] perT) := ⟨_, rfl⟩
  have hsz : W0.heap.size = w.heap.size + 3 := by rw [hW0]; simp
  have bP : BoxAt W0 (w.heap.size + 1 + 1) p := by
    rw [hW0]
    have h := heap_alloc_new ((w.alloc (.cells #[.int .i64 p.1, .int .i64 p.2.1, .int .i64 p.2.2] perT)).alloc (.cells #[.int .i64 0] 3)) (.cells #[.int .i64 p.1, .int .i64 p.2.1, .int .i64 p.2.2] perT)
    simp only [World.size_alloc] at h
    exact h
  have bN : Boxed W0 (w.heap.size + 1) 3 (.int .i64 0) := by
    rw [hW0]
    have h := Boxed.new (w.alloc (.cells #[.int .i64 p.1, .int .i64 p.2.1, .int .i64 p.2.2] perT)) 3 (.int .i64 0)
    simp only [World.size_alloc] at h
    exact h.alloc _
  have hB0 : Below w.heap.size w W0 := by
    rw [hW0]
    exact (((Below.refl _ w).alloc (Nat.le_refl _) _).alloc (by simp) _).alloc (by simp; omega) _
  rw [show ((w.alloc (.cells #[.int .i64 p.1, .int .i64 p.2.1, .int .i64 p.2.2] perT)).alloc (.cells #[.int .i64 0] 3)).alloc (.cells #[.int .i64 p.1, .int .i64 p.2.1, .int .i64 p.2.2] perT) = W0 from hW0.symm]
  clear hW0
  refine wpIn_rangeFunc_ownG rfl (by omega) (gf := 77) (lb := #[.pointer (some ⟨w.heap.size + 1 + 1, 0, none⟩)]) rfl trivial (enters_of Try.func77 (by kernel_rfl) rfl)
    (each_stops (w.heap.size + 1 + 1) w.heap.size p W0 bP) kp_t (kp_b (by omega) (by omega)) (Below.refl _ _) (fun _ => rfl)
    (fun pre W => (Boxed W (w.heap.size + 1) 3 (.int .i64 (pre.length : Nat)) ∧ BoxAt W (w.heap.size + 1 + 1) p) ∧ Below w.heap.size w W)
    (fun _ _ _ => False)
    (OwnFrom.and (OwnFrom.and (Own.from (boxed_own _ _ (fun pre : List Dy => Value.int .i64 (pre.length : Nat))) _) (Own.from (boxAt_own _ p) _)) (ownFrom_below (Nat.le_refl _) (by omega)))
    (fun _ _ _ _ _ hs _ _ => hs)
    ⟨⟨bN, bP⟩, hB0⟩
    (fun x => { tmps := #[encQ p, .pointer (some ⟨w.heap.size, 0, none⟩), .int .i64 0, .pointer (some ⟨w.heap.size + 1, 0, none⟩), encQ p, .func (.func 77) #[] #[.pointer (some ⟨w.heap.size + 1 + 1, 0, none⟩)], .int .i64 x.1, undef, undef, undef], defers := [] }) ?assign ?body ?done ?stop
  case assign =>
    intro l x W K hK
    dsimp only [encD]
    gi_wp2
    rw [zip_one]
    exact hK
  case body =>
    rintro l pre x W ⟨⟨hv, hbp⟩, hB⟩ hlt
    have hc := hv.cell
    have hf := hv.frozen
    gi_wp2
    refine ⟨(KeepsOthers.setCell _ _ _).from _, ⟨(Below.refl w.heap.size W).setCell (p := ⟨w.heap.size + 1, 0, none⟩) (by simp) _, Below.heap_setCell _ _ _ _ (by simp)⟩, ⟨?_, hbp.set (by simp) 0 _⟩, hB.setCell (p := ⟨w.heap.size + 1, 0, none⟩) (by simp) _⟩
    rw [List.length_append, List.length_singleton]
    exact hv.set _
  case done =>
    rintro D ys W hD hys ⟨⟨hv, hbp⟩, hB⟩ hK
    have hc := hv.cell
    gi_wp2
    refine ⟨by simp, .inl ⟨_, _, rfl, run_takeDeferred hK, ?_⟩⟩
    exact ⟨_, results_tmp rfl _ _ _, by rw [← hys, vals_len]; rfl, hB.trans (belowK_b (w := w) (Nat.le_refl _) W D _ _ (by omega) hK rfl rfl)⟩
  case stop =>
    rintro D c pre W _ _ h _
    exact h.elim

end Go.Proofs.Ytmmpalnalogfnaa.Per

/- Walks of calendar.Day and calendar.Date. -/
namespace Go.Proofs.Ytmmpalnalogfnaa
open Go.RowKit
set_option linter.unusedSimpArgs false
set_option linter.unusedVariables false

/-- the array of the days of the months as a value of which only the cells are known -/
theorem months_of (y : Int) (w : World) (h0 : 2000 ≤ y) (h1 : y ≤ 2100) {A : Array Value} (hA : Hid (A = lensA y)) :
    Calls Try.prog 76 #[.int .i64 y] w fun e w' => e = .returned (.agg A) ∧ Below w.heap.size w w' :=
  (months_any y w h0 h1).mono (by
    rintro e w' ⟨rfl, rfl⟩
    exact ⟨by rw [hA.out], ((Below.refl _ _).alloc (Nat.le_refl _) _).alloc (by show w.heap.size ≤ (w.heap.push _).size; rw [Array.size_push]; omega) _⟩)
abbrev zeros : Array Value := #[.int .i64 0, .int .i64 0, .int .i64 0, .int .i64 0, .int .i64 0, .int .i64 0, .int .i64 0, .int .i64 0, .int .i64 0, .int .i64 0, .int .i64 0, .int .i64 0]
theorem info_months : (Try.prog.info? 108).map (·.size) = some 12 := by kernel_rfl
theorem store_months {y : Int} {A : Array Value} (hA : Hid (A = lensA y)) (w : World) :
    (storeCells ⟨w.heap.size, 0, none⟩ A.toList 0).run Try.prog (w.alloc (.cells zeros 108)) = .ok () (w.alloc (.cells A 108)) := by
  have e := hA.out
  subst e
  exact run_storeCells_new w _ zeros (lensA y) info_months rfl (by simp [lensA, Value.oneCell'])
theorem month_at {y : Int} {A : Array Value} (hA : Hid (A = lensA y)) (i : Nat) (h : i < 12) : A[i]? = some (.int .i64 (lenP y ((i : Int) + 1))) := by rw [hA.out]; exact lensA_at y i h
theorem month_size {y : Int} {A : Array Value} (hA : Hid (A = lensA y)) : A.size = 12 := by rw [hA.out]; rfl

set_option maxRecDepth 100000 in
set_option maxHeartbeats 1000000 in
theorem date_any (n : Int) (w : World) : Calls Try.prog 53 #[.int .i64 n] w fun e w' => e = .returned (.tuple #[.int .i64 (dateR n).1, .int .i64 (dateR n).2.1, .int .i64 (dateR n).2.2]) ∧ Below w.heap.size w w' := by
  cases hd : isDayB n
  · have HR : Hid (dateR n = (0, 0, 0)) := Lib.hid (date_out hd)
    go_enter Try.func53, Try.ntmps53
    go_wp2_with (go_at_call 52; refine (isDay_any _ _).mono ?_; rintro e w' ⟨rfl, rfl⟩)
    go_ret3
    exact ⟨by rw [HR.out]; rfl, Below.refl _ _⟩
  · have hn : 0 ≤ n ∧ n < 36525 := by simpa [isDayB] using hd
    have hy : 2000 ≤ yOf n ∧ yOf n ≤ 2099 := by unfold yOf; omega
    have HY := Lib.hid (yOf_in n)
    have hE : 2000 + 4 * n / 1461 = yOf n := rfl
    obtain ⟨y, hy1⟩ : ∃ y, yOf n = y := ⟨_, rfl⟩
    rw [hy1] at hy HY hE
    have HY1 := Lib.hid hy1
    clear hy1
    obtain ⟨A, hA⟩ : ∃ A, Hid (A = lensA y) := ⟨_, Lib.hid rfl⟩
    have hst := store_months hA
    have hsz := month_size hA
    have hY : 0 ≤ ysP y ∧ ysP y ≤ n ∧ n - ysP y ≤ 365 := by
      have a := HY.out
      have b := ys_next y
      have c := bef_all y
      have d := lp_two y
      have e := ys_mono 2000 y (by omega)
      rw [ys_first] at e
      omega
    have hY2 : Hid (n - ysP y < befP y 13) := Lib.hid (by have a := HY.out; have b := ys_next y; omega)
    go_enter Try.func53, Try.ntmps53
    go_wp2_with (first | (go_at_call 52; refine (isDay_any _ _).mono ?_; rintro e w' ⟨rfl, rfl⟩) | (go_at_call 75; refine (yearStart_any _ _ (by omega) (by omega)).mono ?_; rintro e w' ⟨rfl, rfl⟩) | (go_at_call 76; refine (months_of _ _ (by omega) (by omega) hA).mono ?_; rintro e wl ⟨rfl, hb⟩))
    go_loopw [6, 7, 9, 23] (fun vm vr v9 vi wr => ∃ (k : Nat) (r : Int), k ≤ 11 ∧ vi = .int .i64 k ∧ vm = .int .i64 ((k : Int) + 1) ∧ vr = .int .i64 r ∧ 0 ≤ r ∧ r ≤ 365 ∧ Hid (r = n - ysP y - befP y (k + 1)) ∧ ∃ c, wr = (wl.alloc (.cells A 108)).drewN c) (fun _ _ _ i _ => 11 - (intOf i).toNat)
    case atStart => exact ⟨0, n - ysP y, by omega, rfl, rfl, rfl, by omega, by omega, Lib.hid (by have := bef_one y; simp only [Int.natCast_zero, Int.zero_add, this]; omega), 0, rfl⟩
    case round =>
      obtain ⟨k, r, hk, rfl, rfl, rfl, r0, r1, HK, c, rfl⟩ := hrel
      by_cases hlt : k < 11
      · have hk2 : A[k]? = some (.int .i64 (lenP y ((k : Int) + 1))) := month_at hA k (by omega)
        have i1 : (k : Int) < 11 := by omega
        have i2 : k < 12 := by omega
        have i3 : (k : Int) < 12 := by omega
        have hb2 := len_range y ((k : Int) + 1)
        have HN := Lib.hid (bef_next y ((k : Int) + 1) (by omega) (by omega))
        obtain ⟨x, hx⟩ : ∃ x, Hid (x = lenP y ((k : Int) + 1)) := ⟨_, Lib.hid rfl⟩
        have hk3 : ∀ h : k < A.size, A[k]'h = .int .i64 (lenP y ((k : Int) + 1)) := fun h => by
          have e := hk2
          rw [Array.getElem?_eq_getElem h] at e
          injection e
        rw [← hx.out] at hk2 hk3 hb2
        by_cases hr : r < x
        · have HR : Hid (dateR n = (y, (k : Int) + 1, r + 1)) := Lib.hid (by
            have a := hx.out
            have b := HK.out
            exact date_of (ok_mk (by omega)) (by unfold numP; omega))
          go_wp2
          go_ret3
          exact ⟨by rw [HR.out]; rfl, below_drewN (hb.alloc hb.size _) _⟩
        · go_wp2
          go_quiet (fail)
          go_wp2
          go_roundw
          case rel => exact ⟨k + 1, r - x, by omega, by go_num, by go_num, rfl, by omega, by omega, Lib.hid (by have := HK.out; have := HN.out; have := hx.out; push_cast; omega), _, rfl⟩
          case measure => simp [intOf]; omega
      · have e : k = 11 := by omega
        have HR : Hid (dateR n = (y, 12, r + 1)) := Lib.hid (by
          subst e
          have a := hY2.out
          have b := HK.out
          have c : befP y 13 = befP y 12 + lenP y 12 := bef_next y 12 (by omega) (by omega)
          have d : ((11 : Nat) : Int) + 1 = 12 := rfl
          rw [d] at b
          exact date_of (ok_mk (by omega)) (by unfold numP; omega))
        subst e
        go_wp2
        go_ret3
        exact ⟨by rw [HR.out]; rfl, below_drewN (hb.alloc hb.size _) _⟩

end Go.Proofs.Ytmmpalnalogfnaa

/- Walks of the reference's Length, Day and Date. -/
namespace Go.Proofs.Ytmmpalnalogfnaa
open Go.RowKit
set_option linter.unusedSimpArgs false
set_option linter.unusedVariables false

set_option maxHeartbeats 1000000 in
theorem rlen_any (y m : Int) (w : World) (h0 : 0 ≤ y) (h1 : y ≤ 3000) : Calls Try.prog 74 #[.int .i64 y, .int .i64 m] w fun e w' => e = .returned (.int .i64 (lenP y m)) ∧ w = w' := by
  by_cases c : m = 4 ∨ m = 6 ∨ m = 9 ∨ m = 11
  · have HR : Hid (lenP y m = 30) := Lib.hid (by rw [lenP, if_pos c])
    rcases c with rfl | rfl | rfl | rfl
    all_goals
      go_enter Try.func74, Try.ntmps74
      go_wp2
      go_ret
      exact ⟨by rw [HR.out]; rfl, rfl⟩
  have a1 : (m == 4) = false := by rw [beq_eq_false_iff_ne]; omega
  have a2 : (m == 6) = false := by rw [beq_eq_false_iff_ne]; omega
  have a3 : (m == 9) = false := by rw [beq_eq_false_iff_ne]; omega
  have a4 : (m == 11) = false := by rw [beq_eq_false_iff_ne]; omega
  by_cases c2 : m = 2
  · subst c2
    by_cases c3 : y % 4 = 0
    · have HR : Hid (lenP y 2 = 29) := Lib.hid (by simp [lenP, c3])
      go_enter Try.func74, Try.ntmps74
      go_wp2
      go_ret
      exact ⟨by rw [HR.out]; rfl, rfl⟩
    · have HR : Hid (lenP y 2 = 28) := Lib.hid (by simp [lenP, c3])
      go_enter Try.func74, Try.ntmps74
      go_wp2
      go_ret
      exact ⟨by rw [HR.out]; rfl, rfl⟩
  · have HR : Hid (lenP y m = 31) := Lib.hid (by rw [lenP, if_neg c, if_neg c2])
    have a5 : (m == 2) = false := by rw [beq_eq_false_iff_ne]; exact c2
    clear c c2
    go_enter Try.func74, Try.ntmps74
    go_wp2
    go_ret
    exact ⟨by rw [HR.out]; rfl, rfl⟩

set_option maxRecDepth 100000 in
set_option maxHeartbeats 1000000 in
theorem rdate_any (n : Int) (w : World) : Calls Try.prog 48 #[.int .i64 n] w fun e w' => e = .returned (.tuple #[.int .i64 (dateR n).1, .int .i64 (dateR n).2.1, .int .i64 (dateR n).2.2]) ∧ w = w' := by
  by_cases hn : 0 ≤ n ∧ n < 36525
  · go_enter Try.func48, Try.ntmps48
    go_wp2
    go_loop [0, 5, 6] (fun vr vy vm => ∃ (y m r : Int), 2000 ≤ y ∧ y ≤ 2099 ∧ 1 ≤ m ∧ m ≤ 12 ∧ 0 ≤ r ∧ r ≤ 36525 ∧ vy = .int .i64 y ∧ vm = .int .i64 m ∧ vr = .int .i64 r ∧ Hid (n = ysP y + befP y m + r)) (fun vr _ _ => (intOf vr).toNat)
    case atStart => exact ⟨2000, 1, n, by omega, by omega, by omega, by omega, by omega, by omega, rfl, rfl, rfl, Lib.hid (by rw [ys_first, bef_one]; omega)⟩
    case round =>
      obtain ⟨y, m, r, y0, y1, m0, m1, r0, r1, rfl, rfl, rfl, HK⟩ := hrel
      obtain ⟨x, hx⟩ : ∃ x, Hid (x = lenP y m) := ⟨_, Lib.hid rfl⟩
      have hb2 := len_range y m
      rw [← hx.out] at hb2
      have CX : Hid (∀ w, Calls Try.prog 74 #[.int .i64 y, .int .i64 m] w fun e w' => e = .returned (.int .i64 x) ∧ w = w') := Lib.hid (fun w => by rw [hx.out]; exact rlen_any y m w (by omega) (by omega))
      by_cases hr : x ≤ r
      · have HN := Lib.hid (bef_next y m m0 m1)
        by_cases hm : m = 12
        · have HK2 : Hid (n = ysP (y + 1) + befP (y + 1) 1 + (r - x)) := Lib.hid (by
            have a := HK.out
            have b := HN.out
            have c := ys_next y
            have e := hx.out
            have f := bef_one (y + 1)
            subst hm
            have g : befP y 13 = befP y 12 + lenP y 12 := b
            omega)
          have hy2 : y + 1 ≤ 2099 := by
            have a := HK2.out
            have f := bef_one (y + 1)
            by_cases c : y + 1 ≤ 2099
            · exact c
            · have := ys_mono 2100 (y + 1) (by omega)
              rw [ys_last] at this
              omega
          subst hm
          go_wp2_with (go_at_call 74; refine (CX.out _).mono ?_; rintro e w' ⟨rfl, rfl⟩)
          go_round
          case rel => exact ⟨y + 1, 1, r - x, by omega, hy2, by omega, by omega, by omega, by omega, rfl, rfl, rfl, HK2⟩
          case measure => simp [intOf]; omega
        · have HK2 : Hid (n = ysP y + befP y (m + 1) + (r - x)) := Lib.hid (by
            have a := HK.out
            have b := HN.out
            have e := hx.out
            omega)
          have hm2 : (m + 1 == 13) = false := by rw [beq_eq_false_iff_ne]; omega
          have hm3 : m ≤ 11 := by omega
          clear hm
          go_wp2_with (go_at_call 74; refine (CX.out _).mono ?_; rintro e w' ⟨rfl, rfl⟩)
          go_round
          case rel => exact ⟨y, m + 1, r - x, by omega, by omega, by omega, by omega, by omega, by omega, rfl, rfl, rfl, HK2⟩
          case measure => simp [intOf]; omega
      · have HR : Hid (dateR n = (y, m, r + 1)) := Lib.hid (by
          have a := hx.out
          have b := HK.out
          exact date_of (ok_mk (by omega)) (by unfold numP; omega))
        go_wp2_with (go_at_call 74; refine (CX.out _).mono ?_; rintro e w' ⟨rfl, rfl⟩)
        go_ret3
        exact ⟨by rw [HR.out]; rfl, rfl⟩
  · have HR : Hid (dateR n = (0, 0, 0)) := Lib.hid (date_out (by simpa [isDayB] using hn))
    by_cases h0 : n < 0
    · clear hn
      go_enter Try.func48, Try.ntmps48
      go_wp2
      go_ret3
      exact ⟨by rw [HR.out]; rfl, rfl⟩
    · have h1 : 36525 ≤ n := by omega
      clear hn
      go_enter Try.func48, Try.ntmps48
      go_wp2
      go_ret3
      exact ⟨by rw [HR.out]; rfl, rfl⟩

end Go.Proofs.Ytmmpalnalogfnaa

/- Walks of Print and Clock, beside the reference's; of the tests and numbers of digits. -/
namespace Go.Proofs.Ytmmpalnalogfnaa
open Go.RowKit
set_option linter.unusedSimpArgs false
set_option linter.unusedVariables false

theorem mk_app (a b : List UInt8) : (⟨a.toArray⟩ : ByteArray) ++ ⟨b.toArray⟩ = ⟨(a ++ b).toArray⟩ := by
  apply ByteArray.ext
  simp [ByteArray.data_append]
theorem two_acc (n : Int) (w w1 : World) (h0 : 0 ≤ n) (h1 : n ≤ 99) (hb : Below w.heap.size w w1) :
    Calls Try.prog 54 #[.int .i64 n] w1 fun e w' => e = .returned (.string ⟨(twoL n).toArray⟩) ∧ Below w.heap.size w w' :=
  (two_any n w1 h0 h1).mono (by rintro e w' ⟨rfl, h⟩; exact ⟨rfl, hb.trans (h.mono hb.size)⟩)
theorem rtwo_acc (n : Int) (w w1 : World) (h0 : 0 ≤ n) (h1 : n ≤ 99) (hb : Below w.heap.size w w1) :
    Calls Try.prog 49 #[.int .i64 n] w1 fun e w' => e = .returned (.string ⟨(twoL n).toArray⟩) ∧ Below w.heap.size w w' :=
  (rtwo_any n w1 h0 h1).mono (by rintro e w' ⟨rfl, h⟩; exact ⟨rfl, hb.trans (h.mono hb.size)⟩)

set_option maxHeartbeats 1000000 in
theorem print_any (n : Int) (w : World) : Calls Try.prog 27 #[.int .i64 n] w fun e w' => e = .returned (.string ⟨(printL n).toArray⟩) ∧ Below w.heap.size w w' := by
  cases hd : isDayB n
  · have HR : Hid (printL n = []) := Lib.hid (by simp [printL, hd])
    go_enter Try.func27, Try.ntmps27
    go_wp2_with (go_at_call 52; refine (isDay_any _ _).mono ?_; rintro e w' ⟨rfl, rfl⟩)
    go_ret
    exact ⟨by rw [HR.out]; rfl, Below.refl _ _⟩
  · have hD := (date_in hd).1
    obtain ⟨y, m, d, hR⟩ : ∃ y m d, dateR n = (y, m, d) := ⟨_, _, _, rfl⟩
    rw [hR] at hD
    have CD : Hid (∀ w, Calls Try.prog 53 #[.int .i64 n] w fun e w' => e = .returned (.tuple #[.int .i64 y, .int .i64 m, .int .i64 d]) ∧ Below w.heap.size w w') := Lib.hid (fun w => by have h := date_any n w; rw [hR] at h; exact h)
    have HR : Hid (printL n = dateL y m d) := Lib.hid (by rw [printL, if_pos hd, hR])
    obtain ⟨y0, y1, m0, m1, d0, d1⟩ : 2000 ≤ y ∧ y ≤ 2099 ∧ 1 ≤ m ∧ m ≤ 12 ∧ 1 ≤ d ∧ d ≤ lenP y m := ok_yes hD
    have hl := len_range y m
    clear hR hD
    have d2 : d ≤ 31 := by omega
    clear hl d1
    go_enter Try.func27, Try.ntmps27
    go_wp2_with (first | (go_at_call 54; refine (two_acc _ w _ (by omega) (by omega) hb).mono ?_; rintro e w' ⟨rfl, hb⟩) | (go_at_call 53; refine (CD.out _).mono ?_; rintro e w' ⟨rfl, hb⟩) | (go_at_call 52; refine (isDay_any _ _).mono ?_; rintro e w' ⟨rfl, rfl⟩))
    go_ret
    exact ⟨by rw [HR.out]; simp only [dateL, ← mk_app]; rfl, hb⟩
set_option maxHeartbeats 1000000 in
theorem rprint_any (n : Int) (w : World) : Calls Try.prog 23 #[.int .i64 n] w fun e w' => e = .returned (.string ⟨(printL n).toArray⟩) ∧ Below w.heap.size w w' := by
  have hb : Below w.heap.size w w := Below.refl _ _
  cases hd : isDayB n
  · have HR : Hid (printL n = []) := Lib.hid (by simp [printL, hd])
    have CD : Hid (∀ w, Calls Try.prog 48 #[.int .i64 n] w fun e w' => e = .returned (.tuple #[.int .i64 0, .int .i64 0, .int .i64 0]) ∧ w = w') := Lib.hid (fun w => by have h := rdate_any n w; rw [date_out hd] at h; exact h)
    go_enter Try.func23, Try.ntmps23
    go_wp2_with (go_at_call 48; refine (CD.out _).mono ?_; rintro e w' ⟨rfl, rfl⟩)
    go_ret
    exact ⟨by rw [HR.out]; rfl, hb⟩
  · have hD := (date_in hd).1
    obtain ⟨y, m, d, hR⟩ : ∃ y m d, dateR n = (y, m, d) := ⟨_, _, _, rfl⟩
    rw [hR] at hD
    have CD : Hid (∀ w, Calls Try.prog 48 #[.int .i64 n] w fun e w' => e = .returned (.tuple #[.int .i64 y, .int .i64 m, .int .i64 d]) ∧ w = w') := Lib.hid (fun w => by have h := rdate_any n w; rw [hR] at h; exact h)
    have HR : Hid (printL n = dateL y m d) := Lib.hid (by rw [printL, if_pos hd, hR])
    obtain ⟨y0, y1, m0, m1, d0, d1⟩ : 2000 ≤ y ∧ y ≤ 2099 ∧ 1 ≤ m ∧ m ≤ 12 ∧ 1 ≤ d ∧ d ≤ lenP y m := ok_yes hD
    have hl := len_range y m
    clear hR hD
    have d2 : d ≤ 31 := by omega
    have hy : (y == 0) = false := by rw [beq_eq_false_iff_ne]; omega
    clear hl d1
    go_enter Try.func23, Try.ntmps23
    go_wp2_with (first | (go_at_call 49; refine (rtwo_acc _ w _ (by omega) (by omega) hb).mono ?_; rintro e w' ⟨rfl, hb⟩) | (go_at_call 48; refine (CD.out _).mono ?_; rintro e w' ⟨rfl, rfl⟩))
    go_ret
    exact ⟨by rw [HR.out]; simp only [dateL, ← mk_app]; rfl, hb⟩
end Go.Proofs.Ytmmpalnalogfnaa

/- Walks of digits and Print. -/
namespace Go.Proofs.Ytmmpalnalogfnaa.Per
open Go.RowKit
set_option linter.unusedSimpArgs false
set_option linter.unusedVariables false

/-- the digits of the weekdays, of the first k -/
def digTo (d k : Nat) : List UInt8 := ((List.range k).filter fun i => d.testBit i).map fun i => UInt8.ofNat (49 + i)
def digL (d : Int) : List UInt8 := digTo d.toNat 7
theorem print_len10 (n : Int) : (printL n).length ≤ 10 := by
  unfold printL
  split
  · simp [dateL, twoL]
  · simp
/-- a period as text -/
def perL (p : Per) : List UInt8 := if okQ p then printL p.1 ++ [47] ++ printL p.2.1 ++ [47] ++ digL p.2.2 else []
end Go.Proofs.Ytmmpalnalogfnaa.Per

/- Walk of checkTimes. -/
namespace Go.Proofs.Ytmmpalnalogfnaa
open Go.RowKit Go.Shelf
set_option linter.unusedSimpArgs false
set_option linter.unusedVariables false

def dayW : ByteArray := ⟨#[100, 97, 121, 32]⟩
/-- the first day whose times are not ordered -/
def badD (l : List Air) (lg : List Lg) : List Int → List Flt
  | [] => []
  | d :: r => if ordT true 0 (timL l lg d) then badD l lg r else [(13, dayW ++ ⟨(printL d).toArray⟩)]
def timF (l : List Air) (f : FV) : List Flt := badD l f.lg (Per.daysQ (f.pf, f.pt, f.pd))
theorem badD_at {l : List Air} {lg : List Lg} {D : List Int} {k : Nat} (h : k < D.length) : badD l lg (D.drop k) = if ordT true 0 (timL l lg D[k]) then badD l lg (D.drop (k + 1)) else [(13, dayW ++ ⟨(printL D[k]).toArray⟩)] := by
  rw [List.drop_eq_getElem_cons h]
  rfl
theorem days_bd {q : Int × Int × Int} {d : Int} (h : d ∈ Per.daysQ q) : 0 ≤ d ∧ d < 36525 := by
  have h1 := (Per.hasQ_iff _ _).1 ((Per.daysQ_mem _ _).1 h)
  have h2 := Per.okQ_yes h1.1
  omega
end Go.Proofs.Ytmmpalnalogfnaa

/- Walk of flight.Check. -/
namespace Go.Proofs.Ytmmpalnalogfnaa
open Go.RowKit Go.Shelf
set_option linter.unusedSimpArgs false
set_option linter.unusedVariables false

theorem LegL.take {w : World} {A : Option Addr} {n c : Nat} {l : List Lg} (h : LegL w (.slice A n c) l) (k : Nat) : LegL w (.slice A (l.take k).length c) (l.take k) := by
  obtain ⟨A', c', e, h⟩ := h
  cases e
  refine ⟨A, c, rfl, ?_⟩
  rcases h with h | ⟨b, o, h1, h2, h3⟩
  · exact .inl (by simp [h])
  · refine .inr ⟨b, o, h1, h2, fun i x j u hi hu => h3 i x j u ?_ hu⟩
    rw [List.getElem?_take] at hi
    split at hi
    · exact hi
    · cases hi
def carW : ByteArray := ⟨#[99, 97, 114, 114, 105, 101, 114]⟩
def numW : ByteArray := ⟨#[110, 117, 109, 98, 101, 114]⟩
def perW : ByteArray := ⟨#[112, 101, 114, 105, 111, 100]⟩
def lgsW : ByteArray := ⟨#[108, 101, 103, 115]⟩
def legW : ByteArray := ⟨#[108, 101, 103, 32]⟩
def hdF (f : FV) : List Flt := pick carW [if (!carB f.car) = true then 5 else 0] ++ (pick numW [if (!numB f.num) = true then 2 else 0] ++ pick perW [Per.errQ (f.pf, f.pt, f.pd)])
def lgEs (l : List Air) (before : List Lg) (x : Lg) : List Int :=
  [if (!codeB x.eq 3 3) = true then 5 else 0, if (!((findC l x.f).isSome && (findC l x.t).isSome)) = true then 14 else 0, if (!nextB before x) = true then 15 else 0, if (!(minB x.dep && minB x.arr)) = true then 2 else 0]
def lgsF (l : List Air) (lg : List Lg) (k : Nat) : List Flt := (List.range k).flatMap fun i => match lg[i]? with
  | some x => pick (legW ++ decA i) (lgEs l (lg.take i) x)
  | none => []
theorem lgsF_succ (l : List Air) (lg : List Lg) (k : Nat) (x : Lg) (h : lg[k]? = some x) : lgsF l lg (k + 1) = lgsF l lg k ++ pick (legW ++ decA k) (lgEs l (lg.take k) x) := by
  simp [lgsF, List.range_succ, h]
theorem lgsF_le (l : List Air) (lg : List Lg) : ∀ k, (lgsF l lg k).length ≤ 4 * k
  | 0 => by simp [lgsF]
  | k + 1 => by
    have ih := lgsF_le l lg k
    have e : lgsF l lg (k + 1) = lgsF l lg k ++ (match lg[k]? with | some x => pick (legW ++ decA k) (lgEs l (lg.take k) x) | none => []) := by simp [lgsF, List.range_succ]
    rw [e, List.length_append]
    cases lg[k]? with
    | none => simp; omega
    | some x =>
      have := pick_le (legW ++ decA k) (lgEs l (lg.take k) x)
      simp only [lgEs, List.length_cons, List.length_nil] at this ⊢
      omega
def wh (b : Bool) (e : Int) : Int := if b = true then e else 0
theorem hdF_le (f : FV) : (hdF f).length ≤ 3 := by
  unfold hdF
  have h1 := pick_le carW [if (!carB f.car) = true then 5 else 0]
  have h2 := pick_le numW [if (!numB f.num) = true then 2 else 0]
  have h3 := pick_le perW [Per.errQ (f.pf, f.pt, f.pd)]
  rw [List.length_append, List.length_append]
  simp only [List.length_cons, List.length_nil] at h1 h2 h3
  omega
def chF (l : List Air) (f : FV) : List Flt := if cntB f.lg.length = true then (if (hdF f ++ lgsF l f.lg f.lg.length).length = 0 then timF l f else hdF f ++ lgsF l f.lg f.lg.length) else hdF f ++ pick lgsW [4]

end Go.Proofs.Ytmmpalnalogfnaa

/- Walk of checkPrint. -/
namespace Go.Proofs.Ytmmpalnalogfnaa
open Go.RowKit Go.Shelf
set_option linter.unusedSimpArgs false
set_option linter.unusedVariables false

end Go.Proofs.Ytmmpalnalogfnaa

/- Plain facts on quoted texts and lines: lists of bytes alone; nothing of the program. -/
namespace Go.Proofs.Ytmmpalnalogfnaa

/-- a byte that is written in hexadecimal digits, one that is written behind a backslash -/
def hxB (c : UInt8) : Bool := decide ((c.toNat : Int) < 32 ∨ 126 < (c.toNat : Int))
/-- the value of a hexadecimal digit, or -1 -/
def hexV (c : UInt8) : Int := if 48 ≤ c.toNat ∧ c.toNat ≤ 57 then (c.toNat : Int) - 48 else if 97 ≤ c.toNat ∧ c.toNat ≤ 102 then (c.toNat : Int) - 87 else -1
/-- the byte that two hexadecimal digits say, and its width: 0 if Quote doesn't write it so -/
def hexB (a b : UInt8) : UInt8 := UInt8.ofNat (16 * hexV a + hexV b).toNat
def hb2 (a b : UInt8) : UInt8 × Nat := if hexV a < 0 ∨ hexV b < 0 then (0, 0) else if hxB (hexB a b) then (hexB a b, 4) else (0, 0)
end Go.Proofs.Ytmmpalnalogfnaa

/- Walks of Quote, of its reference, and of their parts. -/
namespace Go.Proofs.Ytmmpalnalogfnaa
open Go.RowKit
set_option linter.unusedSimpArgs false
set_option linter.unusedVariables false

end Go.Proofs.Ytmmpalnalogfnaa

/- Walks of Unquote, of its reference, and of their parts. -/
namespace Go.Proofs.Ytmmpalnalogfnaa
open Go.RowKit
set_option linter.unusedSimpArgs false
set_option linter.unusedVariables false

def lenOf : Value → Nat
  | .string r => r.size
  | _ => 0

end Go.Proofs.Ytmmpalnalogfnaa

/- strings.Builder's WriteByte and WriteString at this translation (the shelf's contracts for them do not lie here: one branch of copyCheck is refused by the loader). The walks follow the shelf's own. -/
namespace Go.Proofs.Ytmmpalnalogfnaa
open Go.RowKit
set_option linter.unusedSimpArgs false
set_option linter.unusedVariables false

end Go.Proofs.Ytmmpalnalogfnaa

/- Walks of isPlain, word, Join. -/
namespace Go.Proofs.Ytmmpalnalogfnaa
open Go.RowKit
set_option linter.unusedSimpArgs false
set_option linter.unusedVariables false

end Go.Proofs.Ytmmpalnalogfnaa

/- Plain facts on flights as text. -/
namespace Go.Proofs.Ytmmpalnalogfnaa
open Go.RowKit Go.Shelf
set_option linter.unusedSimpArgs false
set_option linter.unusedVariables false

def perT (f : FV) : ByteArray := ⟨(Per.perL (f.pf, f.pt, f.pd)).toArray⟩
theorem cnt_bd {n : Nat} (h : cntB n = true) : 1 ≤ n ∧ n ≤ 6 := by simpa [cntB] using h
theorem min_bd {n : Int} (h : minB n = true) : -1440 ≤ n ∧ n ≤ 5759 := by simpa [minB] using h
end Go.Proofs.Ytmmpalnalogfnaa

/- Walk of checkDistances, whatever there is to report. -/
namespace Go.Proofs.Ytmmpalnalogfnaa
open Go.RowKit Go.Shelf Go.Maps
set_option linter.unusedSimpArgs false
set_option linter.unusedVariables false

end Go.Proofs.Ytmmpalnalogfnaa

/- Walk of the law's sample. -/
namespace Go.Proofs.Ytmmpalnalogfnaa
open Go.RowKit Go.Shelf
set_option linter.unusedSimpArgs false
set_option linter.unusedVariables false

def cellsA (l : List Air) : List Value := l.flatMap fun a => [.string a.code, .string a.city, .string a.land, .int .i64 a.off, .slice a.A a.shs.length a.c]
theorem cellsA_at : ∀ (l : List Air) (i : Nat) (a : Air), l[i]? = some a → (cellsA l)[i * 5]? = some (.string a.code) ∧ (cellsA l)[i * 5 + 1]? = some (.string a.city) ∧ (cellsA l)[i * 5 + 2]? = some (.string a.land) ∧ (cellsA l)[i * 5 + 3]? = some (.int .i64 a.off) ∧ (cellsA l)[i * 5 + 4]? = some (.slice a.A a.shs.length a.c)
  | [], i, a, h => by simp at h
  | x :: r, 0, a, h => by simp at h; subst h; simp [cellsA]
  | x :: r, i + 1, a, h => by
    have ih := cellsA_at r i a (by simpa using h)
    have e : cellsA (x :: r) = .string x.code :: .string x.city :: .string x.land :: .int .i64 x.off :: .slice x.A x.shs.length x.c :: cellsA r := by simp [cellsA]
    rw [e, show (i + 1) * 5 = i * 5 + 1 + 1 + 1 + 1 + 1 by omega, show i * 5 + 1 + 1 + 1 + 1 + 1 + 1 = (i * 5 + 1) + 1 + 1 + 1 + 1 + 1 by omega, show i * 5 + 1 + 1 + 1 + 1 + 1 + 2 = (i * 5 + 2) + 1 + 1 + 1 + 1 + 1 by omega, show i * 5 + 1 + 1 + 1 + 1 + 1 + 3 = (i * 5 + 3) + 1 + 1 + 1 + 1 + 1 by omega, show i * 5 + 1 + 1 + 1 + 1 + 1 + 4 = (i * 5 + 4) + 1 + 1 + 1 + 1 + 1 by omega]
    simp only [List.getElem?_cons_succ]
    exact ih
def cellsD (l : List Dst) : List Value := l.flatMap fun a => [.string a.f, .string a.t, .int .i64 a.m]
theorem cellsD_at : ∀ (l : List Dst) (i : Nat) (a : Dst), l[i]? = some a → (cellsD l)[i * 3]? = some (.string a.f) ∧ (cellsD l)[i * 3 + 1]? = some (.string a.t) ∧ (cellsD l)[i * 3 + 2]? = some (.int .i64 a.m)
  | [], i, a, h => by simp at h
  | x :: r, 0, a, h => by simp at h; subst h; simp [cellsD]
  | x :: r, i + 1, a, h => by
    have ih := cellsD_at r i a (by simpa using h)
    have e : cellsD (x :: r) = .string x.f :: .string x.t :: .int .i64 x.m :: cellsD r := by simp [cellsD]
    rw [e, show (i + 1) * 3 = i * 3 + 1 + 1 + 1 by omega, show i * 3 + 1 + 1 + 1 + 1 = (i * 3 + 1) + 1 + 1 + 1 by omega, show i * 3 + 1 + 1 + 1 + 2 = (i * 3 + 2) + 1 + 1 + 1 by omega]
    simp only [List.getElem?_cons_succ]
    exact ih
theorem AirL.new (w : World) (l : List Air) (h : ∀ a ∈ l, a.shs = []) : AirL (w.alloc (.cells (cellsA l).toArray airT)) (some ⟨w.heap.size, 0, none⟩) l := by
  refine .inr ⟨w.heap.size, 0, rfl, by simp, fun i a hi => ?_⟩
  obtain ⟨c0, c1, c2, c3, c4⟩ := cellsA_at l i a hi
  refine ⟨?_, ?_, ?_, ?_, ?_, .inl (h a (List.mem_of_getElem? hi))⟩
  all_goals rw [cells_new, List.getElem?_toArray]
  · rw [Nat.zero_add]; exact c0
  · rw [Nat.zero_add]; exact c1
  · rw [Nat.zero_add]; exact c2
  · rw [Nat.zero_add]; exact c3
  · rw [Nat.zero_add]; exact c4
theorem DstL.new (w : World) (l : List Dst) : DstL (w.alloc (.cells (cellsD l).toArray dstT)) (some ⟨w.heap.size, 0, none⟩) l := by
  refine .inr ⟨w.heap.size, 0, rfl, by simp, fun i a hi => ?_⟩
  obtain ⟨c0, c1, c2⟩ := cellsD_at l i a hi
  refine ⟨?_, ?_, ?_⟩
  all_goals rw [cells_new, List.getElem?_toArray]
  · rw [Nat.zero_add]; exact c0
  · rw [Nat.zero_add]; exact c1
  · rw [Nat.zero_add]; exact c2
end Go.Proofs.Ytmmpalnalogfnaa

/- Walk of Check of places. -/
namespace Go.Proofs.Ytmmpalnalogfnaa
open Go.RowKit Go.Shelf
set_option linter.unusedSimpArgs false
set_option linter.unusedVariables false

theorem chk_nil {p : PV} (h : chkP p = []) : (∀ (k : Nat) (a : Air), p.l[k]? = some a → okE (airE (p.l.take k) a) = []) := by
  intro k a hk
  have h1 : airF p.l p.l.length = [] := (List.append_eq_nil_iff.1 h).1
  unfold airF at h1
  rw [List.flatMap_eq_nil_iff] at h1
  have := h1 k (List.mem_range.2 (List.getElem?_eq_some_iff.1 hk).1)
  rw [hk] at this
  unfold pick at this
  exact List.map_eq_nil_iff.1 this

end Go.Proofs.Ytmmpalnalogfnaa

/- Plain facts on flights without violations. -/
namespace Go.Proofs.Ytmmpalnalogfnaa
open Go.RowKit Go.Shelf
set_option linter.unusedSimpArgs false
set_option linter.unusedVariables false

/-- places without violations have zones without violations -/
theorem chk_okZ {p : PV} (h : chkP p = []) : ∀ a ∈ p.l, OkZ a.off a.shs := by
  intro a ha
  obtain ⟨k, hk⟩ := List.getElem?_of_mem ha
  have h1 := chk_nil h k a hk
  have h2 := List.filter_eq_nil_iff.1 h1 (errZ a.off a.shs) (by simp [airE])
  exact errZ_ok (by simpa using h2)
theorem chk_few {p : PV} (h : chkP p = []) : ∀ a ∈ p.l, a.shs.length ≤ 300 := fun a ha => Nat.le_trans (chk_okZ h a ha).len (by omega)
/-- without a violation of legs all times are in bounds, and each leg continues those before it -/
theorem lgs_at {l : List Air} {lg : List Lg} (h : lgsF l lg lg.length = []) {k : Nat} {x : Lg} (hk : lg[k]? = some x) : okE (lgEs l (lg.take k) x) = [] := by
  have hlt := (List.getElem?_eq_some_iff.1 hk).1
  unfold lgsF at h
  have h2 := List.flatMap_eq_nil_iff.1 h k (List.mem_range.2 hlt)
  rw [hk] at h2
  simpa [pick] using h2
theorem lgs_times {l : List Air} {lg : List Lg} (h : lgsF l lg lg.length = []) {x : Lg} (hx : x ∈ lg) : (-1000000 ≤ x.dep ∧ x.dep ≤ 1000000) ∧ -1000000 ≤ x.arr ∧ x.arr ≤ 1000000 := by
  obtain ⟨k, hk⟩ := List.getElem?_of_mem hx
  have h3 := lgs_at h hk
  have h4 : (if (!(minB x.dep && minB x.arr)) = true then (2 : Int) else 0) = 0 := by
    have := List.filter_eq_nil_iff.1 h3 (if (!(minB x.dep && minB x.arr)) = true then (2 : Int) else 0) (by simp [lgEs])
    simpa using this
  cases h5 : minB x.dep <;> cases h6 : minB x.arr <;> rw [h5, h6] at h4 <;> simp at h4
  have m1 := min_bd h5
  have m2 := min_bd h6
  omega
theorem chF_nil {l : List Air} {f : FV} (h : chF l f = []) : cntB f.lg.length = true ∧ hdF f = [] ∧ lgsF l f.lg f.lg.length = [] ∧ timF l f = [] := by
  unfold chF at h
  by_cases hc : cntB f.lg.length = true
  · rw [if_pos hc] at h
    by_cases h0 : (hdF f ++ lgsF l f.lg f.lg.length).length = 0
    · rw [if_pos h0] at h
      have h1 := List.eq_nil_of_length_eq_zero h0
      exact ⟨hc, (List.append_eq_nil_iff.1 h1).1, (List.append_eq_nil_iff.1 h1).2, h⟩
    · rw [if_neg h0] at h
      rw [h] at h0
      exact absurd rfl h0
  · rw [if_neg hc] at h
    have := (List.append_eq_nil_iff.1 h).2
    simp [pick, okE] at this
theorem badD_all {l : List Air} {lg : List Lg} : ∀ {D : List Int}, badD l lg D = [] → ∀ d ∈ D, ordT true 0 (timL l lg d) = true
  | [], _, d, hd => by simp at hd
  | e :: r, h, d, hd => by
    unfold badD at h
    cases ho : ordT true 0 (timL l lg e)
    · rw [ho] at h; simp at h
    · rw [ho] at h
      rcases List.mem_cons.1 hd with rfl | hd
      · exact ho
      · exact badD_all (by simpa using h) d hd
theorem ordT_all : ∀ (L : List (Int × Int)) (first : Bool) (before : Int), ordT first before L = true → ∀ (k : Nat) (d a : Int), L[k]? = some (d, a) → d < a ∧ (k = 0 → first = false → before ≤ d) ∧ (∀ d' a', k ≠ 0 → L[k - 1]? = some (d', a') → a' ≤ d)
  | [], _, _, _, k, d, a, hk => by simp at hk
  | (d0, a0) :: r, first, before, h, k, d, a, hk => by
    unfold ordT at h
    by_cases h1 : a0 ≤ d0
    · rw [if_pos h1] at h; cases h
    rw [if_neg h1] at h
    by_cases h2 : first = false ∧ d0 < before
    · rw [if_pos h2] at h; cases h
    rw [if_neg h2] at h
    match k, hk with
    | 0, hk =>
      simp at hk
      obtain ⟨rfl, rfl⟩ := hk
      exact ⟨by omega, fun _ hf => by by_cases h3 : d0 < before; exact absurd ⟨hf, h3⟩ h2; omega, fun _ _ h0 => absurd rfl h0⟩
    | k + 1, hk =>
      have hk2 : r[k]? = some (d, a) := by simpa using hk
      obtain ⟨r1, r2, r3⟩ := ordT_all r false a0 h k d a hk2
      refine ⟨r1, fun h0 => by omega, fun d' a' _ hy => ?_⟩
      match k, r2, r3, hy with
      | 0, r2, r3, hy =>
        simp at hy
        obtain ⟨rfl, rfl⟩ := hy
        exact r2 rfl rfl
      | j + 1, r2, r3, hy => exact r3 d' a' (by omega) (by simpa using hy)
/-- on a day of a flight without violations the times of its legs are ordered -/
theorem chF_ord {l : List Air} {f : FV} (h : chF l f = []) {day : Int} (hd : Per.hasQ (f.pf, f.pt, f.pd) day = true) {k : Nat} {x : Lg} (hk : f.lg[k]? = some x) :
    depL l x day < arrL l x day ∧ (∀ y, k ≠ 0 → f.lg[k - 1]? = some y → arrL l y day ≤ depL l x day) := by
  have h1 := (chF_nil h).2.2.2
  have h2 := badD_all h1 day ((Per.daysQ_mem _ _).2 hd)
  have h3 := ordT_all _ _ _ h2 k (depL l x day) (arrL l x day) (by unfold timL; rw [List.getElem?_map, hk]; rfl)
  exact ⟨h3.1, fun y h0 hy => h3.2.2 (depL l y day) (arrL l y day) h0 (by unfold timL; rw [List.getElem?_map, hy]; rfl)⟩

end Go.Proofs.Ytmmpalnalogfnaa

/- Walk of Legs. -/
namespace Go.Proofs.Ytmmpalnalogfnaa
open Go.RowKit Go.Shelf
set_option linter.unusedSimpArgs false
set_option linter.unusedVariables false

/-- a leg on a day -/
structure Dt where
  car : ByteArray
  num : Int
  day : Int
  f : ByteArray
  t : ByteArray
  dep : Int
  arr : Int
  eq : ByteArray
abbrev datT : TypeId := 50
def encDt (d : Dt) : List Value := [.string d.car, .int .i64 d.num, .int .i64 d.day, .string d.f, .string d.t, .int .i64 d.dep, .int .i64 d.arr, .string d.eq]
theorem rtD : RT Try.prog 36 datT 8 encDt where
  ht := Try.underlying36
  info := ⟨.agg #[.string noB, .int .i64 0, .int .i64 0, .string noB, .string noB, .int .i64 0, .int .i64 0, .string noB], 96, by kernel_rfl, rfl, by omega⟩
  len x := rfl
  one x u hu := by simp [encDt] at hu; rcases hu with rfl | rfl | rfl | rfl | rfl | rfl | rfl | rfl <;> rfl
  pos := by omega
def datL (l : List Air) (f : FV) (day : Int) (x : Lg) : Dt := ⟨f.car, f.num, day, x.f, x.t, depL l x day, arrL l x day, x.eq⟩
def legE (f : FV) (day : Int) : Int := if Per.hasQ (f.pf, f.pt, f.pd) day then 0 else 12
def legF (l : List Air) (f : FV) (day : Int) : List Dt := if Per.hasQ (f.pf, f.pt, f.pd) day then f.lg.map (datL l f day) else []
theorem has_bd {q : Int × Int × Int} {d : Int} (h : Per.hasQ q d = true) : 0 ≤ d ∧ d < 36525 := days_bd ((Per.daysQ_mem _ _).2 h)

set_option maxRecDepth 100000 in
set_option maxHeartbeats 8000000 in
theorem legs_any (p : PV) (f : FV) (day : Int) (w : World) (hl : p.l.length ≤ 40) (hL : AirL w p.A p.l) (hs : ∀ a ∈ p.l, a.shs.length ≤ 300) (hz : ∀ a ∈ p.l, OkZ a.off a.shs) (hG : LegL w (.slice f.A f.lg.length f.c) f.lg) (hn : f.lg.length ≤ 100)
    (hm : ∀ x ∈ f.lg, (-1000000 ≤ x.dep ∧ x.dep ≤ 1000000) ∧ -1000000 ≤ x.arr ∧ x.arr ≤ 1000000) (hd1 : -9223372036854775808 ≤ day) (hd2 : day ≤ 9223372036854775807) :
    Calls Try.prog 8 #[encP p, encFl f, .int .i64 day] w fun e w' => ∃ v, e = .returned (.tuple #[v, .int .i64 (legE f day)]) ∧ ROwn datT 8 encDt w.heap.size w' v (legF p.l f day) ∧ Below w.heap.size w w' := by
  have hb1 := bel_alloc w (.cells #[.slice p.A p.l.length p.ca, .slice p.D p.ds.length p.cd] placesT)
  have hb2 := bel_alloc (w.alloc (.cells #[.slice p.A p.l.length p.ca, .slice p.D p.ds.length p.cd] placesT)) (.cells #[.string f.car, .int .i64 f.num, .int .i64 f.pf, .int .i64 f.pt, .int .i64 f.pd, .slice f.A f.lg.length f.c] fliT)
  have hb0 := hb1.trans (hb2.mono hb1.size)
  have p0 := bel_cell hb2 ((cells_new w #[.slice p.A p.l.length p.ca, .slice p.D p.ds.length p.cd] placesT 0).trans (show _ = some (.slice p.A p.l.length p.ca) from rfl))
  have p1 := bel_cell hb2 ((cells_new w #[.slice p.A p.l.length p.ca, .slice p.D p.ds.length p.cd] placesT 1).trans (show _ = some (.slice p.D p.ds.length p.cd) from rfl))
  have q0 := (cells_new (w.alloc (.cells #[.slice p.A p.l.length p.ca, .slice p.D p.ds.length p.cd] placesT)) #[.string f.car, .int .i64 f.num, .int .i64 f.pf, .int .i64 f.pt, .int .i64 f.pd, .slice f.A f.lg.length f.c] fliT 0).trans (show _ = some (.string f.car) from rfl)
  have q1 := (cells_new (w.alloc (.cells #[.slice p.A p.l.length p.ca, .slice p.D p.ds.length p.cd] placesT)) #[.string f.car, .int .i64 f.num, .int .i64 f.pf, .int .i64 f.pt, .int .i64 f.pd, .slice f.A f.lg.length f.c] fliT 1).trans (show _ = some (.int .i64 f.num) from rfl)
  have q5 := (cells_new (w.alloc (.cells #[.slice p.A p.l.length p.ca, .slice p.D p.ds.length p.cd] placesT)) #[.string f.car, .int .i64 f.num, .int .i64 f.pf, .int .i64 f.pt, .int .i64 f.pd, .slice f.A f.lg.length f.c] fliT 5).trans (show _ = some (.slice f.A f.lg.length f.c) from rfl)
  rw [World.size_alloc] at q0 q1 q5
  have HZ := Lib.hid hz
  have HM := Lib.hid hm
  have KH := Lib.hid (fun w => Per.has_any f.pf f.pt f.pd day w hd1 hd2)
  cases hh : Per.hasQ (f.pf, f.pt, f.pd) day with
  | false =>
    have HE : Hid (legE f day = 12 ∧ legF p.l f day = []) := Lib.hid ⟨by rw [legE, hh]; rfl, by rw [legF, hh]; rfl⟩
    rw [hh] at KH
    clear hh hz hm
    go_enter Try.func8, Try.ntmps8
    go_wp2_with (go_at_call 6; refine (KH.out _).mono ?_; rintro e w1 ⟨rfl, hbh⟩)
    have h1 := hb0.trans (Below.mono hbh hb0.size)
    exact bodyPost_ret (results_tmp2 rfl _ _ _) rfl ⟨_, by rw [HE.out.1]; rfl, by rw [HE.out.2]; exact ROwn.nil h1.size, h1⟩
  | true =>
    have hdb := has_bd hh
    have HE : Hid (legE f day = 0 ∧ legF p.l f day = f.lg.map (datL p.l f day)) := Lib.hid ⟨by rw [legE, hh]; rfl, by rw [legF, hh]; rfl⟩
    rw [hh] at KH
    have KN := Lib.hid (fun w hA hG => nonstops_any p f.A f.c f.lg w hl hA hs hG hn)
    have HL := Lib.hid (hL.more hb0)
    have HG := Lib.hid (hG.more hb0)
    have HD := Lib.hid hdb
    clear hh hz hm hL hG hd1 hd2 hdb
    go_enter Try.func8, Try.ntmps8
    go_wp2_with (first | (go_at_call 29; refine (KN.out _ (HL.out.more hbh) (HG.out.more hbh)).mono ?_; rintro e w2 ⟨v1, N1, rfl, hv1, hLn, hN, hbn⟩; obtain ⟨A1, c1, rfl, hvc⟩ := id (hv1.rowL rtN.len); rw [hLn]) | (go_at_call 6; refine (KH.out _).mono ?_; rintro e w1 ⟨rfl, hbh⟩; have r0 := bel_cell hbh p0; have r1 := bel_cell hbh p1; have r5 := bel_cell hbh q5))
    have hS0 : Below w.heap.size w w2 := hb0.trans ((hbh.mono hb0.size).trans (hbn.mono (Nat.le_trans hb0.size hbh.size)))
    have HV := Lib.hid (hv1.rowL rtN.len)
    have HN := Lib.hid hN
    have HLn := Lib.hid hLn
    have c0 := bel_cell hbn (bel_cell hbh q0)
    have c1' := bel_cell hbn (bel_cell hbh q1)
    have hsz : w.heap.size + 2 ≤ w2.heap.size := by have h1 := hbh.size; have h2 := hbn.size; rw [World.size_alloc, World.size_alloc] at h1; omega
    have HNil : Hid (ROwn datT 8 encDt w2.heap.size w2 (.slice none 0 0) []) := Lib.hid (ROwn.nil (Nat.le_refl _))
    clear hv1 hN hLn hvc KN KH q0 q1 q5 p0 p1 r0 r1 r5
    go_loopg [8, 21] f.lg.length (fun kx v8 vi wr => ∃ (v : Value) (k : Nat), v = v8 ∧ vi = .int .i64 k ∧ k + kx = f.lg.length ∧ Hid (ROwn datT 8 encDt w2.heap.size wr v ((f.lg.take k).map (datL p.l f day)) ∧ SW w2 wr))
    case atStart => exact ⟨_, 0, rfl, rfl, by omega, Lib.hid ⟨HNil.out, Below.refl _ _⟩⟩
    case round =>
      obtain ⟨v, k, rfl, rfl, hkx, HH⟩ := hrel
      clear HNil
      have HKX := Lib.hid hkx
      have hSr : SW w2 wr := HH.out.2
      by_cases hlt : k < f.lg.length
      · clear hkx
        obtain ⟨x, hx⟩ : ∃ x, f.lg[k]? = some x := ⟨_, List.getElem?_eq_getElem hlt⟩
        obtain ⟨b, o, n, e1, hbl, hnk, hc⟩ := RowL.get9 (HV.out.more hSr) (show k < N1.length by have := HLn.out; omega)
        cases e1
        have hns := HN.out k x n hx hnk
        have hzf := okZ_of HZ.out x.f
        have hzt := okZ_of HZ.out x.t
        have hmx := HM.out x (List.mem_of_getElem? hx)
        have hdb := HD.out
        obtain ⟨dd, hdd⟩ : ∃ dd, dd = utcZ n.fo n.fs (day * 1440 + n.x.dep) := ⟨_, rfl⟩
        obtain ⟨aa, haa⟩ : ∃ aa, aa = utcZ n.ti n.ts (day * 1440 + n.x.arr) := ⟨_, rfl⟩
        have HX : Hid (datL p.l f day x = (⟨f.car, f.num, day, n.x.f, n.x.t, dd, aa, n.x.eq⟩ : Dt)) := Lib.hid (by unfold datL depL arrL; rw [hdd, haa, hns.fo, hns.fs, hns.ti, hns.ts, hns.ex])
        have HTk : Hid ((f.lg.take (k + 1)).map (datL p.l f day) = (f.lg.take k).map (datL p.l f day) ++ [(⟨f.car, f.num, day, n.x.f, n.x.t, dd, aa, n.x.eq⟩ : Dt)]) := Lib.hid (by
          rw [List.take_add_one, hx, List.map_append, ← HX.out]; rfl)
        have hO := HH.out.1
        have HLL : Hid (((f.lg.take k).map (datL p.l f day)).length ≤ 100000000) := Lib.hid (by have := List.length_take_le k f.lg; rw [List.length_map]; omega)
        have HV1 : Hid (∀ g, v.ownBlock = some g → w2.heap.size ≤ g ∧ g < wr.heap.size) := Lib.hid (fun g hg => hO.low hg)
        have hvf : v.ownBlock ≠ some (w.heap.size + 1) := fun h => by have := (HV1.out _ h).1; omega
        have hvn : v.ownBlock ≠ some wr.heap.size := fun h => by have := (HV1.out _ h).2; omega
        have hb6 := bel_alloc wr (.cells (encNS n).toArray nonT)
        have g0 : ∀ W, SX (wr.alloc (.cells (encNS n).toArray nonT)) v W → W.cell? ⟨w.heap.size + 1, 0, none⟩ = some (.string f.car) := fun W h => SX.cell (bel_cell hb6 (bel_cell hSr c0)) hvf h
        have g1 : ∀ W, SX (wr.alloc (.cells (encNS n).toArray nonT)) v W → W.cell? ⟨w.heap.size + 1, 1, none⟩ = some (.int .i64 f.num) := fun W h => SX.cell (bel_cell hb6 (bel_cell hSr c1')) hvf h
        have n0 : ∀ W, SX (wr.alloc (.cells (encNS n).toArray nonT)) v W → W.cell? ⟨wr.heap.size, 0, none⟩ = some (Value.string n.x.f) := fun W h => SX.cell ((cells_new wr (encNS n).toArray nonT 0).trans (show _ = some (Value.string n.x.f) from rfl)) hvn h
        have n1 : ∀ W, SX (wr.alloc (.cells (encNS n).toArray nonT)) v W → W.cell? ⟨wr.heap.size, 1, none⟩ = some (Value.string n.x.t) := fun W h => SX.cell ((cells_new wr (encNS n).toArray nonT 1).trans (show _ = some (Value.string n.x.t) from rfl)) hvn h
        have n2 : ∀ W, SX (wr.alloc (.cells (encNS n).toArray nonT)) v W → W.cell? ⟨wr.heap.size, 2, none⟩ = some (Value.int .i64 n.x.dep) := fun W h => SX.cell ((cells_new wr (encNS n).toArray nonT 2).trans (show _ = some (Value.int .i64 n.x.dep) from rfl)) hvn h
        have n3 : ∀ W, SX (wr.alloc (.cells (encNS n).toArray nonT)) v W → W.cell? ⟨wr.heap.size, 3, none⟩ = some (Value.int .i64 n.x.arr) := fun W h => SX.cell ((cells_new wr (encNS n).toArray nonT 3).trans (show _ = some (Value.int .i64 n.x.arr) from rfl)) hvn h
        have n4 : ∀ W, SX (wr.alloc (.cells (encNS n).toArray nonT)) v W → W.cell? ⟨wr.heap.size, 4, none⟩ = some (Value.string n.x.eq) := fun W h => SX.cell ((cells_new wr (encNS n).toArray nonT 4).trans (show _ = some (Value.string n.x.eq) from rfl)) hvn h
        have n5 : ∀ W, SX (wr.alloc (.cells (encNS n).toArray nonT)) v W → W.cell? ⟨wr.heap.size, 5, none⟩ = some (Value.int .i64 n.fo) := fun W h => SX.cell ((cells_new wr (encNS n).toArray nonT 5).trans (show _ = some (Value.int .i64 n.fo) from rfl)) hvn h
        have n6 : ∀ W, SX (wr.alloc (.cells (encNS n).toArray nonT)) v W → W.cell? ⟨wr.heap.size, 6, none⟩ = some (Value.slice n.fA n.fs.length n.fc) := fun W h => SX.cell ((cells_new wr (encNS n).toArray nonT 6).trans (show _ = some (Value.slice n.fA n.fs.length n.fc) from rfl)) hvn h
        have n7 : ∀ W, SX (wr.alloc (.cells (encNS n).toArray nonT)) v W → W.cell? ⟨wr.heap.size, 7, none⟩ = some (Value.int .i64 n.ti) := fun W h => SX.cell ((cells_new wr (encNS n).toArray nonT 7).trans (show _ = some (Value.int .i64 n.ti) from rfl)) hvn h
        have n8 : ∀ W, SX (wr.alloc (.cells (encNS n).toArray nonT)) v W → W.cell? ⟨wr.heap.size, 8, none⟩ = some (Value.slice n.tA n.ts.length n.tc) := fun W h => SX.cell ((cells_new wr (encNS n).toArray nonT 8).trans (show _ = some (Value.slice n.tA n.ts.length n.tc) from rfl)) hvn h
        have HSW : Hid (∀ W, SX (wr.alloc (.cells (encNS n).toArray nonT)) v W → Below w2.heap.size w2 W) := Lib.hid (fun W h => Below.trans hSr (((hb6.mono hSr.size)).trans (h.below (Nat.le_trans hSr.size hb6.size) (fun k' hk' hv => by have := (HV1.out _ hv).1; omega))))
        have K1 : Hid (∀ W, SX (wr.alloc (.cells (encNS n).toArray nonT)) v W → Calls Try.prog 30 #[encN n, .int .i64 day] W fun e w' => e = .returned (.int .i64 dd) ∧ Below W.heap.size W w') :=
          Lib.hid (fun W hW => by rw [hdd]; exact departure_any n day W (by rw [hns.fo, hns.fs]; exact hzf) (hns.shf.1.more (HSW.out W hW)) (by omega) (by rw [hns.ex]; exact hmx.1))
        have K2 : Hid (∀ W, SX (wr.alloc (.cells (encNS n).toArray nonT)) v W → Calls Try.prog 31 #[encN n, .int .i64 day] W fun e w' => e = .returned (.int .i64 aa) ∧ Below W.heap.size W w') :=
          Lib.hid (fun W hW => by rw [haa]; exact arrival_any n day W (by rw [hns.ti, hns.ts]; exact hzt) (hns.sht.1.more (HSW.out W hW)) (by omega) (by rw [hns.ex]; exact hmx.2))
        have i2 : (k : Int) < (f.lg.length : Int) := by omega
        have z0 := hc 0 _ rfl
        have z1 := hc 1 _ rfl
        have z2 := hc 2 _ rfl
        have z3 := hc 3 _ rfl
        have z4 := hc 4 _ rfl
        have z5 := hc 5 _ rfl
        have z6 := hc 6 _ rfl
        have z7 := hc 7 _ rfl
        have z8 := hc 8 _ rfl
        rw [Nat.add_zero] at z0
        have hO := hO.more (hb6.trans ((Below.refl _ (wr.alloc (.cells (encNS n).toArray nonT))).drew.mono hb6.size))
        clear hns hx hnk hc hzf hzt hmx hdd haa hdb HX
        unfold encNS at *
        go_upto_region 7 with (fail)
        generalize hw6 : wr.alloc (.cells [.string n.x.f, .string n.x.t, .int .i64 n.x.dep, .int .i64 n.x.arr, .string n.x.eq, .int .i64 n.fo, .slice n.fA n.fs.length n.fc, .int .i64 n.ti, .slice n.tA n.ts.length n.tc].toArray nonT) = w6 at *
        have hS : (SX w6 v) _ := But.of_below (Below.refl _ _).drew
        refine wp_region_held_drew (S := SX w6 v) (by kernel_rfl) hS (fun _ => ?_)
        refine wpAnyH_take (i := 0) (v := ?vL0) rfl (by kernel_rfl) (by kernel_rfl) (by kernel_rfl) (fun _ _ _ h => h) (Or.inl ⟨by rfl, ?hyL0⟩) hS ?restL0
        case hyL0 =>
          intro w hSw
          first | (go_simp; done) | (go_simp; with_reducible rfl)
        try simp only [Act.put, List.setIfInBounds_toArray, List.set_cons_zero, List.set_cons_succ]
        refine wpAnyH_take (i := 1) (v := ?vL1) rfl (by kernel_rfl) (by kernel_rfl) (by kernel_rfl) (fun _ _ _ h => h) (Or.inl ⟨by rfl, ?hyL1⟩) hS ?restL1
        case hyL1 =>
          intro w hSw
          first | (go_simp; done) | (go_simp; with_reducible rfl)
        try simp only [Act.put, List.setIfInBounds_toArray, List.set_cons_zero, List.set_cons_succ]
        refine wpAnyH_take (i := 2) (v := ?vL2) rfl (by kernel_rfl) (by kernel_rfl) (by kernel_rfl) (fun _ _ _ h => h) (Or.inl ⟨by rfl, ?hyL2⟩) hS ?restL2
        case hyL2 =>
          intro w hSw
          have k0 := g0 w hSw; have k1 := g1 w hSw; have k2 := n0 w hSw; have k3 := n1 w hSw; have k4 := n2 w hSw; have k5 := n3 w hSw; have k6 := n4 w hSw; have k7 := n5 w hSw; have k8 := n6 w hSw; have k9 := n7 w hSw; have k10 := n8 w hSw
          first | (go_simp; done) | (go_simp; with_reducible rfl)
        try simp only [Act.put, List.setIfInBounds_toArray, List.set_cons_zero, List.set_cons_succ]
        refine wpAnyH_take (i := 3) (v := ?vL3) rfl (by kernel_rfl) (by kernel_rfl) (by kernel_rfl) (fun _ _ _ h => h) (Or.inl ⟨by rfl, ?hyL3⟩) hS ?restL3
        case hyL3 =>
          intro w hSw
          first | (go_simp; done) | (go_simp; with_reducible rfl)
        try simp only [Act.put, List.setIfInBounds_toArray, List.set_cons_zero, List.set_cons_succ]
        refine wpAnyH_take (i := 4) (v := ?vL4) rfl (by kernel_rfl) (by kernel_rfl) (by kernel_rfl) (fun _ _ _ h => h) (Or.inl ⟨by rfl, ?hyL4⟩) hS ?restL4
        case hyL4 =>
          intro w hSw
          have k0 := g0 w hSw; have k1 := g1 w hSw; have k2 := n0 w hSw; have k3 := n1 w hSw; have k4 := n2 w hSw; have k5 := n3 w hSw; have k6 := n4 w hSw; have k7 := n5 w hSw; have k8 := n6 w hSw; have k9 := n7 w hSw; have k10 := n8 w hSw
          first | (go_simp; done) | (go_simp; with_reducible rfl)
        try simp only [Act.put, List.setIfInBounds_toArray, List.set_cons_zero, List.set_cons_succ]
        refine wpAnyH_take (i := 5) (v := ?vL5) rfl (by kernel_rfl) (by kernel_rfl) (by kernel_rfl) (fun _ _ _ h => h) (Or.inl ⟨by rfl, ?hyL5⟩) hS ?restL5
        case hyL5 =>
          intro w hSw
          first | (go_simp; done) | (go_simp; with_reducible rfl)
        try simp only [Act.put, List.setIfInBounds_toArray, List.set_cons_zero, List.set_cons_succ]
        refine wpAnyH_take (i := 6) (v := ?vL6) rfl (by kernel_rfl) (by kernel_rfl) (by kernel_rfl) (fun _ _ _ h => h) (Or.inl ⟨by rfl, ?hyL6⟩) hS ?restL6
        case hyL6 =>
          intro w hSw
          first | (go_simp; done) | (go_simp; with_reducible rfl)
        try simp only [Act.put, List.setIfInBounds_toArray, List.set_cons_zero, List.set_cons_succ]
        refine wpAnyH_take (i := 7) (v := ?vL7) rfl (by kernel_rfl) (by kernel_rfl) (by kernel_rfl) (fun _ _ _ h => h) (Or.inl ⟨by rfl, ?hyL7⟩) hS ?restL7
        case hyL7 =>
          intro w hSw
          first | (go_simp; done) | (go_simp; with_reducible rfl)
        try simp only [Act.put, List.setIfInBounds_toArray, List.set_cons_zero, List.set_cons_succ]
        refine wpAnyH_take (i := 8) (v := ?vL8) rfl (by kernel_rfl) (by kernel_rfl) (by kernel_rfl) (fun _ _ _ h => h) (Or.inl ⟨by rfl, ?hyL8⟩) hS ?restL8
        case hyL8 =>
          intro w hSw
          have k0 := g0 w hSw; have k1 := g1 w hSw; have k2 := n0 w hSw; have k3 := n1 w hSw; have k4 := n2 w hSw; have k5 := n3 w hSw; have k6 := n4 w hSw; have k7 := n5 w hSw; have k8 := n6 w hSw; have k9 := n7 w hSw; have k10 := n8 w hSw
          first | (go_simp; done) | (go_simp; with_reducible rfl)
        try simp only [Act.put, List.setIfInBounds_toArray, List.set_cons_zero, List.set_cons_succ]
        refine wpAnyH_take (i := 9) (v := ?vL9) rfl (by kernel_rfl) (by kernel_rfl) (by kernel_rfl) (fun _ _ _ h => h) (Or.inl ⟨by rfl, ?hyL9⟩) hS ?restL9
        case hyL9 =>
          intro w hSw
          first | (go_simp; done) | (go_simp; with_reducible rfl)
        try simp only [Act.put, List.setIfInBounds_toArray, List.set_cons_zero, List.set_cons_succ]
        refine wpAnyH_take (i := 10) (v := ?vL10) rfl (by kernel_rfl) (by kernel_rfl) (by kernel_rfl) (fun _ _ _ h => h) (Or.inl ⟨by rfl, ?hyL10⟩) hS ?restL10
        case hyL10 =>
          intro w hSw
          first | (go_simp; done) | (go_simp; with_reducible rfl)
        try simp only [Act.put, List.setIfInBounds_toArray, List.set_cons_zero, List.set_cons_succ]
        refine wpAnyH_take (i := 11) (v := ?vL11) rfl (by kernel_rfl) (by kernel_rfl) (by kernel_rfl) (fun _ _ _ h => h) (Or.inl ⟨by rfl, ?hyL11⟩) hS ?restL11
        case hyL11 =>
          intro w hSw
          have k0 := g0 w hSw; have k1 := g1 w hSw; have k2 := n0 w hSw; have k3 := n1 w hSw; have k4 := n2 w hSw; have k5 := n3 w hSw; have k6 := n4 w hSw; have k7 := n5 w hSw; have k8 := n6 w hSw; have k9 := n7 w hSw; have k10 := n8 w hSw
          first | (go_simp; done) | (go_simp; with_reducible rfl)
        try simp only [Act.put, List.setIfInBounds_toArray, List.set_cons_zero, List.set_cons_succ]
        refine wpAnyH_take (i := 12) (v := ?vL12) rfl (by kernel_rfl) (by kernel_rfl) (by kernel_rfl) (fun _ _ _ h => h) (Or.inl ⟨by rfl, ?hyL12⟩) hS ?restL12
        case hyL12 =>
          intro w hSw
          have k0 := g0 w hSw; have k1 := g1 w hSw; have k2 := n0 w hSw; have k3 := n1 w hSw; have k4 := n2 w hSw; have k5 := n3 w hSw; have k6 := n4 w hSw; have k7 := n5 w hSw; have k8 := n6 w hSw; have k9 := n7 w hSw; have k10 := n8 w hSw
          first | (go_simp; done) | (go_simp; with_reducible rfl)
        try simp only [Act.put, List.setIfInBounds_toArray, List.set_cons_zero, List.set_cons_succ]
        refine wpAnyH_take (i := 13) (v := ?vL13) rfl (by kernel_rfl) (by kernel_rfl) (by kernel_rfl) (fun _ _ _ h => h) (Or.inl ⟨by rfl, ?hyL13⟩) hS ?restL13
        case hyL13 =>
          intro w hSw
          first | (go_simp; done) | (go_simp; with_reducible rfl)
        try simp only [Act.put, List.setIfInBounds_toArray, List.set_cons_zero, List.set_cons_succ]
        refine wpAnyH_take (i := 15) (v := ?vL15) rfl (by kernel_rfl) (by kernel_rfl) (by kernel_rfl) (fun _ _ _ h => h) (Or.inl ⟨by rfl, ?hyL15⟩) hS ?restL15
        case hyL15 =>
          intro w hSw
          have k0 := g0 w hSw; have k1 := g1 w hSw; have k2 := n0 w hSw; have k3 := n1 w hSw; have k4 := n2 w hSw; have k5 := n3 w hSw; have k6 := n4 w hSw; have k7 := n5 w hSw; have k8 := n6 w hSw; have k9 := n7 w hSw; have k10 := n8 w hSw
          first | (go_simp; done) | (go_simp; with_reducible rfl)
        try simp only [Act.put, List.setIfInBounds_toArray, List.set_cons_zero, List.set_cons_succ]
        refine wpAnyH_take (i := 16) (v := ?vL16) rfl (by kernel_rfl) (by kernel_rfl) (by kernel_rfl) (fun _ _ _ h => h) (Or.inl ⟨by rfl, ?hyL16⟩) hS ?restL16
        case hyL16 =>
          intro w hSw
          first | (go_simp; done) | (go_simp; with_reducible rfl)
        try simp only [Act.put, List.setIfInBounds_toArray, List.set_cons_zero, List.set_cons_succ]
        refine wpAnyH_take (i := 18) (v := ?vL18) rfl (by kernel_rfl) (by kernel_rfl) (by kernel_rfl) (fun _ _ _ h => h) (Or.inl ⟨by rfl, ?hyL18⟩) hS ?restL18
        case hyL18 =>
          intro w hSw
          first | (go_simp; done) | (go_simp; with_reducible rfl)
        try simp only [Act.put, List.setIfInBounds_toArray, List.set_cons_zero, List.set_cons_succ]
        refine wpAnyH_take (i := 19) (v := ?vL19) rfl (by kernel_rfl) (by kernel_rfl) (by kernel_rfl) (fun _ _ _ h => h) (Or.inl ⟨by rfl, ?hyL19⟩) hS ?restL19
        case hyL19 =>
          intro w hSw
          first | (go_simp; done) | (go_simp; with_reducible rfl)
        try simp only [Act.put, List.setIfInBounds_toArray, List.set_cons_zero, List.set_cons_succ]
        refine wpAnyH_take (i := 20) (v := ?vL20) rfl (by kernel_rfl) (by kernel_rfl) (by kernel_rfl) (fun _ _ _ h => h) (Or.inl ⟨by rfl, ?hyL20⟩) hS ?restL20
        case hyL20 =>
          intro w hSw
          have k0 := g0 w hSw; have k1 := g1 w hSw; have k2 := n0 w hSw; have k3 := n1 w hSw; have k4 := n2 w hSw; have k5 := n3 w hSw; have k6 := n4 w hSw; have k7 := n5 w hSw; have k8 := n6 w hSw; have k9 := n7 w hSw; have k10 := n8 w hSw
          first | (go_simp; done) | (go_simp; with_reducible rfl)
        try simp only [Act.put, List.setIfInBounds_toArray, List.set_cons_zero, List.set_cons_succ]
        refine wpAnyH_ready (rs := [14]) (by kernel_rfl) (by simp) ?_
        refine AllReadyH.cons rfl (fun K hK => ?_) AllReadyH.nil
        go_simp
        go_wp2_with ((go_at_call 30; refine (K1.out _ hS).mono ?_; rintro e w' ⟨rfl, hb'⟩; have hO := hO.more hb'; have hS := hS.on hb'))
        refine hK.out _ _ hS (fun _ => ?_)
        clear hK K
        refine wpAnyH_ready (rs := [17]) (by kernel_rfl) (by simp) ?_
        refine AllReadyH.cons rfl (fun K hK => ?_) AllReadyH.nil
        go_simp
        go_wp2_with ((go_at_call 31; refine (K2.out _ hS).mono ?_; rintro e w' ⟨rfl, hb'⟩; have hO := hO.more hb'; have hS := hS.on hb'))
        refine hK.out _ _ hS (fun _ => ?_)
        clear hK K
        refine wpAnyH_take (i := 21) (v := ?vL21) rfl (by kernel_rfl) (by kernel_rfl) (by kernel_rfl) (fun _ _ _ h => h) (Or.inl ⟨by rfl, ?hyL21⟩) hS ?restL21
        case hyL21 =>
          intro w hSw
          first | (go_simp; done) | (go_simp; with_reducible rfl)
        try simp only [Act.put, List.setIfInBounds_toArray, List.set_cons_zero, List.set_cons_succ]
        refine wpAnyH_ready (rs := [22]) (by kernel_rfl) (by simp) ?_
        refine AllReadyH.cons rfl (fun K hK => ?_) AllReadyH.nil
        go_simp
        have hSp := hS
        have hS := hS.on (bel_alloc _ (.cells #[.string f.car, .int .i64 f.num, .int .i64 day, .string n.x.f, .string n.x.t, .int .i64 dd, .int .i64 aa, .string n.x.eq] datT))
        refine hK.out _ _ hS (fun _ => ?_)
        clear hK K
        refine wpAnyH_ready (rs := [23]) (by kernel_rfl) (by simp) ?_
        refine AllReadyH.cons rfl (fun K hK => ?_) AllReadyH.nil
        refine step_rapp rtD rfl _ _ rfl hO rfl (bel_alloc _ _) _ (⟨f.car, f.num, day, n.x.f, n.x.t, dd, aa, n.x.eq⟩ : Dt) _ rfl (cs := #[.string f.car, .int .i64 f.num, .int .i64 day, .string n.x.f, .string n.x.t, .int .i64 dd, .int .i64 aa, .string n.x.eq]) rfl (heap_alloc_new _ _) HLL.out ?_
        intro v8 w8 hO8 hC8
        go_simp
        have hS := hSp.trans hC8.but (fun _ _ h => h)
        refine hK.out _ _ hS (fun _ => ?_)
        clear hK K
        refine wpAnyH_take (i := 24) (v := ?vL24) rfl (by kernel_rfl) (by kernel_rfl) (by kernel_rfl) (fun _ _ _ h => h) (Or.inl ⟨by rfl, ?hyL24⟩) hS ?restL24
        case hyL24 =>
          intro w hSw
          first | (go_simp; done) | (go_simp; with_reducible rfl)
        try simp only [Act.put, List.setIfInBounds_toArray, List.set_cons_zero, List.set_cons_succ]
        refine wpAnyH_done (by kernel_rfl) ?_ _
        simp only [List.getElem_toArray, List.getElem_cons_succ, List.getElem_cons_zero, List.set_cons_zero, List.set_cons_succ]
        have HY : Hid (ROwn datT 8 encDt w2.heap.size w8 v8 ((f.lg.take (k + 1)).map (datL p.l f day)) ∧ SW w2 w8) := Lib.hid ⟨by rw [HTk.out]; exact hO8, HSW.out _ hS⟩
        clear hO8 hC8 hS hSp hO
        go_wp2
        go_roundg (f.lg.length - (k + 1))
        case measure => have := HKX.out; omega
        case rel => exact ⟨_, k + 1, rfl, by go_num, by omega, HY⟩
      · have hk : k = f.lg.length := by omega
        have HR : Hid (ROwn datT 8 encDt w.heap.size wr v (f.lg.map (datL p.l f day)) ∧ Below w.heap.size w wr) := Lib.hid ⟨⟨by
          have h := HH.out.1.own
          rw [hk, List.take_length] at h
          exact h.mono hS0.size, Nat.le_trans hS0.size hSr.size⟩, hS0.trans (Below.mono hSr hS0.size)⟩
        clear HH hkx hk
        go_wp2
        exact bodyPost_ret (results_tmp2 rfl _ _ _) rfl ⟨v, by rw [HE.out.1]; rfl, by rw [HE.out.2]; exact HR.out.1, HR.out.2⟩

end Go.Proofs.Ytmmpalnalogfnaa

/- Segments as plain data; walk of the reference's seg. -/
namespace Go.Proofs.Ytmmpalnalogfnaa
open Go.RowKit Go.Shelf
set_option linter.unusedSimpArgs false
set_option linter.unusedVariables false

/-- seven stores into a block of a segment -/
def S7 (w : World) (N : Nat) (v0 v1 v2 v3 v4 v5 v6 : Value) : World := ((((((w.setCell ⟨N, 0, none⟩ v0).setCell ⟨N, 1, none⟩ v1).setCell ⟨N, 2, none⟩ v2).setCell ⟨N, 3, none⟩ v3).setCell ⟨N, 4, none⟩ v4).setCell ⟨N, 5, none⟩ v5).setCell ⟨N, 6, none⟩ v6
theorem S7.but (w : World) (N : Nat) (v0 v1 v2 v3 v4 v5 v6 : Value) : But w (S7 w N v0 v1 v2 v3 v4 v5 v6) (fun k => k = N) :=
  ((((((But.setCell w N 0 v0).trans (But.setCell _ N 1 v1) (fun _ _ h => h)).trans (But.setCell _ N 2 v2) (fun _ _ h => h)).trans (But.setCell _ N 3 v3) (fun _ _ h => h)).trans (But.setCell _ N 4 v4) (fun _ _ h => h)).trans (But.setCell _ N 5 v5) (fun _ _ h => h)).trans (But.setCell _ N 6 v6) (fun _ _ h => h)

end Go.Proofs.Ytmmpalnalogfnaa

/- Timetables as plain data; walk of the reference's On. -/
namespace Go.Proofs.Ytmmpalnalogfnaa
open Go.RowKit Go.Shelf
set_option linter.unusedSimpArgs false
set_option linter.unusedVariables false

def encF6 (f : FV) : List Value := [.string f.car, .int .i64 f.num, .int .i64 f.pf, .int .i64 f.pt, .int .i64 f.pd, .slice f.A f.lg.length f.c]
theorem RowL.at6 {w : World} {A : Option Addr} {n c : Nat} {L : List FV} (h : RowL 6 encF6 w (.slice A n c) L) {k : Nat} {y : FV} (hk : L[k]? = some y) : ∃ b o, A = some ⟨b, o, none⟩ ∧ b < w.heap.size ∧ ∀ j u, (encF6 y)[j]? = some u → w.cell? ⟨b, o + k * 6 + j, none⟩ = some u := by
  obtain ⟨hlt, rfl⟩ := List.getElem?_eq_some_iff.1 hk
  obtain ⟨b, o, h1, h2, h3⟩ := h.at rfl hlt
  exact ⟨b, o, h1, h2, h3⟩
theorem lt_of_cell2 {w : World} {n : Nat} {o : Obj} (h : w.heap[n]? = some o) : n < w.heap.size := by
  by_cases e : n < w.heap.size
  · exact e
  · rw [Array.getElem?_eq_none (by omega)] at h; cases h
/-- six stores into a block of a flight -/
def S6 (w : World) (N : Nat) (v0 v1 v2 v3 v4 v5 : Value) : World := (((((w.setCell ⟨N, 0, none⟩ v0).setCell ⟨N, 1, none⟩ v1).setCell ⟨N, 2, none⟩ v2).setCell ⟨N, 3, none⟩ v3).setCell ⟨N, 4, none⟩ v4).setCell ⟨N, 5, none⟩ v5
theorem S6.heap {w : World} {N : Nat} {a0 a1 a2 a3 a4 a5 : Value} (h : w.heap[N]? = some (.cells #[a0, a1, a2, a3, a4, a5] fliT (0, 0))) (v0 v1 v2 v3 v4 v5 : Value) : (S6 w N v0 v1 v2 v3 v4 v5).heap[N]? = some (.cells #[v0, v1, v2, v3, v4, v5] fliT (0, 0)) := by
  have e1 : (w.setCell ⟨N, 0, none⟩ v0).heap[N]? = some (.cells #[v0, a1, a2, a3, a4, a5] fliT (0, 0)) := heap_setCell_same w N 0 _ fliT v0 h
  have e2 : ((w.setCell ⟨N, 0, none⟩ v0).setCell ⟨N, 1, none⟩ v1).heap[N]? = some (.cells #[v0, v1, a2, a3, a4, a5] fliT (0, 0)) := heap_setCell_same _ N 1 _ fliT v1 e1
  have e3 : (((w.setCell ⟨N, 0, none⟩ v0).setCell ⟨N, 1, none⟩ v1).setCell ⟨N, 2, none⟩ v2).heap[N]? = some (.cells #[v0, v1, v2, a3, a4, a5] fliT (0, 0)) := heap_setCell_same _ N 2 _ fliT v2 e2
  have e4 : ((((w.setCell ⟨N, 0, none⟩ v0).setCell ⟨N, 1, none⟩ v1).setCell ⟨N, 2, none⟩ v2).setCell ⟨N, 3, none⟩ v3).heap[N]? = some (.cells #[v0, v1, v2, v3, a4, a5] fliT (0, 0)) := heap_setCell_same _ N 3 _ fliT v3 e3
  have e5 : (((((w.setCell ⟨N, 0, none⟩ v0).setCell ⟨N, 1, none⟩ v1).setCell ⟨N, 2, none⟩ v2).setCell ⟨N, 3, none⟩ v3).setCell ⟨N, 4, none⟩ v4).heap[N]? = some (.cells #[v0, v1, v2, v3, v4, a5] fliT (0, 0)) := heap_setCell_same _ N 4 _ fliT v4 e4
  exact heap_setCell_same _ N 5 _ fliT v5 e5
theorem S6.but (w : World) (N : Nat) (v0 v1 v2 v3 v4 v5 : Value) : But w (S6 w N v0 v1 v2 v3 v4 v5) (fun k => k = N) :=
  (((((But.setCell w N 0 v0).trans (But.setCell _ N 1 v1) (fun _ _ h => h)).trans (But.setCell _ N 2 v2) (fun _ _ h => h)).trans (But.setCell _ N 3 v3) (fun _ _ h => h)).trans (But.setCell _ N 4 v4) (fun _ _ h => h)).trans (But.setCell _ N 5 v5) (fun _ _ h => h)

end Go.Proofs.Ytmmpalnalogfnaa

/- Walks of slices.IndexFunc over flights and over segments. -/
namespace Go.Proofs.Ytmmpalnalogfnaa
open Go.RowKit Go.Shelf
set_option linter.unusedSimpArgs false
set_option linter.unusedVariables false

/-- the slice value v holds the flights l, with their legs -/
structure TblL (w : World) (v : Value) (l : List FV) : Prop where
  row : RowL 6 encF6 w v l
  legs : ∀ f ∈ l, LegL w (.slice f.A f.lg.length f.c) f.lg
theorem TblL.more {w w' : World} {v : Value} {l : List FV} (h : TblL w v l) (hb : Below w.heap.size w w') : TblL w' v l := ⟨h.row.more hb, fun f hf => (h.legs f hf).more hb⟩

end Go.Proofs.Ytmmpalnalogfnaa

/- Walk of flight.Segs. -/
namespace Go.Proofs.Ytmmpalnalogfnaa
open Go.RowKit Go.Shelf
set_option linter.unusedSimpArgs false
set_option linter.unusedVariables false

theorem ROwn.cap {α : Type} {enc : α → List Value} {e : TypeId} {sz B : Nat} {w : World} {A : Option Addr} {n c : Nat} {l : List α} (h : ROwn e sz enc B w (.slice A n c) l) : l.length ≤ c := by
  rcases h.own.2 with ⟨e1, h1⟩ | ⟨g, cap, cur, e1, _, _, hnc, _⟩
  · omega
  · cases e1; exact hnc
end Go.Proofs.Ytmmpalnalogfnaa

/- Walks of slices.Clone at legs, of find at flights and at segments, and of what they are asked by. -/
namespace Go.Proofs.Ytmmpalnalogfnaa
open Go.RowKit Go.Shelf
set_option linter.unusedSimpArgs false
set_option linter.unusedVariables false

theorem ROwn.formG {α : Type} {enc : α → List Value} {e : TypeId} {sz B : Nat} {w : World} {v : Value} {l : List α} (h : ROwn e sz enc B w v l) (hne : l ≠ []) : ∃ g cap, v = .slice (some ⟨g, 0, none⟩) l.length cap ∧ B ≤ g ∧ g < w.heap.size := by
  obtain ⟨g, cap, h1, h2, h3⟩ := h.own.form (by cases l with | nil => exact absurd rfl hne | cons a r => simp)
  exact ⟨g, cap, h1, h2, h3⟩
end Go.Proofs.Ytmmpalnalogfnaa

/- Walks of what On asks of a flight, of find at flights, and of On. -/
namespace Go.Proofs.Ytmmpalnalogfnaa
open Go.RowKit Go.Shelf
set_option linter.unusedSimpArgs false
set_option linter.unusedVariables false

end Go.Proofs.Ytmmpalnalogfnaa

/- Walk of On. -/
namespace Go.Proofs.Ytmmpalnalogfnaa
open Go.RowKit Go.Shelf
set_option linter.unusedSimpArgs false
set_option linter.unusedVariables false

end Go.Proofs.Ytmmpalnalogfnaa

/- Walk of Normal: the loop that gathers a period's canonical form. -/
namespace Go.Proofs.Ytmmpalnalogfnaa.Per
open Go.RowKit Go.Shelf
set_option linter.unusedSimpArgs false
set_option linter.unusedVariables false
attribute [local go_sem] Oper.semAt_some
attribute [local simp] wide_fn

theorem BoxAt.frozen {W : World} {B : Nat} {p : Per} (h : BoxAt W B p) (j : Nat) : W.frozen? ⟨B, j, none⟩ = false := by simp [World.frozen?, show W.heap[B]? = _ from h]
end Go.Proofs.Ytmmpalnalogfnaa.Per

/- Plain contracts of the loops over an iterator; equal lists; the reference's Days, Count. -/
namespace Go.Proofs.Ytmmpalnalogfnaa.Per
open Go.RowKit
set_option linter.unusedSimpArgs false
set_option linter.unusedVariables false

theorem count_any (p : Per) (w : World) : Calls Try.prog 28 #[encQ p] w fun e W' => e = .returned (.int .i64 (daysQ p).length) ∧ Below w.heap.size w W' := callsIn_wide.1 (count_in p w)
/-! ### the reference's Days -/
theorem Box3.more1 {w : World} {p : Per} {W W' : World} (h : Box3 w w.heap.size p W) (hb : Below (w.heap.size + 1) W W') : Box3 w w.heap.size p W' :=
  ⟨(hb.cell (p := ⟨w.heap.size, 0, none⟩) (by simp)).trans h.1, (hb.cell (p := ⟨w.heap.size, 1, none⟩) (by simp)).trans h.2.1, (hb.cell (p := ⟨w.heap.size, 2, none⟩) (by simp)).trans h.2.2.1, h.2.2.2.trans (hb.mono (by omega))⟩
set_option maxHeartbeats 2000000 in
theorem rdays_any (f t d : Int) (w : World) (hf : -9223372036854775808 ≤ f) (hf2 : f ≤ 9223372036854775807) : Calls Try.prog 20 #[encQ (f, t, d)] w fun e w' => ∃ v, e = .returned v ∧ IntL w' v (daysQ (f, t, d)) ∧ Below w.heap.size w w' := by
  have hB : Box3 w w.heap.size (f, t, d) (w.alloc (.cells #[.int .i64 f, .int .i64 t, .int .i64 d] 27)) := Box3.new w (f, t, d) _
  have hsz : (w.alloc (.cells #[.int .i64 f, .int .i64 t, .int .i64 d] 27)).heap.size = w.heap.size + 1 := by simp
  cases h : okQ (f, t, d)
  · have he := errQ_two h
    have HD := Lib.hid (daysQ_no h)
    have CV := Lib.hid (fun W => rcheck_any f t d W)
    generalize errQ (f, t, d) = z at *
    clear h
    go_enter Try.func20, Try.ntmps20
    go_wp2
    go_loopw [3, 4] (fun vo vd wr => vo = .slice none 0 0 ∧ vd = .int .i64 f ∧ Box3 w w.heap.size (f, t, d) wr) (fun _ _ _ => 0)
    case atStart => exact ⟨rfl, rfl, hB⟩
    case round =>
      obtain ⟨rfl, rfl, hb⟩ := hrel
      obtain ⟨c0, c1, c2, c3⟩ := hb
      go_wp2_with (go_at_call 42; refine (CV.out _).mono ?_; rintro e w' ⟨rfl, hb⟩)
      go_ret
      exact ⟨_, rfl, by rw [HD.out]; exact ⟨none, 0, rfl, .inl rfl⟩, c3.trans (hb.mono c3.size)⟩
  · have he := errQ_ok h
    have HD := Lib.hid (daysQ_yes h)
    have hq := okQ_yes h
    have q0 : 0 ≤ f := hq.1
    have q1 : f ≤ t := hq.2.1
    have q2 : t < 36525 := hq.2.2.1
    have q3 : t - f < 800 := hq.2.2.2.1
    have hlen : lenQ (f, t, d) = (t - f + 1).toNat := rfl
    have CV := Lib.hid (fun W => rcheck_any f t d W)
    rw [he] at CV
    have HH := Lib.hid (daysQ_has (f, t, d))
    clear he hq
    go_enter Try.func20, Try.ntmps20
    go_wp2
    go_loopw [3, 4] (fun vo vd wr => ∃ k : Nat, k ≤ lenQ (f, t, d) ∧ vd = .int .i64 (f + k) ∧ IOwn 3 (w.heap.size + 1) wr vo (daysTo (f, t, d) k) ∧ Box3 w w.heap.size (f, t, d) wr) (fun _ vd _ => (t + 1 - intOf vd).toNat)
    case atStart => exact ⟨0, Nat.zero_le _, by simp, IOwn.nil (by simp), hB⟩
    case round =>
      obtain ⟨k, hk, rfl, hO, hb⟩ := hrel
      have hb0 := hb
      obtain ⟨c0, c1, c2, c3⟩ := hb
      by_cases hlt : k < lenQ (f, t, d)
      · have x3 : f + (k : Int) ≤ t := by omega
        have CH := Lib.hid (fun W => rhas_any f t d (f + k) W (by omega) (by omega))
        rw [show hasQ (f, t, d) (f + k) = wdB d (f + k) from HH.out k h hlt] at CH
        have hll := daysTo_len (f, t, d) k
        cases hw : wdB d (f + k)
        · have HN := Lib.hid (daysTo_miss (f, t, d) k hw)
          rw [hw] at CH
          clear hw
          go_wp2_with (first | (go_at_call 42; refine (CV.out _).mono ?_; rintro e w2 ⟨rfl, hb1⟩; have hb2 := hb0.more hb1; have d0 := hb2.1; have d1 := hb2.2.1; have d2 := hb2.2.2.1; have hO2 := hO.more hb1) | (go_at_call 46; refine (CH.out _).mono ?_; rintro e w3 ⟨rfl, hb3⟩))
          go_roundw
          case rel => exact ⟨k + 1, by omega, by congr 1; omega, by rw [HN.out]; exact hO2.more hb3, hb2.more hb3⟩
          case measure => simp [intOf]; omega
        · have HN := Lib.hid (daysTo_hit (f, t, d) k hw)
          rw [hw] at CH
          clear hw
          go_wp2_with (first | (go_at_call 42; refine (CV.out _).mono ?_; rintro e w2 ⟨rfl, hb1⟩; have hb2 := hb0.more hb1; have d0 := hb2.1; have d1 := hb2.2.1; have d2 := hb2.2.2.1; have hO2 := hO.more hb1) | (go_at_call 46; refine (CH.out _).mono ?_; rintro e w3 ⟨rfl, hb3⟩; have hO3 := hO2.more hb3) | (refine wpList_iapp rfl _ _ rfl _ (daysTo (f, t, d) k) rfl (hO3.alloc _) _ (f + k) 1 rfl (heap_alloc_new _ _) (by omega) ?_; intro v' w4 hO4 hb4))
          go_roundw
          case rel => exact ⟨k + 1, by omega, by congr 1; omega, by rw [HN.out]; exact hO4, ((hb2.more hb3).more (bel_alloc _ _)).more1 hb4⟩
          case measure => simp [intOf]; omega
      · have e : k = lenQ (f, t, d) := by omega
        subst e
        go_wp2_with (go_at_call 42; refine (CV.out _).mono ?_; rintro e w2 ⟨rfl, hb1⟩; have hb2 := hb0.more hb1; have d1 := hb2.2.1)
        go_ret
        exact ⟨_, rfl, by rw [HD.out]; exact .of_own (hO.more hb1).own, hb2.2.2.2⟩

end Go.Proofs.Ytmmpalnalogfnaa.Per

/- Walks of the reference's canonical periods: of, Normal, Meet. -/
namespace Go.Proofs.Ytmmpalnalogfnaa.Per
open Go.RowKit
set_option linter.unusedSimpArgs false
set_option linter.unusedVariables false

theorem IntL.cells {w : World} {A : Option Addr} {n c : Nat} {l : List Int} (h : IntL w (.slice A n c) l) (hp : 0 < l.length) :
    ∃ b o, A = some ⟨b, o, none⟩ ∧ n = l.length ∧ b < w.heap.size ∧ ∀ i (h : i < l.length), w.cell? ⟨b, o + i, none⟩ = some (.int .i64 l[i]) := by
  obtain ⟨A', c', e, h⟩ := h
  cases e
  rcases h with h | ⟨b, o, h1, h2, h3⟩
  · rw [h] at hp; simp at hp
  · exact ⟨b, o, h1, rfl, h2, h3⟩
end Go.Proofs.Ytmmpalnalogfnaa.Per

/- Walks of Meet, beside the reference's. -/
namespace Go.Proofs.Ytmmpalnalogfnaa.Per
open Go.RowKit
set_option linter.unusedSimpArgs false
set_option linter.unusedVariables false

end Go.Proofs.Ytmmpalnalogfnaa.Per

/- Plain words on timetables: what is taken, violations, days that differ. -/
namespace Go.Proofs.Ytmmpalnalogfnaa
open Go.RowKit Go.Shelf
set_option linter.unusedSimpArgs false
set_option linter.unusedVariables false

theorem car_eq (a b : ByteArray) : (a.toList == b.toList) = decide (a = b) := by
  by_cases h : a = b
  · subst h; simp
  · have h2 : a.toList ≠ b.toList := toList_ne h
    simp [h, h2]
end Go.Proofs.Ytmmpalnalogfnaa

/- On, told with the flight as one value; walks of Differ. -/
namespace Go.Proofs.Ytmmpalnalogfnaa
open Go.RowKit Go.Shelf
set_option linter.unusedSimpArgs false
set_option linter.unusedVariables false

end Go.Proofs.Ytmmpalnalogfnaa

/- Walks of what Seg asks of a segment and of find at segments. -/
namespace Go.Proofs.Ytmmpalnalogfnaa
open Go.RowKit Go.Shelf
set_option linter.unusedSimpArgs false
set_option linter.unusedVariables false

end Go.Proofs.Ytmmpalnalogfnaa

/- Walk of Seg of a timetable. -/
namespace Go.Proofs.Ytmmpalnalogfnaa
open Go.RowKit Go.Shelf
set_option linter.unusedSimpArgs false
set_option linter.unusedVariables false

/-- places of limited size, with time zones that are right -/
structure OkPl (p : PV) : Prop where
  la : p.l.length ≤ 40
  sh : ∀ a ∈ p.l, a.shs.length ≤ 300
  oz : ∀ a ∈ p.l, OkZ a.off a.shs
/-- flights of limited size -/
structure OkT (fs : List FV) : Prop where
  len : fs.length ≤ 1000
  lg : ∀ f ∈ fs, f.lg.length ≤ 100
  hm : ∀ f ∈ fs, ∀ x ∈ f.lg, (-1000000 ≤ x.dep ∧ x.dep ≤ 1000000) ∧ -1000000 ≤ x.arr ∧ x.arr ≤ 1000000
end Go.Proofs.Ytmmpalnalogfnaa

/- The order of legs; walk of Day, whatever the sort is known to do; the sort of at most one leg. -/
namespace Go.Proofs.Ytmmpalnalogfnaa
open Go.RowKit Go.Shelf
set_option linter.unusedSimpArgs false
set_option linter.unusedVariables false

/-- whether a leg comes before another one -/
def dtLt (a b : Dt) : Bool := decide (a.dep < b.dep) || (decide (a.dep = b.dep) && (Op.bytesLess a.car.toList b.car.toList || (decide (a.car = b.car) && decide (a.num < b.num))))
def SortedD (L : List Dt) : Prop := ∀ (i j : Nat) (x y : Dt), i < j → L[i]? = some x → L[j]? = some y → dtLt y x = false
/-- the library's stable sort leaves the legs L in their order -/
def SortOK (L : List Dt) : Prop := ∀ (B : Nat) (v : Value) (w : World), ROwn datT 8 encDt B w v L → Calls Try.prog 32 #[v, .func (.func 33) #[] #[]] w fun e w' => e = .returned (.tuple #[]) ∧ ∃ L', L'.Perm L ∧ SortedD L' ∧ RowL 8 encDt w' v L' ∧ Below B w w'
/-- the legs of a day, flight by flight -/
def dayF (l : List Air) (fs : List FV) (day : Int) : List Dt := fs.flatMap fun f => legF l f day
theorem dayF_take (l : List Air) (fs : List FV) (day : Int) {k : Nat} {f : FV} (h : fs[k]? = some f) : dayF l (fs.take (k + 1)) day = dayF l (fs.take k) day ++ legF l f day := by
  obtain ⟨hk, rfl⟩ := List.getElem?_eq_some_iff.1 h
  unfold dayF
  rw [show fs.take (k + 1) = fs.take k ++ [fs[k]] from (List.take_append_getElem hk).symm, List.flatMap_append, List.flatMap_cons, List.flatMap_nil, List.append_nil]
theorem legF_le (l : List Air) (f : FV) (day : Int) (h : f.lg.length ≤ 100) : (legF l f day).length ≤ 100 := by
  unfold legF
  split
  · rw [List.length_map]; exact h
  · simp
theorem dayF_le (l : List Air) (fs : List FV) (day : Int) (h : ∀ f ∈ fs, f.lg.length ≤ 100) : ∀ k, (dayF l (fs.take k) day).length ≤ 100 * k
  | 0 => by simp [dayF]
  | k + 1 => by
    have ih := dayF_le l fs day h k
    cases hf : fs[k]? with
    | none =>
      have e : fs.take (k + 1) = fs.take k := by
        have := List.getElem?_eq_none_iff.1 hf
        rw [List.take_of_length_le (by omega), List.take_of_length_le this]
      rw [e]; omega
    | some f =>
      rw [dayF_take l fs day hf, List.length_append]
      have := legF_le l f day (h f (List.mem_of_getElem? hf))
      omega
theorem sorted_one {L : List Dt} (h : L.length ≤ 1) : SortedD L := fun i j x y hij hx hy => by
  have := (List.getElem?_eq_some_iff.1 hy).1
  omega

set_option maxRecDepth 100000 in
set_option maxHeartbeats 4000000 in
theorem ins_one (v : Value) (n : Int) (fv : Value) (w : World) (hn : n ≤ 1) (hn0 : 0 ≤ n) : Calls Try.prog 78 #[v, .int .i64 0, .int .i64 n, fv] w fun e w' => e = .returned (.tuple #[]) ∧ w = w' := by
  have h1 : ¬ (1 : Int) < n := by omega
  have h2 : decide ((1 : Int) < n) = false := decide_eq_false h1
  go_enter Try.func78, Try.ntmps78
  go_wp2
  go_loopg [8] 1 (fun g vi wr => vi = .int .i64 1 ∧ wr = w)
  case atStart => exact ⟨by go_num, rfl⟩
  case round =>
    obtain ⟨rfl, rfl⟩ := hrel
    go_wp2
    go_end0
    exact ⟨rfl, rfl⟩
set_option maxRecDepth 100000 in
set_option maxHeartbeats 4000000 in
theorem stab_one (v : Value) (n : Int) (fv : Value) (w : World) (hn : n ≤ 1) (hn0 : 0 ≤ n) : Calls Try.prog 56 #[v, .int .i64 n, fv] w fun e w' => e = .returned (.tuple #[]) ∧ w = w' := by
  have h1 : ¬ (20 : Int) ≤ n := by omega
  have h2 : ¬ (20 : Int) < n := by omega
  have KI := Lib.hid (ins_one v n fv w hn hn0)
  go_enter Try.func56, Try.ntmps56
  go_wp2
  go_loopg [7, 8] 1 (fun g va vb wr => va = .int .i64 0 ∧ vb = .int .i64 20 ∧ wr = w)
  case atStart => exact ⟨rfl, rfl, rfl⟩
  case round =>
    obtain ⟨rfl, rfl, rfl⟩ := hrel
    go_wp2_with (go_at_call 78; refine KI.out.mono ?_; rintro e w' ⟨rfl, rfl⟩)
    go_loopg [6] 1 (fun g vb wq => vb = .int .i64 20 ∧ wq = wr)
    case atStart => exact ⟨rfl, rfl⟩
    case round =>
      obtain ⟨rfl, rfl⟩ := hrel
      go_wp2
      go_end0
      exact ⟨rfl, rfl⟩
set_option maxRecDepth 100000 in
set_option maxHeartbeats 4000000 in
theorem sort_one {L : List Dt} (h : L.length ≤ 1) : SortOK L := by
  intro B v w hO
  obtain ⟨A, c, rfl, _⟩ := id (hO.rowL rtD.len)
  have KS := Lib.hid (stab_one (.slice A L.length c) (L.length : Int) (.func (.func 33) #[] #[]) w (by omega) (by omega))
  have HO := Lib.hid hO
  clear hO
  go_enter Try.func32, Try.ntmps32
  go_wp2_with (go_at_call 56; refine KS.out.mono ?_; rintro e w' ⟨rfl, rfl⟩)
  go_end0
  exact ⟨rfl, L, List.Perm.refl _, sorted_one h, HO.out.rowL rtD.len, Below.refl _ _⟩

set_option maxRecDepth 100000 in
set_option maxHeartbeats 8000000 in
theorem sday_any (p : PV) (v : Value) (fs : List FV) (day : Int) (w : World) (op : fs ≠ [] → OkPl p) (ot : OkT fs) (hL : AirL w p.A p.l) (hv : TblL w v fs) (h0 : -9223372036854775808 ≤ day) (h1 : day ≤ 9223372036854775807) (hs : SortOK (dayF p.l fs day)) :
    Calls Try.prog 9 #[encP p, v, .int .i64 day] w fun e w' => ∃ r L', e = .returned r ∧ RowL 8 encDt w' r L' ∧ (L'.Perm (dayF p.l fs day) ∧ SortedD L') ∧ Below w.heap.size w w' := by
  obtain ⟨A, c, rfl, _⟩ := id hv.row
  have hb1 := bel_alloc w (.cells #[.slice p.A p.l.length p.ca, .slice p.D p.ds.length p.cd] placesT)
  have p0 := (cells_new w #[.slice p.A p.l.length p.ca, .slice p.D p.ds.length p.cd] placesT 0).trans (show _ = some (Value.slice p.A p.l.length p.ca) from rfl)
  have p1 := (cells_new w #[.slice p.A p.l.length p.ca, .slice p.D p.ds.length p.cd] placesT 1).trans (show _ = some (Value.slice p.D p.ds.length p.cd) from rfl)
  have HV := Lib.hid (hv.more hb1)
  have HL := Lib.hid (hL.more hb1)
  have HB1 := Lib.hid hb1
  have HOT := Lib.hid ot
  have HSO := Lib.hid hs
  have hln := ot.len
  have KS := Lib.hid (fun (gm : fs ≠ []) (f : FV) W (g1 : AirL W p.A p.l) (g2 : LegL W (.slice f.A f.lg.length f.c) f.lg) (g3 : f.lg.length ≤ 100) (g4 : ∀ x ∈ f.lg, (-1000000 ≤ x.dep ∧ x.dep ≤ 1000000) ∧ -1000000 ≤ x.arr ∧ x.arr ≤ 1000000) => legs_any p f day W (op gm).la g1 (op gm).sh (op gm).oz g2 g3 g4 h0 h1)
  have HDL := Lib.hid (dayF_le p.l fs day ot.lg)
  clear hv ot hL hs hb1 op
  go_enter Try.func9, Try.ntmps9
  go_upto_region 1 with fail
  generalize hw1 : w.alloc (.cells #[.slice p.A p.l.length p.ca, .slice p.D p.ds.length p.cd] placesT) = w1 at *
  clear hw1
  have F0 := Lib.hid (bel_get p0)
  have F1 := Lib.hid (bel_get p1)
  clear p0 p1
  go_wp2
  go_loopw [7, 14] (fun s0 vi wr => ∃ k : Nat, k ≤ fs.length ∧ vi = .int .i64 k ∧ Hid (ROwn datT 8 encDt w1.heap.size wr s0 (dayF p.l (fs.take k) day) ∧ Below w1.heap.size w1 wr)) (fun _ vi _ => fs.length - (intOf vi).toNat)
  case atStart => exact ⟨0, Nat.zero_le _, rfl, Lib.hid ⟨ROwn.nil (Nat.le_refl _), Below.refl _ _⟩⟩
  case round =>
    obtain ⟨k, hk, rfl, HK⟩ := hrel
    obtain ⟨hO, hbk⟩ := HK.out
    by_cases hlt : k < fs.length
    · obtain ⟨f, hf⟩ : ∃ f, fs[k]? = some f := ⟨_, List.getElem?_eq_getElem hlt⟩
      have hfm := List.mem_of_getElem? hf
      have hvk := HV.out.more hbk
      obtain ⟨b, o, e1, hbl, hc⟩ := RowL.at6 hvk.row hf
      cases e1
      have i2 : (k : Int) < (fs.length : Int) := by omega
      have d0 := hc 0 _ rfl
      have d1 := hc 1 _ rfl
      have d2 := hc 2 _ rfl
      have d3 := hc 3 _ rfl
      have d4 := hc 4 _ rfl
      have d5 := hc 5 _ rfl
      rw [Nat.add_zero] at d0
      have HDT := Lib.hid (dayF_take p.l fs day hf)
      have hb8 := bel_alloc wr (.cells #[.string f.car, .int .i64 f.num, .int .i64 f.pf, .int .i64 f.pt, .int .i64 f.pd, .slice f.A f.lg.length f.c] fliT)
      have n0 := (cells_new wr #[.string f.car, .int .i64 f.num, .int .i64 f.pf, .int .i64 f.pt, .int .i64 f.pd, .slice f.A f.lg.length f.c] fliT 0).trans (show _ = some (Value.string f.car) from rfl)
      have n1 := (cells_new wr #[.string f.car, .int .i64 f.num, .int .i64 f.pf, .int .i64 f.pt, .int .i64 f.pd, .slice f.A f.lg.length f.c] fliT 1).trans (show _ = some (Value.int .i64 f.num) from rfl)
      have n2 := (cells_new wr #[.string f.car, .int .i64 f.num, .int .i64 f.pf, .int .i64 f.pt, .int .i64 f.pd, .slice f.A f.lg.length f.c] fliT 2).trans (show _ = some (Value.int .i64 f.pf) from rfl)
      have n3 := (cells_new wr #[.string f.car, .int .i64 f.num, .int .i64 f.pf, .int .i64 f.pt, .int .i64 f.pd, .slice f.A f.lg.length f.c] fliT 3).trans (show _ = some (Value.int .i64 f.pt) from rfl)
      have n4 := (cells_new wr #[.string f.car, .int .i64 f.num, .int .i64 f.pf, .int .i64 f.pt, .int .i64 f.pd, .slice f.A f.lg.length f.c] fliT 4).trans (show _ = some (Value.int .i64 f.pd) from rfl)
      have n5 := (cells_new wr #[.string f.car, .int .i64 f.num, .int .i64 f.pf, .int .i64 f.pt, .int .i64 f.pd, .slice f.A f.lg.length f.c] fliT 5).trans (show _ = some (Value.slice f.A f.lg.length f.c) from rfl)
      have hO := hO.more hb8
      have hbk := hbk.trans (hb8.mono hbk.size)
      go_upto_region 5 with fail
      generalize hw8 : wr.alloc (.cells #[.string f.car, .int .i64 f.num, .int .i64 f.pf, .int .i64 f.pt, .int .i64 f.pd, .slice f.A f.lg.length f.c] fliT) = w8 at *
      clear hw8 d0 d1 d2 d3 d4 d5
      have y0 := F0.out _ hbk
      have y1 := F1.out _ hbk
      have KS2 := Lib.hid (KS.out (List.ne_nil_of_mem hfm) f w8 (HL.out.more hbk) ((HV.out.more hbk).legs f hfm) (HOT.out.lg f hfm) (HOT.out.hm f hfm))
      have HLG : Hid ((legF p.l f day).length ≤ 100) := Lib.hid (legF_le _ _ _ (HOT.out.lg f hfm))
      have HO := Lib.hid hO
      have HBK := Lib.hid hbk
      have HDk := Lib.hid (HDL.out k)
      obtain ⟨M, hM⟩ : ∃ M, M = legF p.l f day := ⟨_, rfl⟩
      have HME : Hid (Per.hasQ (f.pf, f.pt, f.pd) day = false → M = []) := Lib.hid (fun h => by rw [hM]; unfold legF; rw [h]; rfl)
      rw [← hM] at KS2 HDT HLG
      clear hM hf hfm hc hvk hbl hO hbk HK hb8
      cases hq : Per.hasQ (f.pf, f.pt, f.pd) day with
      | false =>
        have he : legE f day = 12 := by unfold legE; rw [hq]; rfl
        have HME2 := Lib.hid (HME.out hq)
        rw [he] at KS2
        clear he hq HME
        go_wp2_with (go_at_call 8; refine KS2.out.mono ?_; rintro e w9 ⟨v9, rfl, hO9, hb9⟩)
        go_roundw
        case rel => exact ⟨k + 1, by omega, by go_num, Lib.hid ⟨by rw [HDT.out, HME2.out, List.append_nil]; exact HO.out.more hb9, HBK.out.trans (hb9.mono HBK.out.size)⟩⟩
        case measure => simp [intOf]; omega
      | true =>
        have he : legE f day = 0 := by unfold legE; rw [hq]; rfl
        rw [he] at KS2
        clear he hq HME
        have hlim : ∀ n, n ≤ 100 * k → n + M.length ≤ 100000000 := fun n hn => by have := HLG.out; omega
        go_wp2_with (first
          | (at_builtin; refine wpList_rappl rtD rfl _ _ rfl hO10 rfl M _ rfl hM9 (hlim _ HDk.out) ?_; intro v10 w10 hO11 hC11)
          | (go_at_call 8; refine KS2.out.mono ?_; rintro e w9 ⟨v9, rfl, hO9, hb9⟩; have hM9 := hO9.rowL rtD.len; have hO10 := HO.out.more hb9))
        go_roundw
        case rel => exact ⟨k + 1, by omega, by go_num, Lib.hid ⟨by rw [HDT.out]; exact hO11, (HBK.out.trans (hb9.mono HBK.out.size)).trans (hC11.below hO10)⟩⟩
        case measure => simp [intOf]; omega
    · have hk' : k = fs.length := by omega
      have i2 : ¬ (k : Int) < (fs.length : Int) := by omega
      rw [hk', List.take_length] at hO
      have HSR := Lib.hid (HSO.out _ _ _ hO)
      have HB2 := Lib.hid (HB1.out.trans (hbk.mono HB1.out.size))
      clear hk' hO hbk HK
      go_wp2_with (go_at_call 32; refine HSR.out.mono ?_; rintro e w9 ⟨rfl, L', hp, hsd, hO9, hb9⟩)
      go_ret
      exact ⟨_, L', rfl, hO9, ⟨hp, hsd⟩, HB2.out.trans (hb9.mono HB1.out.size)⟩

end Go.Proofs.Ytmmpalnalogfnaa
