/- Words and walks that the laws below ask: PerF, PerG, PerH, PerI, FliL, SchP, PlaE, SchH, SgC, SchC. -/
import Derived.DeepKeys4
import Derived.WideKeyPair
import Derived.Shelf.Abstract
import Derived.Test.YtdpcjafkahhecaaGreatDoorPk4
import Derived.Test.YtdpcjafkahhecaaGreatDoorPk5
import Derived.Test.YtdpcjafkahhecaaGreatDoorPk6
/- Walk of Normal: the loop that gathers a period's canonical form. -/
namespace Go.Proofs.YtdpcjafkahhecaaGreatDoor.Per
open Go.RowKit Go.Shelf
set_option linter.unusedSimpArgs false
set_option linter.unusedVariables false
attribute [local go_sem] Oper.semAt_some
attribute [local simp] wide_fn

theorem set_heap {W : World} {B : Nat} {cs : Array Value} {t : TypeId} (h : W.heap[B]? = some (.cells cs t (0, 0))) (j : Nat) (u : Value) : (W.setCell ⟨B, j, none⟩ u).heap[B]? = some (.cells (cs.setIfInBounds j u) t (0, 0)) := by
  obtain ⟨hlt, hk⟩ := Array.getElem?_eq_some_iff.1 h
  show (W.heap.modify B _)[B]? = _
  rw [Array.getElem?_eq_getElem (by rw [Array.size_modify]; exact hlt), Array.getElem_modify_self, hk]
  rfl
theorem BoxAt.set0 {W : World} {B : Nat} {p : Per} (h : BoxAt W B p) (x : Int) : BoxAt (W.setCell ⟨B, 0, none⟩ (.int .i64 x)) B (x, p.2.1, p.2.2) := set_heap h 0 _
theorem BoxAt.set1 {W : World} {B : Nat} {p : Per} (h : BoxAt W B p) (x : Int) : BoxAt (W.setCell ⟨B, 1, none⟩ (.int .i64 x)) B (p.1, x, p.2.2) := set_heap h 1 _
theorem BoxAt.set2 {W : World} {B : Nat} {p : Per} (h : BoxAt W B p) (x : Int) : BoxAt (W.setCell ⟨B, 2, none⟩ (.int .i64 x)) B (p.1, p.2.1, x) := set_heap h 2 _
theorem BoxAt.frozen {W : World} {B : Nat} {p : Per} (h : BoxAt W B p) (j : Nat) : W.frozen? ⟨B, j, none⟩ = false := by simp [World.frozen?, show W.heap[B]? = _ from h]
end Go.Proofs.YtdpcjafkahhecaaGreatDoor.Per

/- Plain contracts of the loops over an iterator; equal lists; the reference's Days, Count. -/
namespace Go.Proofs.YtdpcjafkahhecaaGreatDoor.Per
open Go.RowKit
set_option linter.unusedSimpArgs false
set_option linter.unusedVariables false

/-! ### the reference's Days -/
theorem Box3.more1 {w : World} {p : Per} {W W' : World} (h : Box3 w w.heap.size p W) (hb : Below (w.heap.size + 1) W W') : Box3 w w.heap.size p W' :=
  ⟨(hb.cell (p := ⟨w.heap.size, 0, none⟩) (by simp)).trans h.1, (hb.cell (p := ⟨w.heap.size, 1, none⟩) (by simp)).trans h.2.1, (hb.cell (p := ⟨w.heap.size, 2, none⟩) (by simp)).trans h.2.2.1, h.2.2.2.trans (hb.mono (by omega))⟩
set_option maxHeartbeats 2000000 in
theorem rdays_any (f t d : Int) (w : World) (hf : -9223372036854775808 ≤ f) (hf2 : f ≤ 9223372036854775807) : Calls Tryz.prog 94 #[encQ (f, t, d)] w fun e w' => ∃ v, e = .returned v ∧ IntL w' v (daysQ (f, t, d)) ∧ Below w.heap.size w w' := by
  have hB : Box3 w w.heap.size (f, t, d) (w.alloc (.cells #[.int .i64 f, .int .i64 t, .int .i64 d] 58)) := Box3.new w (f, t, d) _
  have hsz : (w.alloc (.cells #[.int .i64 f, .int .i64 t, .int .i64 d] 58)).heap.size = w.heap.size + 1 := by simp
  cases h : okQ (f, t, d)
  · have he := errQ_two h
    have HD := Lib.hid (daysQ_no h)
    have CV := Lib.hid (fun W => rcheck_any f t d W)
    generalize errQ (f, t, d) = z at *
    clear h
    go_enter Tryz.func94, Tryz.ntmps94
    go_wp2
    go_loopw [3, 4] (fun vo vd wr => vo = .slice none 0 0 ∧ vd = .int .i64 f ∧ Box3 w w.heap.size (f, t, d) wr) (fun _ _ _ => 0)
    case atStart => exact ⟨rfl, rfl, hB⟩
    case round =>
      obtain ⟨rfl, rfl, hb⟩ := hrel
      obtain ⟨c0, c1, c2, c3⟩ := hb
      go_wp2_with (go_at_call 67; refine (CV.out _).mono ?_; rintro e w' ⟨rfl, hb⟩)
      go_ret
      exact ⟨_, rfl, by rw [HD.out]; exact ⟨none, 0, rfl, .inl rfl⟩, c3.trans (hb.mono c3.size)⟩
  · have he := errQ_ok h
    have HD := Lib.hid (daysQ_yes h)
    have hq := okQ_yes h
    have q0 : 0 ≤ f := hq.1
    have q1 : f ≤ t := hq.2.1
    have q2 : t < 36525 := hq.2.2.1
    have q3 : t - f < 800 := hq.2.2.2.1
    have hlen : lenQ (f, t, d) = (t - f + 1).toNat := rfl
    have CV := Lib.hid (fun W => rcheck_any f t d W)
    rw [he] at CV
    have HH := Lib.hid (daysQ_has (f, t, d))
    clear he hq
    go_enter Tryz.func94, Tryz.ntmps94
    go_wp2
    go_loopw [3, 4] (fun vo vd wr => ∃ k : Nat, k ≤ lenQ (f, t, d) ∧ vd = .int .i64 (f + k) ∧ IOwn 3 (w.heap.size + 1) wr vo (daysTo (f, t, d) k) ∧ Box3 w w.heap.size (f, t, d) wr) (fun _ vd _ => (t + 1 - intOf vd).toNat)
    case atStart => exact ⟨0, Nat.zero_le _, by simp, IOwn.nil (by simp), hB⟩
    case round =>
      obtain ⟨k, hk, rfl, hO, hb⟩ := hrel
      have hb0 := hb
      obtain ⟨c0, c1, c2, c3⟩ := hb
      by_cases hlt : k < lenQ (f, t, d)
      · have x3 : f + (k : Int) ≤ t := by omega
        have CH := Lib.hid (fun W => rhas_any f t d (f + k) W (by omega) (by omega))
        rw [show hasQ (f, t, d) (f + k) = wdB d (f + k) from HH.out k h hlt] at CH
        have hll := daysTo_len (f, t, d) k
        cases hw : wdB d (f + k)
        · have HN := Lib.hid (daysTo_miss (f, t, d) k hw)
          rw [hw] at CH
          clear hw
          go_wp2_with (first | (go_at_call 67; refine (CV.out _).mono ?_; rintro e w2 ⟨rfl, hb1⟩; have hb2 := hb0.more hb1; have d0 := hb2.1; have d1 := hb2.2.1; have d2 := hb2.2.2.1; have hO2 := hO.more hb1) | (go_at_call 51; refine (CH.out _).mono ?_; rintro e w3 ⟨rfl, hb3⟩))
          go_roundw
          case rel => exact ⟨k + 1, by omega, by congr 1; omega, by rw [HN.out]; exact hO2.more hb3, hb2.more hb3⟩
          case measure => simp [intOf]; omega
        · have HN := Lib.hid (daysTo_hit (f, t, d) k hw)
          rw [hw] at CH
          clear hw
          go_wp2_with (first | (go_at_call 67; refine (CV.out _).mono ?_; rintro e w2 ⟨rfl, hb1⟩; have hb2 := hb0.more hb1; have d0 := hb2.1; have d1 := hb2.2.1; have d2 := hb2.2.2.1; have hO2 := hO.more hb1) | (go_at_call 51; refine (CH.out _).mono ?_; rintro e w3 ⟨rfl, hb3⟩; have hO3 := hO2.more hb3) | (refine wpList_iapp rfl _ _ rfl _ (daysTo (f, t, d) k) rfl (hO3.alloc _) _ (f + k) 1 rfl (heap_alloc_new _ _) (by omega) ?_; intro v' w4 hO4 hb4))
          go_roundw
          case rel => exact ⟨k + 1, by omega, by congr 1; omega, by rw [HN.out]; exact hO4, ((hb2.more hb3).more (bel_alloc _ _)).more1 hb4⟩
          case measure => simp [intOf]; omega
      · have e : k = lenQ (f, t, d) := by omega
        subst e
        go_wp2_with (go_at_call 67; refine (CV.out _).mono ?_; rintro e w2 ⟨rfl, hb1⟩; have hb2 := hb0.more hb1; have d1 := hb2.2.1)
        go_ret
        exact ⟨_, rfl, by rw [HD.out]; exact .of_own (hO.more hb1).own, hb2.2.2.2⟩

end Go.Proofs.YtdpcjafkahhecaaGreatDoor.Per

/- Walks of the reference's canonical periods: of, Normal, Meet. -/
namespace Go.Proofs.YtdpcjafkahhecaaGreatDoor.Per
open Go.RowKit
set_option linter.unusedSimpArgs false
set_option linter.unusedVariables false

theorem IntL.cells {w : World} {A : Option Addr} {n c : Nat} {l : List Int} (h : IntL w (.slice A n c) l) (hp : 0 < l.length) :
    ∃ b o, A = some ⟨b, o, none⟩ ∧ n = l.length ∧ b < w.heap.size ∧ ∀ i (h : i < l.length), w.cell? ⟨b, o + i, none⟩ = some (.int .i64 l[i]) := by
  obtain ⟨A', c', e, h⟩ := h
  cases e
  rcases h with h | ⟨b, o, h1, h2, h3⟩
  · rw [h] at hp; simp at hp
  · exact ⟨b, o, h1, rfl, h2, h3⟩
theorem headD_at (l : List Int) (h : 0 < l.length) : l.headD 0 = l[0] := by cases l with
  | nil => simp at h
  | cons x r => rfl
theorem lastD_at (l : List Int) (h : 0 < l.length) : l.getLastD 0 = l[l.length - 1] := by
  rw [List.getLastD_eq_getLast?, List.getLast?_eq_getElem?, List.getElem?_eq_getElem (by omega)]; rfl
theorem maskN_take (l : List Int) (k : Nat) (h : k < l.length) : maskN (l.take (k + 1)) = (maskN (l.take k) ||| 2 ^ wkN l[k]) := by
  rw [List.take_succ_eq_append_getElem h, maskN_snoc]
theorem quo_zero (m k : Nat) (hm : m < 128) (hk : k < 7) : ((m : Int) / ((2 ^ k : Nat) : Int) % 2 == 0) = decide (m / 2 ^ k % 2 = 0) := by
  have e : ((m : Int) / ((2 ^ k : Nat) : Int)) = ((m / 2 ^ k : Nat) : Int) := by simp
  rw [e]
  generalize m / 2 ^ k = z
  by_cases h : z % 2 = 0
  · have h2 : ((z : Int) % 2) = 0 := by omega
    rw [h2]; simp [h]
  · have h2 : ((z : Int) % 2) = 1 := by omega
    rw [h2]; simp [h]

set_option maxRecDepth 100000 in
set_option maxHeartbeats 4000000 in
theorem rof_any (v : Value) (l : List Int) (w : World) (hv : IntL w v l) (hn : l.length ≤ 1000) (hr : ∀ n ∈ l, 0 ≤ n ∧ n < 36525) :
    Calls Tryz.prog 124 #[v] w fun e w' => e = .returned (.tuple #[encQ (ofQ l).1, .bool (ofQ l).2]) ∧ Below w.heap.size w w' := by
  obtain ⟨A, c, rfl, hc⟩ := hv
  by_cases h0 : l.length = 0
  · have e0 : l = [] := List.eq_nil_of_length_eq_zero h0
    have HR : Hid (ofQ l = ((0, 0, 0), false)) := Lib.hid (by rw [e0]; rfl)
    have i0 : (l.length : Int) = 0 := by omega
    have i1 : ((l.length : Int) == 0) = true := by simp [h0]
    clear hc h0 e0
    go_enter Tryz.func124, Tryz.ntmps124
    go_wp2
    refine bodyPost_ret (v := .tuple #[encQ (0, 0, 0), .bool false]) ?_ rfl ⟨by rw [HR.out], ?_⟩
    · simp [results, Tryz.results124, go_sem]
    · exact bel_alloc _ _
  · have hp : 0 < l.length := by omega
    obtain ⟨b, o, rfl, hb, hcc⟩ : ∃ b o, A = some ⟨b, o, none⟩ ∧ b < w.heap.size ∧ ∀ i (h : i < l.length), w.cell? ⟨b, o + i, none⟩ = some (.int .i64 l[i]) := by
      rcases hc with h | h
      · rw [h] at hp; simp at hp
      · exact h
    have i1 : ((l.length : Int) == 0) = false := by rw [beq_eq_false_iff_ne]; omega
    have g0 := hcc 0 hp
    have g1 := hcc (l.length - 1) (by omega)
    have HX : Hid (ofQ l = ((l[0], l[l.length - 1], (maskN l : Int)), true)) := Lib.hid (by
      rw [ofQ, accQ, headD_at l hp, lastD_at l hp]
      have : l ≠ [] := by rintro rfl; simp at hp
      simp [this])
    rw [Nat.add_zero] at g0
    have i2 : ((l.length : Int) - 1).toNat = l.length - 1 := by omega
    have i3 : (l.length : Int) - 1 < (l.length : Int) := by omega
    have i4 : (0 : Int) ≤ (l.length : Int) - 1 := by omega
    have i5 : (0 : Int) < (l.length : Int) := by omega
    have hC := Lib.hid hcc
    clear hcc hc
    generalize l[0] = x at *
    generalize l[l.length - 1] = y at *
    go_enter Tryz.func124, Tryz.ntmps124
    go_wp2
    go_region
    have bn : BoxAt ((w.alloc (.cells #[.int .i64 0, .int .i64 0, .int .i64 0] 58)).alloc (.cells #[.int .i64 x, .int .i64 y, .int .i64 0] 58)).drew (w.heap.size + 1) (x, y, 0) := by
      have h := heap_alloc_new (w.alloc (.cells #[.int .i64 0, .int .i64 0, .int .i64 0] 58)) (.cells #[.int .i64 x, .int .i64 y, .int .i64 0] 58)
      rw [World.size_alloc] at h
      exact BoxAt.drew' (show BoxAt _ _ (x, y, 0) from h)
    have br : BoxAt ((w.alloc (.cells #[.int .i64 0, .int .i64 0, .int .i64 0] 58)).alloc (.cells #[.int .i64 x, .int .i64 y, .int .i64 0] 58)).drew w.heap.size (0, 0, 0) :=
      (BoxAt.more (show BoxAt _ _ (0, 0, 0) from heap_alloc_new w _) (bel_alloc _ _)).drew'
    have hb1 : Below w.heap.size w ((w.alloc (.cells #[.int .i64 0, .int .i64 0, .int .i64 0] 58)).alloc (.cells #[.int .i64 x, .int .i64 y, .int .i64 0] 58)).drew := ((bel_alloc w _).alloc (by simp) _).drew
    generalize ((w.alloc (.cells #[.int .i64 0, .int .i64 0, .int .i64 0] 58)).alloc (.cells #[.int .i64 x, .int .i64 y, .int .i64 0] 58)).drew = W1 at *
    clear g0 g1 i1 i2 i3 i4
    go_wp2
    go_loopw [5] (fun vi wr => ∃ k : Nat, k ≤ l.length ∧ vi = .int .i64 k ∧ BoxAt wr (w.heap.size + 1) (x, y, (maskN (l.take k) : Nat)) ∧ BoxAt wr w.heap.size (0, 0, 0) ∧ Below w.heap.size w wr) (fun vi _ => l.length - (intOf vi).toNat)
    case atStart => exact ⟨0, Nat.zero_le _, rfl, bn, br, hb1⟩
    case round =>
      clear bn br hb1
      obtain ⟨k, hk, rfl, hN, hR, hB⟩ := hrel
      by_cases hlt : k < l.length
      · have g0 : wr.cell? ⟨b, o + k, none⟩ = some (.int .i64 l[k]) := (hB.cell (p := ⟨b, o + k, none⟩) hb).trans (hC.out k hlt)
        have i1 : (k : Int) < (l.length : Int) := by omega
        have HT := Lib.hid (maskN_take l k hlt)
        have hx := hr l[k] (List.getElem_mem hlt)
        generalize l[k] = n at *
        have hkk := wkN_lt n
        have hm := maskN_lt (l.take k)
        have hp2 := pow_step (wkN n) hkk
        have HQ := Lib.hid (quo_zero (maskN (l.take k)) (wkN n) hm hkk)
        have HO := Lib.hid (or_add (maskN (l.take k)) hm (wkN n) hkk)
        have CB : Hid (∀ w, Calls Tryz.prog 78 #[.int .i64 n] w fun e w' => e = .returned (.int .i64 ((2 ^ wkN n : Nat) : Int)) ∧ w' = w) := Lib.hid (fun w => (bit_any n w (by omega) (by omega)).mono (by rintro e w' ⟨rfl, rfl⟩; exact ⟨rfl, rfl⟩))
        generalize maskN (l.take k) = m at *
        obtain ⟨c0, c1, c2⟩ := hN.cell
        have f2 := hN.frozen 2
        by_cases hz : m / 2 ^ wkN n % 2 = 0
        · have t1 := HQ.out
          rw [decide_eq_true hz] at t1
          rw [if_pos hz] at HO
          have HM : Hid ((m : Int) + ((2 ^ wkN n : Nat) : Int) = ((m ||| 2 ^ wkN n : Nat) : Int)) := Lib.hid (by rw [HO.out]; omega)
          clear hz HQ HO
          generalize ((2 ^ wkN n : Nat) : Int) = z at *
          have z0 : ¬ z = 0 := by omega
          have z1 : ¬ z = -1 := by omega
          have z2 : 0 ≤ (m : Int) / z := Int.ediv_nonneg (by omega) (by omega)
          have z3 : (m : Int) / z ≤ 127 := by have := Int.ediv_le_self z (show (0 : Int) ≤ m by omega); omega
          go_wp2
          go_quiet ((go_at_call 78; exact Calls.quiet_of_same (CB.out _)))
          go_wp2
          have hws : IntKind.i64.wrap ((m : Int) + z) = (m : Int) + z := by rw [IntKind.wrap_i64]; omega
          go_region_with ((go_at_call 78; refine (CB.out _).mono ?_; rintro e w2 ⟨rfl, rfl⟩))
          all_goals
            go_wp2
            go_roundw
            case rel =>
              refine ⟨k + 1, by omega, by go_num, ?_, (hR.more (bel_self _ _)).set (by simp) 2 _, (hB.trans ((bel_self _ _).mono hB.size)).setCell (p := ⟨w.heap.size + 1, 2, none⟩) (by simp) _⟩
              rw [HT.out, ← HM.out]
              exact (hN.more (bel_self _ _)).set2 _
            case measure => simp [intOf]; omega
        · have t1 := HQ.out
          rw [decide_eq_false hz] at t1
          rw [if_neg hz] at HO
          rw [HO.out] at HT
          clear hz HQ HO
          generalize ((2 ^ wkN n : Nat) : Int) = z at *
          have z0 : ¬ z = 0 := by omega
          have z1 : ¬ z = -1 := by omega
          have z2 : 0 ≤ (m : Int) / z := Int.ediv_nonneg (by omega) (by omega)
          have z3 : (m : Int) / z ≤ 127 := by have := Int.ediv_le_self z (show (0 : Int) ≤ m by omega); omega
          go_wp2
          go_quiet ((go_at_call 78; exact Calls.quiet_of_same (CB.out _)))
          go_wp2
          go_roundw
          case rel => exact ⟨k + 1, by omega, by go_num, by rw [HT.out]; exact hN.more (bel_self _ _), hR.more (bel_self _ _), hB.trans ((bel_self _ _).mono hB.size)⟩
          case measure => simp [intOf]; omega
      · have HT : Hid (maskN (l.take k) = maskN l) := Lib.hid (by rw [List.take_of_length_le (by omega)])
        rw [HT.out] at hN
        obtain ⟨c0, c1, c2⟩ := hN.cell
        have hR2 := ((hR.set0 x).set1 y).set2 ((maskN l : Nat) : Int)
        obtain ⟨d0, d1, d2⟩ := hR2.cell
        obtain ⟨e0, e1, e2⟩ := hR.cell
        have f0 := hR.frozen 0
        have f1 := hR.frozen 1
        have f2 := hR.frozen 2
        go_wp2
        refine bodyPost_ret (v := .tuple #[encQ (x, y, ((maskN l : Nat) : Int)), .bool true]) ?_ rfl ⟨by rw [HX.out], ?_⟩
        · simp [results, Tryz.results124, go_sem, d0, d1, d2]
        · exact ((hB.setCell (p := ⟨w.heap.size, 0, none⟩) (Nat.le_refl _) _).setCell (p := ⟨w.heap.size, 1, none⟩) (Nat.le_refl _) _).setCell (p := ⟨w.heap.size, 2, none⟩) (Nat.le_refl _) _

/-- the box of the second block laid -/
theorem box_second (w : World) (o : Obj) (p : Per) : BoxAt ((w.alloc o).alloc (.cells #[.int .i64 p.1, .int .i64 p.2.1, .int .i64 p.2.2] perT)) (w.heap.size + 1) p := by
  have h := heap_alloc_new (w.alloc o) (.cells #[.int .i64 p.1, .int .i64 p.2.1, .int .i64 p.2.2] perT)
  rw [World.size_alloc] at h
  exact h
/-- a result in a box of its own: what lies behind its three stores -/
theorem BoxAt.result {w W : World} {B : Nat} {p : Per} (h : BoxAt W B p) (q : Per) (hB : w.heap.size ≤ B) (hb : Below w.heap.size w W) :
    let W' := ((W.setCell ⟨B, 0, none⟩ (.int .i64 q.1)).setCell ⟨B, 1, none⟩ (.int .i64 q.2.1)).setCell ⟨B, 2, none⟩ (.int .i64 q.2.2)
    BoxAt W' B q ∧ Below w.heap.size w W' :=
  ⟨((h.set0 q.1).set1 q.2.1).set2 q.2.2, ((hb.setCell (p := ⟨B, 0, none⟩) hB _).setCell (p := ⟨B, 1, none⟩) hB _).setCell (p := ⟨B, 2, none⟩) hB _⟩
end Go.Proofs.YtdpcjafkahhecaaGreatDoor.Per

/- Walks of Meet, beside the reference's. -/
namespace Go.Proofs.YtdpcjafkahhecaaGreatDoor.Per
open Go.RowKit
set_option linter.unusedSimpArgs false
set_option linter.unusedVariables false

abbrev b64 (x : Int) : Prop := -9223372036854775808 ≤ x ∧ x ≤ 9223372036854775807
abbrev b643 (p : Per) : Prop := b64 p.1 ∧ b64 p.2.1 ∧ b64 p.2.2
theorem box_third (w : World) (o o' : Obj) (p : Per) : BoxAt (((w.alloc o).alloc o').alloc (.cells #[.int .i64 p.1, .int .i64 p.2.1, .int .i64 p.2.2] perT)) (w.heap.size + 1 + 1) p := by
  have h := heap_alloc_new ((w.alloc o).alloc o') (.cells #[.int .i64 p.1, .int .i64 p.2.1, .int .i64 p.2.2] perT)
  rw [World.size_alloc, World.size_alloc] at h
  exact h

/-! ### the reference's -/
theorem filter_take (l : List Int) (q : Int → Bool) (k : Nat) (h : k < l.length) : (l.take (k + 1)).filter q = if q l[k] then (l.take k).filter q ++ [l[k]] else (l.take k).filter q := by
  rw [List.take_succ_eq_append_getElem h, List.filter_append]
  cases hq : q l[k] <;> simp [hq]
theorem filter_short (l : List Int) (q : Int → Bool) (k : Nat) : ((l.take k).filter q).length ≤ l.length := Nat.le_trans (List.length_filter_le _ _) (by simp; omega)
set_option maxRecDepth 100000 in
set_option maxHeartbeats 4000000 in
theorem rmeet_any (a b : Per) (w : World) (ha : b643 a) : Calls Tryz.prog 98 #[encQ a, encQ b] w fun e W' => e = .returned (.tuple #[encQ (ofQ (mtQ a b)).1, .bool (ofQ (mtQ a b)).2]) ∧ Below w.heap.size w W' := by
  have CD := Lib.hid (fun W => rdays_any a.1 a.2.1 a.2.2 W ha.1.1 ha.1.2)
  have HM := Lib.hid (mtQ_filter a b)
  have hl := daysQ_len a
  have hr := daysQ_range a
  rw [show daysQ (a.1, a.2.1, a.2.2) = daysQ a from rfl] at CD
  generalize daysQ a = l at *
  have CO : Hid (∀ v W, IntL W v (l.filter fun n => hasQ b n) → _) := Lib.hid (fun v W hv => rof_any v (l.filter fun n => hasQ b n) W hv (Nat.le_trans (List.length_filter_le _ _) (by omega)) (fun n hn => hr n (List.mem_filter.1 hn).1))
  rw [HM.out] at CO
  have hbB := (box_second w (.cells #[.int .i64 a.1, .int .i64 a.2.1, .int .i64 a.2.2] perT) b).more (bel_alloc _ (.cells #[.int .i64 0, .int .i64 0, .int .i64 0] perT))
  have hbR := box_third w (.cells #[.int .i64 a.1, .int .i64 a.2.1, .int .i64 a.2.2] perT) (.cells #[.int .i64 b.1, .int .i64 b.2.1, .int .i64 b.2.2] perT) (0, 0, 0)
  have hb0 : Below w.heap.size w (((w.alloc (.cells #[.int .i64 a.1, .int .i64 a.2.1, .int .i64 a.2.2] perT)).alloc (.cells #[.int .i64 b.1, .int .i64 b.2.1, .int .i64 b.2.2] perT)).alloc (.cells #[.int .i64 0, .int .i64 0, .int .i64 0] perT)) := ((bel_alloc w _).alloc (by simp) _).alloc (by simp; omega) _
  generalize (ofQ (mtQ a b)).1 = q at *
  generalize (ofQ (mtQ a b)).2 = z at *
  go_enter Tryz.func98, Tryz.ntmps98
  go_wp2_with (go_at_call 94; refine (CD.out _).mono ?_; rintro e w1 ⟨v, rfl, hL, hb⟩; have hB1 := hbB.more hb; have hR1 := hbR.more hb; have hs1 : Below w.heap.size w w1 := hb0.trans (hb.mono (by simp; omega)); clear hb; obtain ⟨A, c, rfl, hc⟩ := hL)
  clear hb0 hbB hbR CD
  go_loopw [7, 8] (fun vo vi wr => ∃ k : Nat, k ≤ l.length ∧ vi = .int .i64 k ∧ IOwn 3 w1.heap.size wr vo ((l.take k).filter fun n => hasQ b n) ∧ Below w1.heap.size w1 wr) (fun _ vi _ => l.length - (intOf vi).toNat)
  case atStart => exact ⟨0, Nat.zero_le _, rfl, IOwn.nil (Nat.le_refl _), Below.refl _ _⟩
  case round =>
    obtain ⟨k, hk, rfl, hO, hb⟩ := hrel
    by_cases hlt : k < l.length
    · obtain ⟨g, o, rfl, hgl, hcc⟩ : ∃ b o, A = some ⟨b, o, none⟩ ∧ b < w1.heap.size ∧ ∀ i (h : i < l.length), w1.cell? ⟨b, o + i, none⟩ = some (.int .i64 l[i]) := by
        rcases hc with h | h
        · rw [h] at hlt; simp at hlt
        · exact h
      have g0 := hcc k hlt
      have i1 : (k : Int) < (l.length : Int) := by omega
      have HF := Lib.hid (filter_take l (fun n => hasQ b n) k hlt)
      have hsh := filter_short l (fun n => hasQ b n) k
      have hx := hr l[k] (List.getElem_mem hlt)
      clear hcc hc
      generalize l[k] = n at *
      have hBr := hB1.more hb
      have g1 : wr.cell? ⟨g, o + k, none⟩ = some (.int .i64 n) := (hb.cell (p := ⟨g, o + k, none⟩) hgl).trans g0
      have hgl2 : g < wr.heap.size := Nat.lt_of_lt_of_le hgl hb.size
      have hS0 : Below wr.heap.size wr wr.drew := (Below.refl _ _).drew
      have CH := Lib.hid (fun (x : World) (hx2 : Below wr.heap.size wr x) => bel_acc (w := wr) (rhas_any b.1 b.2.1 b.2.2 n x (by omega) (by omega)) hx2)
      have k0 : ∀ x : Wd (Below wr.heap.size wr), x.w.cell? ⟨w.heap.size + 1, 0, none⟩ = some (.int .i64 b.1) := fun x => (hBr.more x.ok).cell.1
      have k1 : ∀ x : Wd (Below wr.heap.size wr), x.w.cell? ⟨w.heap.size + 1, 1, none⟩ = some (.int .i64 b.2.1) := fun x => (hBr.more x.ok).cell.2.1
      have k2 : ∀ x : Wd (Below wr.heap.size wr), x.w.cell? ⟨w.heap.size + 1, 2, none⟩ = some (.int .i64 b.2.2) := fun x => (hBr.more x.ok).cell.2.2
      have k3 : ∀ x : Wd (Below wr.heap.size wr), x.w.cell? ⟨g, o + k, none⟩ = some (.int .i64 n) := fun x => (x.ok.cell (p := ⟨g, o + k, none⟩) hgl2).trans g1
      cases hh : hasQ b n
      · rw [show hasQ (b.1, b.2.1, b.2.2) n = false from hh] at CH
        rw [hh, if_neg (by simp)] at HF
        clear hh
        go_wp2
        have hNe : Nonempty (Wd (Below wr.heap.size wr)) := ⟨⟨_, hS0⟩⟩
        refine quietS (S := Below wr.heap.size wr) (by kernel_rfl) (by kernel_rfl) (hS0) ?_
        repeat (first | go_big_quiet_skip | (go_big_quiet_want; go_big_quiet_op; first | go_big_quiet_on | go_big_quiet_call ((go_at_call 51; exact quiet_S (CH.out _ (Wd.ok _))))))
        refine wpQuiet_nil ?_
        rintro W ⟨⟨_, hW⟩, rfl⟩
        go_wp2
        go_roundw
        case rel => exact ⟨k + 1, by omega, by go_num, by rw [HF.out]; exact hO.more hW, hb.trans (hW.mono hb.size)⟩
        case measure => simp [intOf]; omega
      · rw [show hasQ (b.1, b.2.1, b.2.2) n = true from hh] at CH
        rw [hh, if_pos rfl] at HF
        clear hh
        go_wp2
        have hNe : Nonempty (Wd (Below wr.heap.size wr)) := ⟨⟨_, hS0⟩⟩
        refine quietS (S := Below wr.heap.size wr) (by kernel_rfl) (by kernel_rfl) (hS0) ?_
        repeat (first | go_big_quiet_skip | (go_big_quiet_want; go_big_quiet_op; first | go_big_quiet_on | go_big_quiet_call ((go_at_call 51; exact quiet_S (CH.out _ (Wd.ok _))))))
        refine wpQuiet_nil ?_
        rintro W ⟨⟨_, hW⟩, rfl⟩
        have g2 : W.cell? ⟨g, o + k, none⟩ = some (.int .i64 n) := (hW.cell (p := ⟨g, o + k, none⟩) hgl2).trans g1
        have hOW := hO.more hW
        go_wp2_with (refine wpList_iapp rfl _ _ rfl _ ((l.take k).filter fun n => hasQ b n) rfl (hOW.alloc _) _ n 1 rfl (heap_alloc_new _ _) (by omega) ?_; intro v' w4 hO4 hb4)
        go_roundw
        case rel => exact ⟨k + 1, by omega, by go_num, by rw [HF.out]; exact hO4, (hb.trans (hW.mono hb.size)).trans (((Below.refl _ W).alloc (Nat.le_trans hb.size hW.size) _).trans hb4)⟩
        case measure => simp [intOf]; omega
    · rw [List.take_of_length_le (by omega), HM.out] at hO
      have hRr := hR1.more hb
      go_wp2_with (go_at_call 124; refine (CO.out _ _ (.of_own hO.own)).mono ?_; rintro e w2 ⟨rfl, hb2⟩; have hR2 := hRr.more hb2; have c0 := hR2.cell.1; have c1 := hR2.cell.2.1; have c2 := hR2.cell.2.2; have f0 := hR2.frozen 0; have f1 := hR2.frozen 1; have f2 := hR2.frozen 2)
      have hsr := hs1.trans (hb.mono hs1.size)
      obtain ⟨h1, h2⟩ := hR2.result q (by omega) (hsr.trans (hb2.mono hsr.size))
      obtain ⟨d0, d1, d2⟩ := h1.cell
      refine bodyPost_ret (v := .tuple #[encQ q, .bool z]) ?_ rfl ⟨rfl, h2⟩
      simp [results, Tryz.results98, go_sem, d0, d1, d2]

end Go.Proofs.YtdpcjafkahhecaaGreatDoor.Per

/- Walk of flight.Check. -/
namespace Go.Proofs.YtdpcjafkahhecaaGreatDoor
open Go.RowKit Go.Shelf
set_option linter.unusedSimpArgs false
set_option linter.unusedVariables false

theorem LegL.take {w : World} {A : Option Addr} {n c : Nat} {l : List Lg} (h : LegL w (.slice A n c) l) (k : Nat) : LegL w (.slice A (l.take k).length c) (l.take k) := by
  obtain ⟨A', c', e, h⟩ := h
  cases e
  refine ⟨A, c, rfl, ?_⟩
  rcases h with h | ⟨b, o, h1, h2, h3⟩
  · exact .inl (by simp [h])
  · refine .inr ⟨b, o, h1, h2, fun i x j u hi hu => h3 i x j u ?_ hu⟩
    rw [List.getElem?_take] at hi
    split at hi
    · exact hi
    · cases hi
def carW : ByteArray := ⟨#[99, 97, 114, 114, 105, 101, 114]⟩
def numW : ByteArray := ⟨#[110, 117, 109, 98, 101, 114]⟩
def perW : ByteArray := ⟨#[112, 101, 114, 105, 111, 100]⟩
def lgsW : ByteArray := ⟨#[108, 101, 103, 115]⟩
def legW : ByteArray := ⟨#[108, 101, 103, 32]⟩
def hdF (f : FV) : List Flt := pick carW [if (!carB f.car) = true then 5 else 0] ++ (pick numW [if (!numB f.num) = true then 2 else 0] ++ pick perW [Per.errQ (f.pf, f.pt, f.pd)])
def lgEs (l : List Air) (before : List Lg) (x : Lg) : List Int :=
  [if (!codeB x.eq 3 3) = true then 5 else 0, if (!((findC l x.f).isSome && (findC l x.t).isSome)) = true then 14 else 0, if (!nextB before x) = true then 15 else 0, if (!(minB x.dep && minB x.arr)) = true then 2 else 0]
def lgsF (l : List Air) (lg : List Lg) (k : Nat) : List Flt := (List.range k).flatMap fun i => match lg[i]? with
  | some x => pick (legW ++ decA i) (lgEs l (lg.take i) x)
  | none => []
theorem lgsF_succ (l : List Air) (lg : List Lg) (k : Nat) (x : Lg) (h : lg[k]? = some x) : lgsF l lg (k + 1) = lgsF l lg k ++ pick (legW ++ decA k) (lgEs l (lg.take k) x) := by
  simp [lgsF, List.range_succ, h]
theorem lgsF_le (l : List Air) (lg : List Lg) : ∀ k, (lgsF l lg k).length ≤ 4 * k
  | 0 => by simp [lgsF]
  | k + 1 => by
    have ih := lgsF_le l lg k
    have e : lgsF l lg (k + 1) = lgsF l lg k ++ (match lg[k]? with | some x => pick (legW ++ decA k) (lgEs l (lg.take k) x) | none => []) := by simp [lgsF, List.range_succ]
    rw [e, List.length_append]
    cases lg[k]? with
    | none => simp; omega
    | some x =>
      have := pick_le (legW ++ decA k) (lgEs l (lg.take k) x)
      simp only [lgEs, List.length_cons, List.length_nil] at this ⊢
      omega
def wh (b : Bool) (e : Int) : Int := if b = true then e else 0
theorem fwh_any (b : Bool) (e : Int) (w : World) : Calls Tryz.prog 35 #[.bool b, .int .i64 e] w fun r w' => r = .returned (.int .i64 (wh b e)) ∧ w = w' := fwhen_any b e w
theorem hdF_le (f : FV) : (hdF f).length ≤ 3 := by
  unfold hdF
  have h1 := pick_le carW [if (!carB f.car) = true then 5 else 0]
  have h2 := pick_le numW [if (!numB f.num) = true then 2 else 0]
  have h3 := pick_le perW [Per.errQ (f.pf, f.pt, f.pd)]
  rw [List.length_append, List.length_append]
  simp only [List.length_cons, List.length_nil] at h1 h2 h3
  omega
def chF (l : List Air) (f : FV) : List Flt := if cntB f.lg.length = true then (if (hdF f ++ lgsF l f.lg f.lg.length).length = 0 then timF l f else hdF f ++ lgsF l f.lg f.lg.length) else hdF f ++ pick lgsW [4]

end Go.Proofs.YtdpcjafkahhecaaGreatDoor

/- Plain words on timetables: what is taken, violations, days that differ. -/
namespace Go.Proofs.YtdpcjafkahhecaaGreatDoor
open Go.RowKit Go.Shelf
set_option linter.unusedSimpArgs false
set_option linter.unusedVariables false

/-- whether one of the flights is operated under a name on a day -/
def tkn (L : List FV) (c : ByteArray × Int) (day : Int) : Bool := L.any fun f => (decide (f.car = c.1) && decide (f.num = c.2)) && Per.hasQ (f.pf, f.pt, f.pd) day
/-- whether a flight is operated on a day on which one of the flights is under the same name -/
def twcB (L : List FV) (f : FV) : Bool := (Per.daysQ (f.pf, f.pt, f.pd)).any (tkn L (f.car, f.num))
/-- whether two flights have a name and a day in common -/
def mtsB (a b : FV) : Bool := ((a.car.toList == b.car.toList) && (a.num == b.num)) && (Per.ofQ (Per.mtQ (a.pf, a.pt, a.pd) (b.pf, b.pt, b.pd))).2
theorem car_eq (a b : ByteArray) : (a.toList == b.toList) = decide (a = b) := by
  by_cases h : a = b
  · subst h; simp
  · have h2 : a.toList ≠ b.toList := toList_ne h
    simp [h, h2]
theorem twc_iff (L : List FV) (f : FV) : twcB L f = L.any fun g => mtsB g f := by
  rw [Bool.eq_iff_iff]
  unfold twcB tkn mtsB
  simp only [List.any_eq_true, car_eq, Bool.and_eq_true, decide_eq_true_eq, Per.daysQ_mem, Per.ofQ, beq_iff_eq]
  constructor
  · rintro ⟨d, hd, g, hg, ⟨h1, h2⟩, h3⟩
    refine ⟨g, hg, ⟨h1, h2⟩, ?_⟩
    intro e
    have := (Per.mtQ_mem _ _ d).2 ⟨h3, hd⟩
    rw [e] at this
    cases this
  · rintro ⟨g, hg, ⟨h1, h2⟩, h3⟩
    obtain ⟨d, hd⟩ := List.exists_mem_of_ne_nil _ h3
    have h4 := (Per.mtQ_mem _ _ d).1 hd
    exact ⟨d, h4.2, g, hg, ⟨h1, h2⟩, h4.1⟩

def fliW : ByteArray := ⟨#[102, 108, 105, 103, 104, 116, 32]⟩
def spW : ByteArray := ⟨#[32]⟩
/-- violations of a flight, told with where it stands -/
def preF (at_ : ByteArray) (l : List Flt) : List Flt := l.map fun x => (x.1, (at_ ++ spW) ++ x.2)
/-- the violations of the first k flights -/
def schF (l : List Air) (fs : List FV) (k : Nat) : List Flt := (List.range k).flatMap fun i => match fs[i]? with
  | some f => preF (fliW ++ decA i) (chF l f) ++ pick (fliW ++ decA i) [wh (twcB (fs.take i) f) 6]
  | none => []
theorem schF_zero (l : List Air) (fs : List FV) : schF l fs 0 = [] := rfl
theorem schF_succ (l : List Air) (fs : List FV) (k : Nat) (f : FV) (h : fs[k]? = some f) : schF l fs (k + 1) = schF l fs k ++ (preF (fliW ++ decA k) (chF l f) ++ pick (fliW ++ decA k) [wh (twcB (fs.take k) f) 6]) := by
  simp [schF, List.range_succ, h]
/-- the days of D on which two lists operate a flight in different ways -/
def difB (a b : List FV) (car : ByteArray) (num day : Int) : Bool :=
  ((onF a car num day).isSome != (onF b car num day).isSome) || !(sameL ((onF a car num day).getD fliZ).lg ((onF b car num day).getD fliZ).lg)
def difL (a b : List FV) (car : ByteArray) (num : Int) (D : List Int) : List Int := D.filter (difB a b car num)
theorem IntL.at1 {w : World} {A : Option Addr} {c : Nat} {l : List Int} (h : Per.IntL w (.slice A l.length c) l) {k : Nat} (hk : k < l.length) : ∃ b o, A = some ⟨b, o, none⟩ ∧ b < w.heap.size ∧ ∀ i (h : i < l.length), w.cell? ⟨b, o + i, none⟩ = some (.int .i64 l[i]) := by
  obtain ⟨A', c', e, h⟩ := h
  cases e
  rcases h with h | h
  · rw [h] at hk; simp at hk
  · exact h

end Go.Proofs.YtdpcjafkahhecaaGreatDoor

/- Walk of checkDistances, whatever there is to report. -/
namespace Go.Proofs.YtdpcjafkahhecaaGreatDoor
open Go.RowKit Go.Shelf Go.Maps
set_option linter.unusedSimpArgs false
set_option linter.unusedVariables false

theorem laidOutP : laidOutB Tryz.prog = true := by kernel_rfl
end Go.Proofs.YtdpcjafkahhecaaGreatDoor

/- A map of maps: what is taken under each name. -/
namespace Go.Proofs.YtdpcjafkahhecaaGreatDoor
open Go.RowKit Go.Shelf Go.Maps
set_option linter.unusedSimpArgs false
set_option linter.unusedVariables false

theorem dayK : Keyed Tryz.prog 3 := int_keyed Tryz.underlying3
def enN (c : ByteArray × Int) : Value := .agg #[.string c.1, .int .i64 c.2]
def enI (d : Int) : Value := .int .i64 d
theorem enN_inj (c c' : ByteArray × Int) (h : enN c = enN c') : c = c' := by
  obtain ⟨a, b⟩ := c
  obtain ⟨a', b'⟩ := c'
  simp [enN] at h
  obtain ⟨rfl, rfl⟩ := h
  rfl
theorem enI_inj (c c' : Int) (h : enI c = enI c') : c = c' := by simpa [enI] using h
theorem key_day (d : Int) (h : (Lit.int .i64 d).wf = true) : keyOf Tryz.prog 3 (enI d) = some (.int .i64 d) := keyOf_int_mk Tryz.underlying3 h
abbrev mapD : TypeId := 116
theorem zeroMD (w : World) : (zeroValue mapD).run Tryz.prog w = .ok (.map none) w := by kernel_rfl
theorem nilM_yes (w : World) : (binOp .eql mapD (.map none) (.map none)).run Tryz.prog w = .ok (.bool true) w := by kernel_rfl
theorem nilM_no (b : Nat) (w : World) : (binOp .eql mapD (.map (some b)) (.map none)).run Tryz.prog w = .ok (.bool false) w := by kernel_rfl
/-- the days that are held -/
def gD (U : Int → Bool) (d : Int) : Option Value := if U d then some (.bool true) else none
theorem gD_get (U : Int → Bool) (d : Int) : (gD U d).getD (.bool false) = .bool (U d) := by
  unfold gD
  cases U d <;> rfl
abbrev MapDy (w : World) (b n : Nat) (U : Int → Bool) : Prop := MapK Tryz.prog 3 enI w b n (gD U)
theorem MapK.weak {κ : Type} {P : Program} {k : TypeId} {en : κ → Value} {w : World} {b n n' : Nat} {g : κ → Option Value} (h : MapK P k en w b n g) (hn : n ≤ n') : MapK P k en w b n' g := by
  obtain ⟨es, clock, h1, h2, h3, h4⟩ := h
  exact ⟨es, clock, h1, h2, Nat.le_trans h3 hn, h4⟩
theorem gD_put (U : Int → Bool) (d : Int) : (fun d' => if d' = d then some (Value.bool true) else gD U d') = gD (fun d' => U d' || decide (d' = d)) := by
  funext d'
  unfold gD
  by_cases e : d' = d
  · rw [if_pos e]; simp [e]
  · rw [if_neg e]; simp [e]
/-- the blocks of maps from lo on -/
def MapX (w : World) (lo : Nat) (k : Nat) : Prop := lo ≤ k ∧ ∃ es cl, w.heap[k]? = some (.map es cl)
theorem MapK.isX {κ : Type} {P : Program} {k : TypeId} {en : κ → Value} {w : World} {b n lo : Nat} {g : κ → Option Value} (h : MapK P k en w b n g) (hlo : lo ≤ b) : MapX w lo b := by
  obtain ⟨es, clock, h1, _⟩ := h
  exact ⟨hlo, es, clock, h1⟩
theorem But.of_grown {w w' : World} {b : Nat} {X : Nat → Prop} (h : w.grownBy w' (some b)) (hx : X b) : But w w' X := ⟨h.os, h.tape, h.output, h.size, fun k hk hn => h.block k hk (fun e => hn (by have := Option.some.inj e; rw [this]; exact hx))⟩
theorem But.grown {w w1 w' : World} {b : Nat} {X : Nat → Prop} (h : But w w1 X) (hg : w1.grownBy w' (some b)) (hx : b < w.heap.size → X b) : But w w' X :=
  h.trans (But.of_grown (X := fun k => k = b) hg rfl) (fun k hk e => by rw [e] at hk ⊢; exact hx hk)
theorem but_cell {w w' : World} {B : Nat} {a : Addr} {v : Value} (h : But w w' (fun k => k = B)) (hc : w.cell? a = some v) (hne : a.block ≠ B) : w'.cell? a = some v := (World.cell?_of_block (h.block a.block (World.block_lt_of_cell? _ _ hc) hne)).trans hc
theorem cell_ne_map {κ : Type} {P : Program} {k : TypeId} {en : κ → Value} {w : World} {b n : Nat} {g : κ → Option Value} {a : Addr} {v : Value} (hc : w.cell? a = some v) (h : MapK P k en w b n g) : a.block ≠ b := by
  intro e
  obtain ⟨es, cl, h1, _⟩ := h
  rw [← e] at h1
  simp [World.cell?, h1] at hc
/-- what is taken behind a flight -/
def tkP (T : ByteArray × Int → Int → Bool) (f : FV) (c : ByteArray × Int) (d : Int) : Bool := T c d || (decide (c = (f.car, f.num)) && decide (d ∈ Per.daysQ (f.pf, f.pt, f.pd)))
theorem any_takeT {D : List Int} {U : Int → Bool} {k : Nat} {d : Int} (h : D[k]? = some d) : (D.take (k + 1)).any U = ((D.take k).any U || U d) := by
  obtain ⟨hk, rfl⟩ := List.getElem?_eq_some_iff.1 h
  rw [← List.take_append_getElem hk, List.any_append]
  simp only [List.any_cons, List.any_nil, Bool.or_false]
theorem asc_new {D : List Int} (ha : Per.Asc D) {k : Nat} {d : Int} (h : D[k]? = some d) : d ∉ D.take k := by
  obtain ⟨hk, rfl⟩ := List.getElem?_eq_some_iff.1 h
  intro hm
  obtain ⟨j, hj, e⟩ := List.mem_take_iff_getElem.1 hm
  have := List.pairwise_iff_getElem.1 ha j k (by omega) hk (by omega)
  omega

end Go.Proofs.YtdpcjafkahhecaaGreatDoor

/- Walk of flight.Segs. -/
namespace Go.Proofs.YtdpcjafkahhecaaGreatDoor
open Go.RowKit Go.Shelf
set_option linter.unusedSimpArgs false
set_option linter.unusedVariables false

theorem RowL.dropAt {w : World} {b o c n : Nat} {L : List Dt} (h : RowL 8 encDt w (.slice (some ⟨b, o, none⟩) n c) L) (i : Nat) {k : Nat} {y : Dt} (hk : (L.drop i)[k]? = some y) : ∀ j u, (encDt y)[j]? = some u → w.cell? ⟨b, o + i * 8 + k * 8 + j, none⟩ = some u := by
  rw [List.getElem?_drop] at hk
  obtain ⟨b', o', e, _, hc⟩ := RowL.at8 h hk
  cases e
  intro j u hu
  have := hc j u hu
  rw [show o + i * 8 + k * 8 + j = o + (i + k) * 8 + j by rw [Nat.add_mul]; omega]
  exact this
theorem heap_alloc_two (w : World) (a o : Obj) : ((w.alloc a).alloc o).heap[w.heap.size + 1]? = some o := by
  have h := heap_alloc_new (w.alloc a) o
  rwa [World.size_alloc] at h
theorem ROwn.cap {α : Type} {enc : α → List Value} {e : TypeId} {sz B : Nat} {w : World} {A : Option Addr} {n c : Nat} {l : List α} (h : ROwn e sz enc B w (.slice A n c) l) : l.length ≤ c := by
  rcases h.own.2 with ⟨e1, h1⟩ | ⟨g, cap, cur, e1, _, _, hnc, _⟩
  · omega
  · cases e1; exact hnc
/-- what the segments have in common with their flight -/
def SameFl (f : FV) (day : Int) (L : List Dt) : Prop := ∀ d ∈ L, d.car = f.car ∧ d.num = f.num ∧ d.day = day
theorem legF_same (l : List Air) (f : FV) (day : Int) : SameFl f day (legF l f day) := by
  intro d hd
  unfold legF at hd
  split at hd
  · obtain ⟨x, _, rfl⟩ := List.mem_map.1 hd
    exact ⟨rfl, rfl, rfl⟩
  · simp at hd

set_option maxRecDepth 100000 in
set_option maxHeartbeats 8000000 in
theorem segs_any (p : PV) (f : FV) (day : Int) (w : World) (hl : p.l.length ≤ 40) (hL : AirL w p.A p.l) (hs : ∀ a ∈ p.l, a.shs.length ≤ 300) (hz : ∀ a ∈ p.l, OkZ a.off a.shs) (hG : LegL w (.slice f.A f.lg.length f.c) f.lg) (hn : f.lg.length ≤ 100)
    (hm : ∀ x ∈ f.lg, (-1000000 ≤ x.dep ∧ x.dep ≤ 1000000) ∧ -1000000 ≤ x.arr ∧ x.arr ≤ 1000000) (hd1 : -9223372036854775808 ≤ day) (hd2 : day ≤ 9223372036854775807) :
    Calls Tryz.prog 49 #[encP p, encFl f, .int .i64 day] w fun e w' => ∃ v, e = .returned (.tuple #[v, .int .i64 (legE f day)]) ∧ ROwn segT 7 encSg w.heap.size w' v (segsL (legF p.l f day)) ∧ Below w.heap.size w w' := by
  have hb1 := bel_alloc w (.cells #[.slice p.A p.l.length p.ca, .slice p.D p.ds.length p.cd] placesT)
  have hb2 := bel_alloc (w.alloc (.cells #[.slice p.A p.l.length p.ca, .slice p.D p.ds.length p.cd] placesT)) (.cells #[.string f.car, .int .i64 f.num, .int .i64 f.pf, .int .i64 f.pt, .int .i64 f.pd, .slice f.A f.lg.length f.c] fliT)
  have hb0 := hb1.trans (hb2.mono hb1.size)
  have q0 := (cells_new (w.alloc (.cells #[.slice p.A p.l.length p.ca, .slice p.D p.ds.length p.cd] placesT)) #[.string f.car, .int .i64 f.num, .int .i64 f.pf, .int .i64 f.pt, .int .i64 f.pd, .slice f.A f.lg.length f.c] fliT 0).trans (show _ = some (.string f.car) from rfl)
  have q1 := (cells_new (w.alloc (.cells #[.slice p.A p.l.length p.ca, .slice p.D p.ds.length p.cd] placesT)) #[.string f.car, .int .i64 f.num, .int .i64 f.pf, .int .i64 f.pt, .int .i64 f.pd, .slice f.A f.lg.length f.c] fliT 1).trans (show _ = some (.int .i64 f.num) from rfl)
  rw [World.size_alloc] at q0 q1
  have KL := Lib.hid (legs_any p f day _ hl (hL.more hb0) hs hz (hG.more hb0) hn hm hd1 hd2)
  have HSM := Lib.hid (legF_same p.l f day)
  have HLn : Hid ((legF p.l f day).length ≤ 100) := Lib.hid (by unfold legF; split <;> simp <;> omega)
  have HLE : Hid (legE f day ≠ 0 → legF p.l f day = []) := Lib.hid (by unfold legE legF; split <;> simp)
  generalize hLF : legF p.l f day = L at *
  generalize legE f day = e0 at *
  clear hL hs hz hG hm hd1 hd2 hLF
  by_cases he : e0 = 0
  case neg =>
    have hb : (e0 != 0) = true := by simpa using he
    have HR : Hid (L = []) := Lib.hid (HLE.out he)
    clear he
    go_enter Tryz.func49, Tryz.ntmps49
    go_wp2_with (go_at_call 74; refine KL.out.mono ?_; rintro e w1 ⟨v1, rfl, hO1, hbl⟩)
    have h1 : Below w.heap.size w w1 := hb0.trans (Below.mono hbl hb0.size)
    exact bodyPost_ret (results_tmp2 rfl _ _ _) rfl ⟨_, rfl, by rw [HR.out]; exact ROwn.nil h1.size, h1⟩
  case pos =>
  subst he
  go_enter Tryz.func49, Tryz.ntmps49
  go_upto_region 6 with (go_at_call 74; refine KL.out.mono ?_; rintro e w1 ⟨v1, rfl, hO1, hbl⟩; obtain ⟨A1, c1, rfl, hvc⟩ := id (hO1.rowL rtD.len); have hcap := hO1.cap)
  have hS0 : Below w.heap.size w w1 := hb0.trans (Below.mono hbl hb0.size)
  have c0 := bel_cell hbl q0
  have c1' := bel_cell hbl q1
  have HV := Lib.hid (hO1.rowL rtD.len)
  have hlt1 : w.heap.size + 1 < w1.heap.size := World.block_lt_of_cell? _ _ c0
  have F0 := Lib.hid (bel_get c0)
  have F1 := Lib.hid (bel_get c1')
  clear hO1 hvc KL q0 q1 c0 c1' hbl HLE hb1 hb2
  go_loopg [10, 27] L.length (fun kx v10 vi wr => ∃ (v : Value) (i : Nat), v = v10 ∧ vi = .int .i64 i ∧ i + kx = L.length ∧ Hid (ROwn segT 7 encSg w1.heap.size wr v (segsI L i) ∧ SW w1 wr))
  case atStart => exact ⟨_, 0, rfl, rfl, by omega, Lib.hid ⟨ROwn.nil (Nat.le_refl _), Below.refl _ _⟩⟩
  case round =>
    obtain ⟨v, i, rfl, rfl, hix, HH⟩ := hrel
    have HIX := Lib.hid hix
    have hSr : SW w1 wr := HH.out.2
    by_cases hlt : i < L.length
    · clear hix
      obtain ⟨a, ha⟩ : ∃ a, L[i]? = some a := ⟨_, List.getElem?_eq_getElem hlt⟩
      obtain ⟨b, o, rfl, hbl, hc⟩ := RowL.at8 (HV.out.more hSr) ha
      have HSm := Lib.hid (HSM.out a (List.mem_of_getElem? ha))
      have HSS := Lib.hid (segsI_succ ha)
      have i2 : (i : Int) < (L.length : Int) := by omega
      have z0 := hc 0 _ rfl
      have z1 := hc 1 _ rfl
      have z2 := hc 2 _ rfl
      have z3 := hc 3 _ rfl
      have z4 := hc 4 _ rfl
      have z5 := hc 5 _ rfl
      have z6 := hc 6 _ rfl
      have z7 := hc 7 _ rfl
      rw [Nat.add_zero] at z0
      have hO := HH.out.1
      have HV1 : Hid (∀ g, v.ownBlock = some g → w1.heap.size ≤ g ∧ g < wr.heap.size) := Lib.hid (fun g hg => hO.low hg)
      have hvN : v.ownBlock ≠ some wr.heap.size := fun h => by have := (HV1.out _ h).2; omega
      have hb6 := bel_alloc wr (.cells #[.string a.car, .int .i64 a.num, .int .i64 a.day, .string a.f, .string a.t, .int .i64 a.dep, .int .i64 a.arr, .string a.eq] datT)
      have m3 := (cells_new wr #[.string a.car, .int .i64 a.num, .int .i64 a.day, .string a.f, .string a.t, .int .i64 a.dep, .int .i64 a.arr, .string a.eq] datT 3).trans (show _ = some (Value.string a.f) from rfl)
      have m5 := (cells_new wr #[.string a.car, .int .i64 a.num, .int .i64 a.day, .string a.f, .string a.t, .int .i64 a.dep, .int .i64 a.arr, .string a.eq] datT 5).trans (show _ = some (Value.int .i64 a.dep) from rfl)
      have i3 : (i : Int) ≤ (c1 : Int) := by omega
      have i4 : (L.length : Int) ≤ (c1 : Int) := by omega
      have i5 : (i : Int) ≤ (L.length : Int) := by omega
      have i6 : i < c1 := by omega
      have i7 : (i : Int) < (c1 : Int) := by omega
      have i8 : ¬ (c1 : Int) = (i : Int) := by omega
      have i9 : ¬ c1 = i := by omega
      have hi3 : (L.length - i : Nat) = (L.drop i).length := by rw [List.length_drop]
      have HD := Lib.hid hi3
      have hle : (segsI L i).length ≤ 10000 := by
        have h1 := segsI_le L i
        have h2 := HLn.out
        have h3 : i * L.length ≤ 100 * 100 := Nat.mul_le_mul (by omega) (by omega)
        omega
      have HLE2 := Lib.hid hle
      clear hc ha hle hi3
      have HLT := Lib.hid hlt
      have ib : i ≤ 100 := by have := HLn.out; omega
      have HNX : Hid (i + 1 + (L.length - (i + 1)) = L.length) := Lib.hid (by omega)
      have HM : Hid ((L.drop i).length = L.length - i) := Lib.hid (by rw [List.length_drop])
      have hm100 : L.length - i ≤ 100 := by have := HLn.out; omega
      go_upto_region 9 with fail
      generalize hw6 : wr.alloc (.cells #[.string a.car, .int .i64 a.num, .int .i64 a.day, .string a.f, .string a.t, .int .i64 a.dep, .int .i64 a.arr, .string a.eq] datT) = w6 at *
      clear hw6 z0 z1 z2 z3 z4 z5 z6 z7
      have hO6 := hO.more hb6
      have HS6 : Hid (SW w1 w6) := Lib.hid (Below.trans hSr (hb6.mono hSr.size))
      have HO6 := Lib.hid hO6
      have HM3 : Hid (∀ W u, Chg w6 W v u → W.cell? ⟨wr.heap.size, 3, none⟩ = some (.string a.f)) := Lib.hid (fun W u h => h.cell m3 hvN)
      have HM5 : Hid (∀ W u, Chg w6 W v u → W.cell? ⟨wr.heap.size, 5, none⟩ = some (.int .i64 a.dep)) := Lib.hid (fun W u h => h.cell m5 hvN)
      have HSW : Hid (∀ W u, Chg w6 W v u → SW w1 W) := Lib.hid (fun W u h => Below.trans HS6.out (h.below HO6.out))
      have HI0 : Hid (ROwn segT 7 encSg w1.heap.size w6 v (segsI L i ++ ((L.drop i).take 0).map (sgOf a)) ∧ Chg w6 w6 v v) := Lib.hid ⟨by simpa using hO6, Chg.refl _ _⟩
      have i10 : (0 : Int) ≤ ((L.length - i : Nat) : Int) := by omega
      clear hO hO6 m3 m5 hSr HH hb6 hbl i3 i4 i5 i6 i7 i8 i9 i2 HD
      generalize hmm : L.length - i = m at *
      clear hmm
      go_loopg [10, 36] m (fun kx v10 vk wr => ∃ (u : Value) (k : Nat), u = v10 ∧ vk = .int .i64 k ∧ k + kx = m ∧ Hid (ROwn segT 7 encSg w1.heap.size wr u (segsI L i ++ ((L.drop i).take k).map (sgOf a)) ∧ Chg w6 wr v u))
      case atStart => exact ⟨_, 0, rfl, rfl, by omega, HI0⟩
      case round =>
        obtain ⟨u, k, rfl, rfl, hkx, HK⟩ := hrel
        clear HI0
        have HKX := Lib.hid hkx
        have hC := HK.out.2
        have hSq := HSW.out _ _ hC
        by_cases hlk : k < m
        · clear hkx
          obtain ⟨y, hy⟩ : ∃ y, (L.drop i)[k]? = some y := ⟨_, List.getElem?_eq_getElem (by rw [HM.out]; exact hlk)⟩
          have hc := RowL.dropAt (HV.out.more hSq) i hy
          have j2 : (k : Int) < (m : Int) := by omega
          have y0 := hc 0 _ rfl
          have y1 := hc 1 _ rfl
          have y2 := hc 2 _ rfl
          have y3 := hc 3 _ rfl
          have y4 := hc 4 _ rfl
          have y5 := hc 5 _ rfl
          have y6 := hc 6 _ rfl
          have y7 := hc 7 _ rfl
          rw [Nat.add_zero] at y0
          have hO := HK.out.1.alloc (.cells #[.string y.car, .int .i64 y.num, .int .i64 y.day, .string y.f, .string y.t, .int .i64 y.dep, .int .i64 y.arr, .string y.eq] datT)
          have hby := bel_alloc wr (.cells #[.string y.car, .int .i64 y.num, .int .i64 y.day, .string y.f, .string y.t, .int .i64 y.dep, .int .i64 y.arr, .string y.eq] datT)
          have hSy : SW w1 (wr.alloc (.cells #[.string y.car, .int .i64 y.num, .int .i64 y.day, .string y.f, .string y.t, .int .i64 y.dep, .int .i64 y.arr, .string y.eq] datT)) := Below.trans hSq (hby.mono hSq.size)
          have x0 := F0.out _ hSy
          have x1 := F1.out _ hSy
          have x3 := bel_cell hby (HM3.out _ _ hC)
          have x5 := bel_cell hby (HM5.out _ _ hC)
          have HTk : Hid (segsI L i ++ ((L.drop i).take (k + 1)).map (sgOf a) = segsI L i ++ ((L.drop i).take k).map (sgOf a) ++ [(⟨f.car, f.num, day, a.f, y.t, a.dep, y.arr⟩ : Sg)]) := Lib.hid (by
            rw [List.take_add_one, hy, List.map_append, List.append_assoc]
            have e : sgOf a y = ⟨f.car, f.num, day, a.f, y.t, a.dep, y.arr⟩ := by
              obtain ⟨e1, e2, e3⟩ := HSm.out
              unfold sgOf
              rw [e1, e2, e3]
            simp [e])
          have HLn2 : Hid ((segsI L i ++ ((L.drop i).take k).map (sgOf a)).length ≤ 100000000) := Lib.hid (by
            have h1 := HLE2.out
            have h2 := List.length_take_le k (L.drop i)
            rw [List.length_append, List.length_map]
            omega)
          have hCy := hC.trans (Chg.of_below hby)
          clear hc hy hSq
          go_wp2_with (at_builtin; refine wpList_rapp rtG rfl _ _ rfl hO rfl (bel_alloc _ _) _ (⟨f.car, f.num, day, a.f, y.t, a.dep, y.arr⟩ : Sg) _ rfl (cs := #[.string f.car, .int .i64 f.num, .int .i64 day, .string a.f, .string y.t, .int .i64 a.dep, .int .i64 y.arr]) rfl (heap_alloc_two _ _ _) HLn2.out ?_; intro v9 w9 hO9 hC9)
          have HY : Hid (ROwn segT 7 encSg w1.heap.size w9 v9 (segsI L i ++ ((L.drop i).take (k + 1)).map (sgOf a)) ∧ Chg w6 w9 v v9) := Lib.hid ⟨by rw [HTk.out]; exact hO9, hCy.trans hC9⟩
          clear hO9 hC9 hO hCy
          go_roundg (m - (k + 1))
          case measure => have := HKX.out; omega
          case rel => exact ⟨_, k + 1, rfl, by go_num, by omega, HY⟩
        · have hk : k = m := by omega
          have HY : Hid (ROwn segT 7 encSg w1.heap.size wr u (segsI L (i + 1)) ∧ SW w1 wr) := Lib.hid ⟨by
            have h := HK.out.1
            rw [hk, List.take_of_length_le (by rw [HM.out]; omega)] at h
            rw [HSS.out]
            exact h, hSq⟩
          have j2 : ¬ (k : Int) < (m : Int) := by omega
          clear HK hkx hk hC hSq
          go_wp2
          go_roundg (L.length - (i + 1))
          case measure => have h1 := HIX.out; have h2 : i < L.length := HLT.out; rw [← h1] at h2 ⊢; omega
          case rel => exact ⟨_, i + 1, rfl, by go_num, HNX.out, HY⟩
    · have hi : i = L.length := by omega
      have HZ : Hid (ROwn segT 7 encSg w.heap.size wr v (segsL L) ∧ Below w.heap.size w wr) := Lib.hid ⟨⟨by
        have h := HH.out.1.own
        rw [hi] at h
        exact h.mono hS0.size, Nat.le_trans hS0.size hSr.size⟩, hS0.trans (Below.mono hSr hS0.size)⟩
      have i2 : ¬ (i : Int) < (L.length : Int) := by omega
      clear HH hix hi
      go_wp2
      exact bodyPost_ret (results_tmp2 rfl _ _ _) rfl ⟨v, rfl, HZ.out.1, HZ.out.2⟩

end Go.Proofs.YtdpcjafkahhecaaGreatDoor

/- Walks of slices.Clone at legs, of find at flights and at segments, and of what they are asked by. -/
namespace Go.Proofs.YtdpcjafkahhecaaGreatDoor
open Go.RowKit Go.Shelf
set_option linter.unusedSimpArgs false
set_option linter.unusedVariables false

theorem rtLg : RT Tryz.prog 68 legT 5 encLg where
  ht := Tryz.underlying68
  info := ⟨.agg #[.string noB, .string noB, .int .i64 0, .int .i64 0, .string noB], 64, by kernel_rfl, rfl, by omega⟩
  len x := rfl
  one x u hu := by simp [encLg] at hu; rcases hu with rfl | rfl | rfl | rfl | rfl <;> rfl
  pos := by omega
theorem nilL_yes (n c : Nat) (w : World) : (binOp .eql 68 (.slice none n c) (.slice none 0 0)).run Tryz.prog w = .ok (.bool true) w := by kernel_rfl
theorem nilL_no (a : Addr) (n c : Nat) (w : World) : (binOp .eql 68 (.slice (some a) n c) (.slice none 0 0)).run Tryz.prog w = .ok (.bool false) w := by kernel_rfl
theorem RowL.at0 {α : Type} {enc : α → List Value} {sz : Nat} {w : World} {A : Option Addr} {n c : Nat} {l : List α} (h : RowL sz enc w (.slice A n c) l) (h0 : l ≠ []) : ∃ b o, A = some ⟨b, o, none⟩ ∧ b < w.heap.size ∧ ∀ i x j u, l[i]? = some x → (enc x)[j]? = some u → w.cell? ⟨b, o + i * sz + j, none⟩ = some u := by
  obtain ⟨A', c', e, h⟩ := h
  cases e
  rcases h with h | h
  · exact absurd h h0
  · exact h
theorem ROwn.formG {α : Type} {enc : α → List Value} {e : TypeId} {sz B : Nat} {w : World} {v : Value} {l : List α} (h : ROwn e sz enc B w v l) (hne : l ≠ []) : ∃ g cap, v = .slice (some ⟨g, 0, none⟩) l.length cap ∧ B ≤ g ∧ g < w.heap.size := by
  obtain ⟨g, cap, h1, h2, h3⟩ := h.own.form (by cases l with | nil => exact absurd rfl hne | cons a r => simp)
  exact ⟨g, cap, h1, h2, h3⟩
theorem RowL.but2 {α : Type} {enc : α → List Value} {sz : Nat} {w w' : World} {X : Nat → Prop} {A : Option Addr} {n c : Nat} {l : List α} (h : RowL sz enc w (.slice A n c) l) (hB : But w w' X) (hx : ∀ b o, A = some ⟨b, o, none⟩ → ¬ X b) : RowL sz enc w' (.slice A n c) l := by
  obtain ⟨A', c', e, h⟩ := h
  cases e
  refine ⟨A, c, rfl, ?_⟩
  rcases h with h | ⟨b, o, rfl, hlt, hc⟩
  · exact .inl h
  · exact .inr ⟨b, o, rfl, Nat.lt_of_lt_of_le hlt hB.size, fun i x j u hi hu => (World.cell?_of_block (hB.block b hlt (hx b o rfl))).trans (hc i x j u hi hu)⟩
set_option maxRecDepth 100000 in
set_option maxHeartbeats 2000000 in
theorem cloneL_any (A : Option Addr) (c : Nat) (l : List Lg) (w : World) (hl : l.length ≤ 1000000) (hL : LegL w (.slice A l.length c) l) :
    Calls Tryz.prog 81 #[.slice A l.length c] w fun e w' => ∃ A' c', e = .returned (.slice A' l.length c') ∧ LegL w' (.slice A' l.length c') l ∧ l.length ≤ c' ∧ (A' = none ∨ ∃ g, A' = some ⟨g, 0, none⟩ ∧ w.heap.size ≤ g) ∧ Below w.heap.size w w' := by
  cases A with
  | none =>
    have h0 : l = [] := by
      obtain ⟨A', c', e, h⟩ := hL
      cases e
      rcases h with h | ⟨b, o, h, _⟩
      · exact h
      · cases h
    subst h0
    have n1 := nilL_yes 0 c w
    go_enter Tryz.func81, Tryz.ntmps81
    go_wp2
    go_ret
    exact ⟨none, 0, rfl, ⟨none, 0, rfl, .inl rfl⟩, Nat.le_refl _, .inl rfl, Below.refl _ _⟩
  | some ad =>
    have hb0 := bel_alloc w (.cells #[] legT)
    by_cases h0 : l = []
    · subst h0
      have n1 := nilL_no ad 0 c w
      go_enter Tryz.func81, Tryz.ntmps81
      go_wp2
      go_ret
      exact ⟨some ⟨w.heap.size, 0, none⟩, 0, rfl, ⟨_, 0, rfl, .inl rfl⟩, Nat.le_refl _, .inr ⟨_, rfl, Nat.le_refl _⟩, hb0⟩
    · have n1 := nilL_no ad l.length c w
      have hlp : 0 < l.length := List.length_pos_iff.2 h0
      obtain ⟨b, o, e, hlt, hc⟩ := (hL.more hb0).at0 h0
      cases e
      have HC := Lib.hid hc
      have HO := Lib.hid (ROwn.new (enc := encLg) (sz := 5) (B := w.heap.size) (w := w) (Nat.le_refl _) ([] : List Lg) (fun _ => rfl) (cs := #[]) rfl (by simp) (e := legT))
      have HL0 := Lib.hid h0
      clear h0 hL hc hlt
      go_enter Tryz.func81, Tryz.ntmps81
      go_wp2_with (refine wpList_rapps rtLg rfl _ _ rfl HO.out rfl b o l l.length c rfl rfl hlp HC.out (by simp; omega) ?_; intro v' w' hown hchg)
      go_ret
      rw [List.nil_append] at hown
      obtain ⟨g2, c2, rfl, hg2, _⟩ := ROwn.formG hown HL0.out
      exact ⟨some ⟨g2, 0, none⟩, c2, rfl, hown.rowL rtLg.len, ROwn.cap hown, .inr ⟨g2, rfl, hg2⟩, hb0.trans ((hchg.below HO.out).mono (Nat.le_refl _))⟩

end Go.Proofs.YtdpcjafkahhecaaGreatDoor
