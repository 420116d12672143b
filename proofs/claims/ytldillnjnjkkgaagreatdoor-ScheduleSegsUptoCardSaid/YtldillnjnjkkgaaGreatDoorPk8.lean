/- Words and walks that the laws below ask: ClosSA, PerF, PerG, PerH, PerI, FliL, SchP, PlaE. -/
import Derived.DeepKeys4
import Derived.WideKeyPair
import Derived.Test.YtldillnjnjkkgaaGreatDoorPk4
import Derived.Test.YtldillnjnjkkgaaGreatDoorPk5
import Derived.Test.YtldillnjnjkkgaaGreatDoorPk7
/- Closed facts on the program and its rows: what each law names, whom it follows. -/
namespace Go.Proofs.YtldillnjnjkkgaaGreatDoor

theorem scheduleDiffers_c1 : Tryz.pinned.checked.prog.inPlace 8 = Rows.scheduleDiffersRow.inPlace := by kernel_rfl
theorem scheduleDiffers_c2 : Tryz.pinned.checked.prog.unfollowed 8 = Rows.scheduleDiffersRow.unfollowed := by kernel_rfl
theorem scheduleDiffers_c3 : Tryz.pinned.checked.prog.recurses 8 = Rows.scheduleDiffersRow.recurses := by kernel_rfl
theorem scheduleDiffers_c4 : Tryz.pinned.checked.prog.varsNamed 8 = Rows.scheduleDiffersRow.named := by kernel_rfl

end Go.Proofs.YtldillnjnjkkgaaGreatDoor

/- Walk of Normal: the loop that gathers a period's canonical form. -/
namespace Go.Proofs.YtldillnjnjkkgaaGreatDoor.Per
open Go.RowKit Go.Shelf
set_option linter.unusedSimpArgs false
set_option linter.unusedVariables false
attribute [local go_sem] Oper.semAt_some
attribute [local simp] wide_fn

theorem set_heap {W : World} {B : Nat} {cs : Array Value} {t : TypeId} (h : W.heap[B]? = some (.cells cs t (0, 0))) (j : Nat) (u : Value) : (W.setCell ⟨B, j, none⟩ u).heap[B]? = some (.cells (cs.setIfInBounds j u) t (0, 0)) := by
  obtain ⟨hlt, hk⟩ := Array.getElem?_eq_some_iff.1 h
  show (W.heap.modify B _)[B]? = _
  rw [Array.getElem?_eq_getElem (by rw [Array.size_modify]; exact hlt), Array.getElem_modify_self, hk]
  rfl
theorem BoxAt.set0 {W : World} {B : Nat} {p : Per} (h : BoxAt W B p) (x : Int) : BoxAt (W.setCell ⟨B, 0, none⟩ (.int .i64 x)) B (x, p.2.1, p.2.2) := set_heap h 0 _
theorem BoxAt.set1 {W : World} {B : Nat} {p : Per} (h : BoxAt W B p) (x : Int) : BoxAt (W.setCell ⟨B, 1, none⟩ (.int .i64 x)) B (p.1, x, p.2.2) := set_heap h 1 _
theorem BoxAt.set2 {W : World} {B : Nat} {p : Per} (h : BoxAt W B p) (x : Int) : BoxAt (W.setCell ⟨B, 2, none⟩ (.int .i64 x)) B (p.1, p.2.1, x) := set_heap h 2 _
theorem BoxAt.frozen {W : World} {B : Nat} {p : Per} (h : BoxAt W B p) (j : Nat) : W.frozen? ⟨B, j, none⟩ = false := by simp [World.frozen?, show W.heap[B]? = _ from h]
end Go.Proofs.YtldillnjnjkkgaaGreatDoor.Per

/- Plain contracts of the loops over an iterator; equal lists; the reference's Days, Count. -/
namespace Go.Proofs.YtldillnjnjkkgaaGreatDoor.Per
open Go.RowKit
set_option linter.unusedSimpArgs false
set_option linter.unusedVariables false

/-! ### the reference's Days -/
theorem Box3.more1 {w : World} {p : Per} {W W' : World} (h : Box3 w w.heap.size p W) (hb : Below (w.heap.size + 1) W W') : Box3 w w.heap.size p W' :=
  ⟨(hb.cell (p := ⟨w.heap.size, 0, none⟩) (by simp)).trans h.1, (hb.cell (p := ⟨w.heap.size, 1, none⟩) (by simp)).trans h.2.1, (hb.cell (p := ⟨w.heap.size, 2, none⟩) (by simp)).trans h.2.2.1, h.2.2.2.trans (hb.mono (by omega))⟩
set_option maxHeartbeats 2000000 in
theorem rdays_any (f t d : Int) (w : World) (hf : -9223372036854775808 ≤ f) (hf2 : f ≤ 9223372036854775807) : Calls Tryz.prog 100 #[encQ (f, t, d)] w fun e w' => ∃ v, e = .returned v ∧ IntL w' v (daysQ (f, t, d)) ∧ Below w.heap.size w w' := by
  have hB : Box3 w w.heap.size (f, t, d) (w.alloc (.cells #[.int .i64 f, .int .i64 t, .int .i64 d] 23)) := Box3.new w (f, t, d) _
  have hsz : (w.alloc (.cells #[.int .i64 f, .int .i64 t, .int .i64 d] 23)).heap.size = w.heap.size + 1 := by simp
  cases h : okQ (f, t, d)
  · have he := errQ_two h
    have HD := Lib.hid (daysQ_no h)
    have CV := Lib.hid (fun W => rcheck_any f t d W)
    generalize errQ (f, t, d) = z at *
    clear h
    go_enter Tryz.func100, Tryz.ntmps100
    go_wp2
    go_loopw [3, 4] (fun vo vd wr => vo = .slice none 0 0 ∧ vd = .int .i64 f ∧ Box3 w w.heap.size (f, t, d) wr) (fun _ _ _ => 0)
    case atStart => exact ⟨rfl, rfl, hB⟩
    case round =>
      obtain ⟨rfl, rfl, hb⟩ := hrel
      obtain ⟨c0, c1, c2, c3⟩ := hb
      go_wp2_with (go_at_call 137; refine (CV.out _).mono ?_; rintro e w' ⟨rfl, hb⟩)
      go_ret
      exact ⟨_, rfl, by rw [HD.out]; exact ⟨none, 0, rfl, .inl rfl⟩, c3.trans (hb.mono c3.size)⟩
  · have he := errQ_ok h
    have HD := Lib.hid (daysQ_yes h)
    have hq := okQ_yes h
    have q0 : 0 ≤ f := hq.1
    have q1 : f ≤ t := hq.2.1
    have q2 : t < 36525 := hq.2.2.1
    have q3 : t - f < 800 := hq.2.2.2.1
    have hlen : lenQ (f, t, d) = (t - f + 1).toNat := rfl
    have CV := Lib.hid (fun W => rcheck_any f t d W)
    rw [he] at CV
    have HH := Lib.hid (daysQ_has (f, t, d))
    clear he hq
    go_enter Tryz.func100, Tryz.ntmps100
    go_wp2
    go_loopw [3, 4] (fun vo vd wr => ∃ k : Nat, k ≤ lenQ (f, t, d) ∧ vd = .int .i64 (f + k) ∧ IOwn 3 (w.heap.size + 1) wr vo (daysTo (f, t, d) k) ∧ Box3 w w.heap.size (f, t, d) wr) (fun _ vd _ => (t + 1 - intOf vd).toNat)
    case atStart => exact ⟨0, Nat.zero_le _, by simp, IOwn.nil (by simp), hB⟩
    case round =>
      obtain ⟨k, hk, rfl, hO, hb⟩ := hrel
      have hb0 := hb
      obtain ⟨c0, c1, c2, c3⟩ := hb
      by_cases hlt : k < lenQ (f, t, d)
      · have x3 : f + (k : Int) ≤ t := by omega
        have CH := Lib.hid (fun W => rhas_any f t d (f + k) W (by omega) (by omega))
        rw [show hasQ (f, t, d) (f + k) = wdB d (f + k) from HH.out k h hlt] at CH
        have hll := daysTo_len (f, t, d) k
        cases hw : wdB d (f + k)
        · have HN := Lib.hid (daysTo_miss (f, t, d) k hw)
          rw [hw] at CH
          clear hw
          go_wp2_with (first | (go_at_call 137; refine (CV.out _).mono ?_; rintro e w2 ⟨rfl, hb1⟩; have hb2 := hb0.more hb1; have d0 := hb2.1; have d1 := hb2.2.1; have d2 := hb2.2.2.1; have hO2 := hO.more hb1) | (go_at_call 87; refine (CH.out _).mono ?_; rintro e w3 ⟨rfl, hb3⟩))
          go_roundw
          case rel => exact ⟨k + 1, by omega, by congr 1; omega, by rw [HN.out]; exact hO2.more hb3, hb2.more hb3⟩
          case measure => simp [intOf]; omega
        · have HN := Lib.hid (daysTo_hit (f, t, d) k hw)
          rw [hw] at CH
          clear hw
          go_wp2_with (first | (go_at_call 137; refine (CV.out _).mono ?_; rintro e w2 ⟨rfl, hb1⟩; have hb2 := hb0.more hb1; have d0 := hb2.1; have d1 := hb2.2.1; have d2 := hb2.2.2.1; have hO2 := hO.more hb1) | (go_at_call 87; refine (CH.out _).mono ?_; rintro e w3 ⟨rfl, hb3⟩; have hO3 := hO2.more hb3) | (refine wpList_iapp rfl _ _ rfl _ (daysTo (f, t, d) k) rfl (hO3.alloc _) _ (f + k) 1 rfl (heap_alloc_new _ _) (by omega) ?_; intro v' w4 hO4 hb4))
          go_roundw
          case rel => exact ⟨k + 1, by omega, by congr 1; omega, by rw [HN.out]; exact hO4, ((hb2.more hb3).more (bel_alloc _ _)).more1 hb4⟩
          case measure => simp [intOf]; omega
      · have e : k = lenQ (f, t, d) := by omega
        subst e
        go_wp2_with (go_at_call 137; refine (CV.out _).mono ?_; rintro e w2 ⟨rfl, hb1⟩; have hb2 := hb0.more hb1; have d1 := hb2.2.1)
        go_ret
        exact ⟨_, rfl, by rw [HD.out]; exact .of_own (hO.more hb1).own, hb2.2.2.2⟩

end Go.Proofs.YtldillnjnjkkgaaGreatDoor.Per

/- Walks of the reference's canonical periods: of, Normal, Meet. -/
namespace Go.Proofs.YtldillnjnjkkgaaGreatDoor.Per
open Go.RowKit
set_option linter.unusedSimpArgs false
set_option linter.unusedVariables false

theorem IntL.cells {w : World} {A : Option Addr} {n c : Nat} {l : List Int} (h : IntL w (.slice A n c) l) (hp : 0 < l.length) :
    ∃ b o, A = some ⟨b, o, none⟩ ∧ n = l.length ∧ b < w.heap.size ∧ ∀ i (h : i < l.length), w.cell? ⟨b, o + i, none⟩ = some (.int .i64 l[i]) := by
  obtain ⟨A', c', e, h⟩ := h
  cases e
  rcases h with h | ⟨b, o, h1, h2, h3⟩
  · rw [h] at hp; simp at hp
  · exact ⟨b, o, h1, rfl, h2, h3⟩
theorem headD_at (l : List Int) (h : 0 < l.length) : l.headD 0 = l[0] := by cases l with
  | nil => simp at h
  | cons x r => rfl
theorem lastD_at (l : List Int) (h : 0 < l.length) : l.getLastD 0 = l[l.length - 1] := by
  rw [List.getLastD_eq_getLast?, List.getLast?_eq_getElem?, List.getElem?_eq_getElem (by omega)]; rfl
theorem maskN_take (l : List Int) (k : Nat) (h : k < l.length) : maskN (l.take (k + 1)) = (maskN (l.take k) ||| 2 ^ wkN l[k]) := by
  rw [List.take_succ_eq_append_getElem h, maskN_snoc]
theorem quo_zero (m k : Nat) (hm : m < 128) (hk : k < 7) : ((m : Int) / ((2 ^ k : Nat) : Int) % 2 == 0) = decide (m / 2 ^ k % 2 = 0) := by
  have e : ((m : Int) / ((2 ^ k : Nat) : Int)) = ((m / 2 ^ k : Nat) : Int) := by simp
  rw [e]
  generalize m / 2 ^ k = z
  by_cases h : z % 2 = 0
  · have h2 : ((z : Int) % 2) = 0 := by omega
    rw [h2]; simp [h]
  · have h2 : ((z : Int) % 2) = 1 := by omega
    rw [h2]; simp [h]

set_option maxRecDepth 100000 in
set_option maxHeartbeats 4000000 in
theorem rof_any (v : Value) (l : List Int) (w : World) (hv : IntL w v l) (hn : l.length ≤ 1000) (hr : ∀ n ∈ l, 0 ≤ n ∧ n < 36525) :
    Calls Tryz.prog 218 #[v] w fun e w' => e = .returned (.tuple #[encQ (ofQ l).1, .bool (ofQ l).2]) ∧ Below w.heap.size w w' := by
  obtain ⟨A, c, rfl, hc⟩ := hv
  by_cases h0 : l.length = 0
  · have e0 : l = [] := List.eq_nil_of_length_eq_zero h0
    have HR : Hid (ofQ l = ((0, 0, 0), false)) := Lib.hid (by rw [e0]; rfl)
    have i0 : (l.length : Int) = 0 := by omega
    have i1 : ((l.length : Int) == 0) = true := by simp [h0]
    clear hc h0 e0
    go_enter Tryz.func218, Tryz.ntmps218
    go_wp2
    refine bodyPost_ret (v := .tuple #[encQ (0, 0, 0), .bool false]) ?_ rfl ⟨by rw [HR.out], ?_⟩
    · simp [results, Tryz.results218, go_sem]
    · exact bel_alloc _ _
  · have hp : 0 < l.length := by omega
    obtain ⟨b, o, rfl, hb, hcc⟩ : ∃ b o, A = some ⟨b, o, none⟩ ∧ b < w.heap.size ∧ ∀ i (h : i < l.length), w.cell? ⟨b, o + i, none⟩ = some (.int .i64 l[i]) := by
      rcases hc with h | h
      · rw [h] at hp; simp at hp
      · exact h
    have i1 : ((l.length : Int) == 0) = false := by rw [beq_eq_false_iff_ne]; omega
    have g0 := hcc 0 hp
    have g1 := hcc (l.length - 1) (by omega)
    have HX : Hid (ofQ l = ((l[0], l[l.length - 1], (maskN l : Int)), true)) := Lib.hid (by
      rw [ofQ, accQ, headD_at l hp, lastD_at l hp]
      have : l ≠ [] := by rintro rfl; simp at hp
      simp [this])
    rw [Nat.add_zero] at g0
    have i2 : ((l.length : Int) - 1).toNat = l.length - 1 := by omega
    have i3 : (l.length : Int) - 1 < (l.length : Int) := by omega
    have i4 : (0 : Int) ≤ (l.length : Int) - 1 := by omega
    have i5 : (0 : Int) < (l.length : Int) := by omega
    have hC := Lib.hid hcc
    clear hcc hc
    generalize l[0] = x at *
    generalize l[l.length - 1] = y at *
    go_enter Tryz.func218, Tryz.ntmps218
    go_wp2
    go_region
    have bn : BoxAt ((w.alloc (.cells #[.int .i64 0, .int .i64 0, .int .i64 0] 23)).alloc (.cells #[.int .i64 x, .int .i64 y, .int .i64 0] 23)).drew (w.heap.size + 1) (x, y, 0) := by
      have h := heap_alloc_new (w.alloc (.cells #[.int .i64 0, .int .i64 0, .int .i64 0] 23)) (.cells #[.int .i64 x, .int .i64 y, .int .i64 0] 23)
      rw [World.size_alloc] at h
      exact BoxAt.drew' (show BoxAt _ _ (x, y, 0) from h)
    have br : BoxAt ((w.alloc (.cells #[.int .i64 0, .int .i64 0, .int .i64 0] 23)).alloc (.cells #[.int .i64 x, .int .i64 y, .int .i64 0] 23)).drew w.heap.size (0, 0, 0) :=
      (BoxAt.more (show BoxAt _ _ (0, 0, 0) from heap_alloc_new w _) (bel_alloc _ _)).drew'
    have hb1 : Below w.heap.size w ((w.alloc (.cells #[.int .i64 0, .int .i64 0, .int .i64 0] 23)).alloc (.cells #[.int .i64 x, .int .i64 y, .int .i64 0] 23)).drew := ((bel_alloc w _).alloc (by simp) _).drew
    generalize ((w.alloc (.cells #[.int .i64 0, .int .i64 0, .int .i64 0] 23)).alloc (.cells #[.int .i64 x, .int .i64 y, .int .i64 0] 23)).drew = W1 at *
    clear g0 g1 i1 i2 i3 i4
    go_wp2
    go_loopw [5] (fun vi wr => ∃ k : Nat, k ≤ l.length ∧ vi = .int .i64 k ∧ BoxAt wr (w.heap.size + 1) (x, y, (maskN (l.take k) : Nat)) ∧ BoxAt wr w.heap.size (0, 0, 0) ∧ Below w.heap.size w wr) (fun vi _ => l.length - (intOf vi).toNat)
    case atStart => exact ⟨0, Nat.zero_le _, rfl, bn, br, hb1⟩
    case round =>
      clear bn br hb1
      obtain ⟨k, hk, rfl, hN, hR, hB⟩ := hrel
      by_cases hlt : k < l.length
      · have g0 : wr.cell? ⟨b, o + k, none⟩ = some (.int .i64 l[k]) := (hB.cell (p := ⟨b, o + k, none⟩) hb).trans (hC.out k hlt)
        have i1 : (k : Int) < (l.length : Int) := by omega
        have HT := Lib.hid (maskN_take l k hlt)
        have hx := hr l[k] (List.getElem_mem hlt)
        generalize l[k] = n at *
        have hkk := wkN_lt n
        have hm := maskN_lt (l.take k)
        have hp2 := pow_step (wkN n) hkk
        have HQ := Lib.hid (quo_zero (maskN (l.take k)) (wkN n) hm hkk)
        have HO := Lib.hid (or_add (maskN (l.take k)) hm (wkN n) hkk)
        have CB : Hid (∀ w, Calls Tryz.prog 167 #[.int .i64 n] w fun e w' => e = .returned (.int .i64 ((2 ^ wkN n : Nat) : Int)) ∧ w' = w) := Lib.hid (fun w => (bit_any n w (by omega) (by omega)).mono (by rintro e w' ⟨rfl, rfl⟩; exact ⟨rfl, rfl⟩))
        generalize maskN (l.take k) = m at *
        obtain ⟨c0, c1, c2⟩ := hN.cell
        have f2 := hN.frozen 2
        by_cases hz : m / 2 ^ wkN n % 2 = 0
        · have t1 := HQ.out
          rw [decide_eq_true hz] at t1
          rw [if_pos hz] at HO
          have HM : Hid ((m : Int) + ((2 ^ wkN n : Nat) : Int) = ((m ||| 2 ^ wkN n : Nat) : Int)) := Lib.hid (by rw [HO.out]; omega)
          clear hz HQ HO
          generalize ((2 ^ wkN n : Nat) : Int) = z at *
          have z0 : ¬ z = 0 := by omega
          have z1 : ¬ z = -1 := by omega
          have z2 : 0 ≤ (m : Int) / z := Int.ediv_nonneg (by omega) (by omega)
          have z3 : (m : Int) / z ≤ 127 := by have := Int.ediv_le_self z (show (0 : Int) ≤ m by omega); omega
          go_wp2
          go_quiet ((go_at_call 167; exact Calls.quiet_of_same (CB.out _)))
          go_wp2
          have hws : IntKind.i64.wrap ((m : Int) + z) = (m : Int) + z := by rw [IntKind.wrap_i64]; omega
          go_region_with ((go_at_call 167; refine (CB.out _).mono ?_; rintro e w2 ⟨rfl, rfl⟩))
          all_goals
            go_wp2
            go_roundw
            case rel =>
              refine ⟨k + 1, by omega, by go_num, ?_, (hR.more (bel_self _ _)).set (by simp) 2 _, (hB.trans ((bel_self _ _).mono hB.size)).setCell (p := ⟨w.heap.size + 1, 2, none⟩) (by simp) _⟩
              rw [HT.out, ← HM.out]
              exact (hN.more (bel_self _ _)).set2 _
            case measure => simp [intOf]; omega
        · have t1 := HQ.out
          rw [decide_eq_false hz] at t1
          rw [if_neg hz] at HO
          rw [HO.out] at HT
          clear hz HQ HO
          generalize ((2 ^ wkN n : Nat) : Int) = z at *
          have z0 : ¬ z = 0 := by omega
          have z1 : ¬ z = -1 := by omega
          have z2 : 0 ≤ (m : Int) / z := Int.ediv_nonneg (by omega) (by omega)
          have z3 : (m : Int) / z ≤ 127 := by have := Int.ediv_le_self z (show (0 : Int) ≤ m by omega); omega
          go_wp2
          go_quiet ((go_at_call 167; exact Calls.quiet_of_same (CB.out _)))
          go_wp2
          go_roundw
          case rel => exact ⟨k + 1, by omega, by go_num, by rw [HT.out]; exact hN.more (bel_self _ _), hR.more (bel_self _ _), hB.trans ((bel_self _ _).mono hB.size)⟩
          case measure => simp [intOf]; omega
      · have HT : Hid (maskN (l.take k) = maskN l) := Lib.hid (by rw [List.take_of_length_le (by omega)])
        rw [HT.out] at hN
        obtain ⟨c0, c1, c2⟩ := hN.cell
        have hR2 := ((hR.set0 x).set1 y).set2 ((maskN l : Nat) : Int)
        obtain ⟨d0, d1, d2⟩ := hR2.cell
        obtain ⟨e0, e1, e2⟩ := hR.cell
        have f0 := hR.frozen 0
        have f1 := hR.frozen 1
        have f2 := hR.frozen 2
        go_wp2
        refine bodyPost_ret (v := .tuple #[encQ (x, y, ((maskN l : Nat) : Int)), .bool true]) ?_ rfl ⟨by rw [HX.out], ?_⟩
        · simp [results, Tryz.results218, go_sem, d0, d1, d2]
        · exact ((hB.setCell (p := ⟨w.heap.size, 0, none⟩) (Nat.le_refl _) _).setCell (p := ⟨w.heap.size, 1, none⟩) (Nat.le_refl _) _).setCell (p := ⟨w.heap.size, 2, none⟩) (Nat.le_refl _) _

/-- the box of the second block laid -/
theorem box_second (w : World) (o : Obj) (p : Per) : BoxAt ((w.alloc o).alloc (.cells #[.int .i64 p.1, .int .i64 p.2.1, .int .i64 p.2.2] perT)) (w.heap.size + 1) p := by
  have h := heap_alloc_new (w.alloc o) (.cells #[.int .i64 p.1, .int .i64 p.2.1, .int .i64 p.2.2] perT)
  rw [World.size_alloc] at h
  exact h
/-- a result in a box of its own: what lies behind its three stores -/
theorem BoxAt.result {w W : World} {B : Nat} {p : Per} (h : BoxAt W B p) (q : Per) (hB : w.heap.size ≤ B) (hb : Below w.heap.size w W) :
    let W' := ((W.setCell ⟨B, 0, none⟩ (.int .i64 q.1)).setCell ⟨B, 1, none⟩ (.int .i64 q.2.1)).setCell ⟨B, 2, none⟩ (.int .i64 q.2.2)
    BoxAt W' B q ∧ Below w.heap.size w W' :=
  ⟨((h.set0 q.1).set1 q.2.1).set2 q.2.2, ((hb.setCell (p := ⟨B, 0, none⟩) hB _).setCell (p := ⟨B, 1, none⟩) hB _).setCell (p := ⟨B, 2, none⟩) hB _⟩
end Go.Proofs.YtldillnjnjkkgaaGreatDoor.Per

/- Walks of Meet, beside the reference's. -/
namespace Go.Proofs.YtldillnjnjkkgaaGreatDoor.Per
open Go.RowKit
set_option linter.unusedSimpArgs false
set_option linter.unusedVariables false

abbrev b64 (x : Int) : Prop := -9223372036854775808 ≤ x ∧ x ≤ 9223372036854775807
abbrev b643 (p : Per) : Prop := b64 p.1 ∧ b64 p.2.1 ∧ b64 p.2.2
theorem box_third (w : World) (o o' : Obj) (p : Per) : BoxAt (((w.alloc o).alloc o').alloc (.cells #[.int .i64 p.1, .int .i64 p.2.1, .int .i64 p.2.2] perT)) (w.heap.size + 1 + 1) p := by
  have h := heap_alloc_new ((w.alloc o).alloc o') (.cells #[.int .i64 p.1, .int .i64 p.2.1, .int .i64 p.2.2] perT)
  rw [World.size_alloc, World.size_alloc] at h
  exact h

/-! ### the reference's -/
theorem filter_take (l : List Int) (q : Int → Bool) (k : Nat) (h : k < l.length) : (l.take (k + 1)).filter q = if q l[k] then (l.take k).filter q ++ [l[k]] else (l.take k).filter q := by
  rw [List.take_succ_eq_append_getElem h, List.filter_append]
  cases hq : q l[k] <;> simp [hq]
theorem filter_short (l : List Int) (q : Int → Bool) (k : Nat) : ((l.take k).filter q).length ≤ l.length := Nat.le_trans (List.length_filter_le _ _) (by simp; omega)
set_option maxRecDepth 100000 in
set_option maxHeartbeats 4000000 in
theorem rmeet_any (a b : Per) (w : World) (ha : b643 a) : Calls Tryz.prog 163 #[encQ a, encQ b] w fun e W' => e = .returned (.tuple #[encQ (ofQ (mtQ a b)).1, .bool (ofQ (mtQ a b)).2]) ∧ Below w.heap.size w W' := by
  have CD := Lib.hid (fun W => rdays_any a.1 a.2.1 a.2.2 W ha.1.1 ha.1.2)
  have HM := Lib.hid (mtQ_filter a b)
  have hl := daysQ_len a
  have hr := daysQ_range a
  rw [show daysQ (a.1, a.2.1, a.2.2) = daysQ a from rfl] at CD
  generalize daysQ a = l at *
  have CO : Hid (∀ v W, IntL W v (l.filter fun n => hasQ b n) → _) := Lib.hid (fun v W hv => rof_any v (l.filter fun n => hasQ b n) W hv (Nat.le_trans (List.length_filter_le _ _) (by omega)) (fun n hn => hr n (List.mem_filter.1 hn).1))
  rw [HM.out] at CO
  have hbB := (box_second w (.cells #[.int .i64 a.1, .int .i64 a.2.1, .int .i64 a.2.2] perT) b).more (bel_alloc _ (.cells #[.int .i64 0, .int .i64 0, .int .i64 0] perT))
  have hbR := box_third w (.cells #[.int .i64 a.1, .int .i64 a.2.1, .int .i64 a.2.2] perT) (.cells #[.int .i64 b.1, .int .i64 b.2.1, .int .i64 b.2.2] perT) (0, 0, 0)
  have hb0 : Below w.heap.size w (((w.alloc (.cells #[.int .i64 a.1, .int .i64 a.2.1, .int .i64 a.2.2] perT)).alloc (.cells #[.int .i64 b.1, .int .i64 b.2.1, .int .i64 b.2.2] perT)).alloc (.cells #[.int .i64 0, .int .i64 0, .int .i64 0] perT)) := ((bel_alloc w _).alloc (by simp) _).alloc (by simp; omega) _
  generalize (ofQ (mtQ a b)).1 = q at *
  generalize (ofQ (mtQ a b)).2 = z at *
  go_enter Tryz.func163, Tryz.ntmps163
  go_wp2_with (go_at_call 100; refine (CD.out _).mono ?_; rintro e w1 ⟨v, rfl, hL, hb⟩; have hB1 := hbB.more hb; have hR1 := hbR.more hb; have hs1 : Below w.heap.size w w1 := hb0.trans (hb.mono (by simp; omega)); clear hb; obtain ⟨A, c, rfl, hc⟩ := hL)
  clear hb0 hbB hbR CD
  go_loopw [7, 8] (fun vo vi wr => ∃ k : Nat, k ≤ l.length ∧ vi = .int .i64 k ∧ IOwn 3 w1.heap.size wr vo ((l.take k).filter fun n => hasQ b n) ∧ Below w1.heap.size w1 wr) (fun _ vi _ => l.length - (intOf vi).toNat)
  case atStart => exact ⟨0, Nat.zero_le _, rfl, IOwn.nil (Nat.le_refl _), Below.refl _ _⟩
  case round =>
    obtain ⟨k, hk, rfl, hO, hb⟩ := hrel
    by_cases hlt : k < l.length
    · obtain ⟨g, o, rfl, hgl, hcc⟩ : ∃ b o, A = some ⟨b, o, none⟩ ∧ b < w1.heap.size ∧ ∀ i (h : i < l.length), w1.cell? ⟨b, o + i, none⟩ = some (.int .i64 l[i]) := by
        rcases hc with h | h
        · rw [h] at hlt; simp at hlt
        · exact h
      have g0 := hcc k hlt
      have i1 : (k : Int) < (l.length : Int) := by omega
      have HF := Lib.hid (filter_take l (fun n => hasQ b n) k hlt)
      have hsh := filter_short l (fun n => hasQ b n) k
      have hx := hr l[k] (List.getElem_mem hlt)
      clear hcc hc
      generalize l[k] = n at *
      have hBr := hB1.more hb
      have g1 : wr.cell? ⟨g, o + k, none⟩ = some (.int .i64 n) := (hb.cell (p := ⟨g, o + k, none⟩) hgl).trans g0
      have hgl2 : g < wr.heap.size := Nat.lt_of_lt_of_le hgl hb.size
      have hS0 : Below wr.heap.size wr wr.drew := (Below.refl _ _).drew
      have CH := Lib.hid (fun (x : World) (hx2 : Below wr.heap.size wr x) => bel_acc (w := wr) (rhas_any b.1 b.2.1 b.2.2 n x (by omega) (by omega)) hx2)
      have k0 : ∀ x : Wd (Below wr.heap.size wr), x.w.cell? ⟨w.heap.size + 1, 0, none⟩ = some (.int .i64 b.1) := fun x => (hBr.more x.ok).cell.1
      have k1 : ∀ x : Wd (Below wr.heap.size wr), x.w.cell? ⟨w.heap.size + 1, 1, none⟩ = some (.int .i64 b.2.1) := fun x => (hBr.more x.ok).cell.2.1
      have k2 : ∀ x : Wd (Below wr.heap.size wr), x.w.cell? ⟨w.heap.size + 1, 2, none⟩ = some (.int .i64 b.2.2) := fun x => (hBr.more x.ok).cell.2.2
      have k3 : ∀ x : Wd (Below wr.heap.size wr), x.w.cell? ⟨g, o + k, none⟩ = some (.int .i64 n) := fun x => (x.ok.cell (p := ⟨g, o + k, none⟩) hgl2).trans g1
      cases hh : hasQ b n
      · rw [show hasQ (b.1, b.2.1, b.2.2) n = false from hh] at CH
        rw [hh, if_neg (by simp)] at HF
        clear hh
        go_wp2
        have hNe : Nonempty (Wd (Below wr.heap.size wr)) := ⟨⟨_, hS0⟩⟩
        refine quietS (S := Below wr.heap.size wr) (by kernel_rfl) (by kernel_rfl) (hS0) ?_
        repeat (first | go_big_quiet_skip | (go_big_quiet_want; go_big_quiet_op; first | go_big_quiet_on | go_big_quiet_call ((go_at_call 87; exact quiet_S (CH.out _ (Wd.ok _))))))
        refine wpQuiet_nil ?_
        rintro W ⟨⟨_, hW⟩, rfl⟩
        go_wp2
        go_roundw
        case rel => exact ⟨k + 1, by omega, by go_num, by rw [HF.out]; exact hO.more hW, hb.trans (hW.mono hb.size)⟩
        case measure => simp [intOf]; omega
      · rw [show hasQ (b.1, b.2.1, b.2.2) n = true from hh] at CH
        rw [hh, if_pos rfl] at HF
        clear hh
        go_wp2
        have hNe : Nonempty (Wd (Below wr.heap.size wr)) := ⟨⟨_, hS0⟩⟩
        refine quietS (S := Below wr.heap.size wr) (by kernel_rfl) (by kernel_rfl) (hS0) ?_
        repeat (first | go_big_quiet_skip | (go_big_quiet_want; go_big_quiet_op; first | go_big_quiet_on | go_big_quiet_call ((go_at_call 87; exact quiet_S (CH.out _ (Wd.ok _))))))
        refine wpQuiet_nil ?_
        rintro W ⟨⟨_, hW⟩, rfl⟩
        have g2 : W.cell? ⟨g, o + k, none⟩ = some (.int .i64 n) := (hW.cell (p := ⟨g, o + k, none⟩) hgl2).trans g1
        have hOW := hO.more hW
        go_wp2_with (refine wpList_iapp rfl _ _ rfl _ ((l.take k).filter fun n => hasQ b n) rfl (hOW.alloc _) _ n 1 rfl (heap_alloc_new _ _) (by omega) ?_; intro v' w4 hO4 hb4)
        go_roundw
        case rel => exact ⟨k + 1, by omega, by go_num, by rw [HF.out]; exact hO4, (hb.trans (hW.mono hb.size)).trans (((Below.refl _ W).alloc (Nat.le_trans hb.size hW.size) _).trans hb4)⟩
        case measure => simp [intOf]; omega
    · rw [List.take_of_length_le (by omega), HM.out] at hO
      have hRr := hR1.more hb
      go_wp2_with (go_at_call 218; refine (CO.out _ _ (.of_own hO.own)).mono ?_; rintro e w2 ⟨rfl, hb2⟩; have hR2 := hRr.more hb2; have c0 := hR2.cell.1; have c1 := hR2.cell.2.1; have c2 := hR2.cell.2.2; have f0 := hR2.frozen 0; have f1 := hR2.frozen 1; have f2 := hR2.frozen 2)
      have hsr := hs1.trans (hb.mono hs1.size)
      obtain ⟨h1, h2⟩ := hR2.result q (by omega) (hsr.trans (hb2.mono hsr.size))
      obtain ⟨d0, d1, d2⟩ := h1.cell
      refine bodyPost_ret (v := .tuple #[encQ q, .bool z]) ?_ rfl ⟨rfl, h2⟩
      simp [results, Tryz.results163, go_sem, d0, d1, d2]

end Go.Proofs.YtldillnjnjkkgaaGreatDoor.Per

/- Walk of flight.Check. -/
namespace Go.Proofs.YtldillnjnjkkgaaGreatDoor
open Go.RowKit Go.Shelf
set_option linter.unusedSimpArgs false
set_option linter.unusedVariables false

theorem LegL.take {w : World} {A : Option Addr} {n c : Nat} {l : List Lg} (h : LegL w (.slice A n c) l) (k : Nat) : LegL w (.slice A (l.take k).length c) (l.take k) := by
  obtain ⟨A', c', e, h⟩ := h
  cases e
  refine ⟨A, c, rfl, ?_⟩
  rcases h with h | ⟨b, o, h1, h2, h3⟩
  · exact .inl (by simp [h])
  · refine .inr ⟨b, o, h1, h2, fun i x j u hi hu => h3 i x j u ?_ hu⟩
    rw [List.getElem?_take] at hi
    split at hi
    · exact hi
    · cases hi
def carW : ByteArray := ⟨#[99, 97, 114, 114, 105, 101, 114]⟩
def numW : ByteArray := ⟨#[110, 117, 109, 98, 101, 114]⟩
def perW : ByteArray := ⟨#[112, 101, 114, 105, 111, 100]⟩
def lgsW : ByteArray := ⟨#[108, 101, 103, 115]⟩
def legW : ByteArray := ⟨#[108, 101, 103, 32]⟩
def hdF (f : FV) : List Flt := pick carW [if (!carB f.car) = true then 5 else 0] ++ (pick numW [if (!numB f.num) = true then 2 else 0] ++ pick perW [Per.errQ (f.pf, f.pt, f.pd)])
def lgEs (l : List Air) (before : List Lg) (x : Lg) : List Int :=
  [if (!codeB x.eq 3 3) = true then 5 else 0, if (!((findC l x.f).isSome && (findC l x.t).isSome)) = true then 14 else 0, if (!nextB before x) = true then 15 else 0, if (!(minB x.dep && minB x.arr)) = true then 2 else 0]
def lgsF (l : List Air) (lg : List Lg) (k : Nat) : List Flt := (List.range k).flatMap fun i => match lg[i]? with
  | some x => pick (legW ++ decA i) (lgEs l (lg.take i) x)
  | none => []
theorem lgsF_succ (l : List Air) (lg : List Lg) (k : Nat) (x : Lg) (h : lg[k]? = some x) : lgsF l lg (k + 1) = lgsF l lg k ++ pick (legW ++ decA k) (lgEs l (lg.take k) x) := by
  simp [lgsF, List.range_succ, h]
theorem lgsF_le (l : List Air) (lg : List Lg) : ∀ k, (lgsF l lg k).length ≤ 4 * k
  | 0 => by simp [lgsF]
  | k + 1 => by
    have ih := lgsF_le l lg k
    have e : lgsF l lg (k + 1) = lgsF l lg k ++ (match lg[k]? with | some x => pick (legW ++ decA k) (lgEs l (lg.take k) x) | none => []) := by simp [lgsF, List.range_succ]
    rw [e, List.length_append]
    cases lg[k]? with
    | none => simp; omega
    | some x =>
      have := pick_le (legW ++ decA k) (lgEs l (lg.take k) x)
      simp only [lgEs, List.length_cons, List.length_nil] at this ⊢
      omega
def wh (b : Bool) (e : Int) : Int := if b = true then e else 0
theorem fwh_any (b : Bool) (e : Int) (w : World) : Calls Tryz.prog 77 #[.bool b, .int .i64 e] w fun r w' => r = .returned (.int .i64 (wh b e)) ∧ w = w' := fwhen_any b e w
theorem hdF_le (f : FV) : (hdF f).length ≤ 3 := by
  unfold hdF
  have h1 := pick_le carW [if (!carB f.car) = true then 5 else 0]
  have h2 := pick_le numW [if (!numB f.num) = true then 2 else 0]
  have h3 := pick_le perW [Per.errQ (f.pf, f.pt, f.pd)]
  rw [List.length_append, List.length_append]
  simp only [List.length_cons, List.length_nil] at h1 h2 h3
  omega
def chF (l : List Air) (f : FV) : List Flt := if cntB f.lg.length = true then (if (hdF f ++ lgsF l f.lg f.lg.length).length = 0 then timF l f else hdF f ++ lgsF l f.lg f.lg.length) else hdF f ++ pick lgsW [4]

set_option maxRecDepth 100000 in
set_option maxHeartbeats 8000000 in
theorem fcheck_any (p : PV) (f : FV) (w : World) (hl : p.l.length ≤ 40) (hL : AirL w p.A p.l) (hs : ∀ a ∈ p.l, a.shs.length ≤ 300) (hz : ∀ a ∈ p.l, OkZ a.off a.shs) (hG : LegL w (.slice f.A f.lg.length f.c) f.lg) (hn : f.lg.length ≤ 100) (hcap : f.lg.length ≤ f.c)
    (hc0 : f.car.size ≤ maxLen) (ho : ∀ x ∈ f.lg, OkG x) (KT : cntB f.lg.length = true → (hdF f ++ lgsF p.l f.lg f.lg.length).length = 0 → ∀ W, Below w.heap.size w W → Calls Tryz.prog 126 #[encP p, encFl f] W fun e w' => ∃ v, e = .returned v ∧ FOwn W.heap.size w' v (timF p.l f) ∧ Below W.heap.size W w') :
    Calls Tryz.prog 54 #[encP p, encFl f] w fun e w' => ∃ v, e = .returned v ∧ FOwn w.heap.size w' v (chF p.l f) ∧ Below w.heap.size w w' := by
  obtain ⟨car, num, pf, pt, pd, A, c, lg⟩ := f
  dsimp only at *
  obtain ⟨HF, hHF⟩ : ∃ H, H = hdF ⟨car, num, pf, pt, pd, A, c, lg⟩ := ⟨_, rfl⟩
  obtain ⟨TF, hTF⟩ : ∃ H, H = timF p.l ⟨car, num, pf, pt, pd, A, c, lg⟩ := ⟨_, rfl⟩
  obtain ⟨CF, hCF⟩ : ∃ H, H = chF p.l ⟨car, num, pf, pt, pd, A, c, lg⟩ := ⟨_, rfl⟩
  have HCF : Hid (CF = if cntB lg.length = true then (if (HF ++ lgsF p.l lg lg.length).length = 0 then TF else HF ++ lgsF p.l lg lg.length) else HF ++ pick lgsW [4]) := Lib.hid (by rw [hCF, hHF, hTF]; rfl)
  have HHL : HF.length ≤ 3 := by rw [hHF]; exact hdF_le _
  obtain ⟨x0, hx0⟩ : ∃ x : Int, x = (if (!carB car) = true then 5 else 0) := ⟨_, rfl⟩
  obtain ⟨x1, hx1⟩ : ∃ x : Int, x = (if (!numB num) = true then 2 else 0) := ⟨_, rfl⟩
  obtain ⟨x2, hx2⟩ : ∃ x : Int, x = Per.errQ (pf, pt, pd) := ⟨_, rfl⟩
  have HHF : Hid (HF = [] ++ pick carW [x0] ++ pick numW [x1] ++ pick perW [x2]) := Lib.hid (by rw [hHF, hx0, hx1, hx2]; simp [hdF])
  have KC := Lib.hid (fun w => carrier_any car w hc0)
  have KN := Lib.hid (isNumber7_any num)
  have KP := Lib.hid (Per.check_any pf pt pd)
  have KL := Lib.hid (isLegCount_any lg.length)
  have KW0 := Lib.hid (fun W => fwhen_any (!carB car) 5 W)
  have KW1 := Lib.hid (fun W => fwhen_any (!numB num) 2 W)
  rw [← hx0] at KW0
  rw [← hx1] at KW1
  rw [← hx2] at KP
  rw [← hTF, ← hHF] at KT
  rw [← hCF]
  replace KT := Lib.hid KT
  generalize carB car = b0 at *
  generalize numB num = b1 at *
  clear hx0 hx1 hx2 hHF hTF hCF
  have hb1 := bel_alloc w (.cells #[.slice p.A p.l.length p.ca, .slice p.D p.ds.length p.cd] placesT)
  have hb2 := bel_alloc (w.alloc (.cells #[.slice p.A p.l.length p.ca, .slice p.D p.ds.length p.cd] placesT)) (.cells #[.string car, .int .i64 num, .int .i64 pf, .int .i64 pt, .int .i64 pd, .slice A lg.length c] fliT)
  have hb0 := hb1.trans (hb2.mono hb1.size)
  have p0 := bel_cell hb2 ((cells_new w #[.slice p.A p.l.length p.ca, .slice p.D p.ds.length p.cd] placesT 0).trans (show _ = some (.slice p.A p.l.length p.ca) from rfl))
  have p1 := bel_cell hb2 ((cells_new w #[.slice p.A p.l.length p.ca, .slice p.D p.ds.length p.cd] placesT 1).trans (show _ = some (.slice p.D p.ds.length p.cd) from rfl))
  have q0 := (cells_new (w.alloc (.cells #[.slice p.A p.l.length p.ca, .slice p.D p.ds.length p.cd] placesT)) #[.string car, .int .i64 num, .int .i64 pf, .int .i64 pt, .int .i64 pd, .slice A lg.length c] fliT 0).trans (show _ = some (Value.string car) from rfl)
  have q1 := (cells_new (w.alloc (.cells #[.slice p.A p.l.length p.ca, .slice p.D p.ds.length p.cd] placesT)) #[.string car, .int .i64 num, .int .i64 pf, .int .i64 pt, .int .i64 pd, .slice A lg.length c] fliT 1).trans (show _ = some (Value.int .i64 num) from rfl)
  have q2 := (cells_new (w.alloc (.cells #[.slice p.A p.l.length p.ca, .slice p.D p.ds.length p.cd] placesT)) #[.string car, .int .i64 num, .int .i64 pf, .int .i64 pt, .int .i64 pd, .slice A lg.length c] fliT 2).trans (show _ = some (Value.int .i64 pf) from rfl)
  have q3 := (cells_new (w.alloc (.cells #[.slice p.A p.l.length p.ca, .slice p.D p.ds.length p.cd] placesT)) #[.string car, .int .i64 num, .int .i64 pf, .int .i64 pt, .int .i64 pd, .slice A lg.length c] fliT 3).trans (show _ = some (Value.int .i64 pt) from rfl)
  have q4 := (cells_new (w.alloc (.cells #[.slice p.A p.l.length p.ca, .slice p.D p.ds.length p.cd] placesT)) #[.string car, .int .i64 num, .int .i64 pf, .int .i64 pt, .int .i64 pd, .slice A lg.length c] fliT 4).trans (show _ = some (Value.int .i64 pd) from rfl)
  have q5 := (cells_new (w.alloc (.cells #[.slice p.A p.l.length p.ca, .slice p.D p.ds.length p.cd] placesT)) #[.string car, .int .i64 num, .int .i64 pf, .int .i64 pt, .int .i64 pd, .slice A lg.length c] fliT 5).trans (show _ = some (Value.slice A lg.length c) from rfl)
  rw [World.size_alloc] at q0 q1 q2 q3 q4 q5
  have HSZ : Hid (((w.alloc (.cells #[.slice p.A p.l.length p.ca, .slice p.D p.ds.length p.cd] placesT)).alloc (.cells #[.string car, .int .i64 num, .int .i64 pf, .int .i64 pt, .int .i64 pd, .slice A lg.length c] fliT)).heap.size = w.heap.size + 2) := Lib.hid (by simp)
  have HLL := Lib.hid (hL.more hb0)
  have HGG := Lib.hid (hG.more hb0)
  have HO := Lib.hid ho
  clear hL hG ho hz
  go_enter Tryz.func54, Tryz.ntmps54
  go_upto_region 1 with (fail)
  generalize hw5 : (w.alloc (.cells #[.slice p.A p.l.length p.ca, .slice p.D p.ds.length p.cd] placesT)).alloc (.cells #[.string car, .int .i64 num, .int .i64 pf, .int .i64 pt, .int .i64 pd, .slice A lg.length c] fliT) = w5 at *
  clear hw5 hb1 hb2
  have f0 := bel_get q0
  have f1 := bel_get q1
  have f2 := bel_get q2
  have f3 := bel_get q3
  have f4 := bel_get q4
  have f5 := bel_get q5
  have y0 := bel_get p0
  have y1 := bel_get p1
  have HNIL : Hid (∀ W : World, w5.heap.size ≤ W.heap.size → FOwn w5.heap.size W (.slice none 0 0) []) := Lib.hid (fun W h => ROwn.nil h)
  have HL0 : Hid (([] : List Flt).length ≤ 1000000) := Lib.hid (by simp)
  have HL1 : Hid (([] ++ pick carW [x0]).length ≤ 1000000) := Lib.hid (by have := pick_le carW [x0]; rw [List.length_append]; simp only [List.length_cons, List.length_nil] at this ⊢; omega)
  have HL2 : Hid (([] ++ pick carW [x0] ++ pick numW [x1]).length ≤ 1000000) := Lib.hid (by have h1 := pick_le carW [x0]; have h2 := pick_le numW [x1]; rw [List.length_append, List.length_append]; simp only [List.length_cons, List.length_nil] at h1 h2 ⊢; omega)
  have Y0 := Lib.hid y0
  have Y1 := Lib.hid y1
  clear p0 p1 q1 q2 q3 q4 q5 y0 y1
  go_upto_region 2 with (first
    | (go_at_call 76; refine (fadd_any w5.heap.size (.slice none 0 0) [] carW w5.heap.size 1 1 [x0] _ (HNIL.out _ (by rw [World.size_alloc]; omega)) rfl (by omega) (errs_new w5 [x0] rfl) (by intro h; cases h) HL0.out).mono ?_; rintro e w1 ⟨v1, rfl, hO1, hC1⟩)
    | (go_at_call 77; with_reducible refine (KW0.out _).mono ?_; rintro e w' ⟨rfl, rfl⟩)
    | (go_at_call 108; refine (KC.out _).mono ?_; rintro e w' ⟨rfl, rfl⟩))
  have hS1 : SW w5 w1 := (bel_alloc w5 (.cells #[.int .i64 x0] errT)).trans (hC1.below (HNIL.out _ (by rw [World.size_alloc]; omega)))
  have k1 := f1 _ hS1
  have k2 := f2 _ hS1
  have k3 := f3 _ hS1
  have k4 := f4 _ hS1
  have hv1 : v1.ownBlock ≠ some w1.heap.size := fun h => Nat.lt_irrefl _ (hO1.low h).2
  clear hC1 q0
  go_upto_region 3 with (first
    | (go_at_call 76; refine (fadd_any w5.heap.size v1 _ numW w1.heap.size 1 1 [x1] _ (hO1.alloc _) rfl (by omega) (errs_new w1 [x1] rfl) hv1 HL1.out).mono ?_; rintro e w2 ⟨v2, rfl, hO2, hC2⟩)
    | (go_at_call 77; with_reducible refine (KW1.out _).mono ?_; rintro e w' ⟨rfl, rfl⟩)
    | (go_at_call 120; refine (KN.out _).mono ?_; rintro e w' ⟨rfl, rfl⟩))
  have hS2 : SW w5 w2 := Below.trans hS1 (((bel_alloc w1 (.cells #[.int .i64 x1] errT)).mono hS1.size).trans (hC2.below (hO1.alloc _)))
  have k2 := f2 _ hS2
  have k3 := f3 _ hS2
  have k4 := f4 _ hS2
  clear hC2 k1
  go_upto_region 4 with (first
    | (go_at_call 76; refine (fadd_any w5.heap.size v2 _ perW w3.heap.size 1 1 [x2] _ ((hO2.more hb3).alloc _) rfl (by omega) (errs_new w3 [x2] rfl) (fun h => Nat.lt_irrefl _ ((hO2.more hb3).low h).2) HL2.out).mono ?_; rintro e w4 ⟨v3, rfl, hO3, hC3⟩)
    | (go_at_call 110; refine (KP.out _).mono ?_; rintro e w3 ⟨rfl, hb3⟩))
  have hS3 : SW w5 w3 := Below.trans hS2 (Below.mono hb3 hS2.size)
  have hS4 : SW w5 w4 := Below.trans hS3 (((bel_alloc w3 (.cells #[.int .i64 x2] errT)).mono hS3.size).trans (hC3.below ((hO2.more hb3).alloc _)))
  rw [← HHF.out] at hO3
  have k5 := f5 _ hS4
  clear hC3 k2 k3 k4 hO1 hO2 hb3
  cases hcn : cntB lg.length with
  | false =>
    rw [hcn] at KL
    have HR : Hid (CF = HF ++ pick lgsW [4]) := Lib.hid (by rw [HCF.out, if_neg (by rw [hcn]; simp)])
    clear hcn
    go_wp2_with (first
      | (go_at_call 76; refine (fadd_any w5.heap.size v3 _ lgsW w4.heap.size 1 1 [4] _ (hO3.alloc _) rfl (by omega) (errs_new w4 [4] rfl) (fun h => Nat.lt_irrefl _ (hO3.low h).2) (by omega)).mono ?_; rintro e w8 ⟨v8, rfl, hO8, hC8⟩)
      | (go_at_call 121; refine (KL.out _).mono ?_; rintro e w' ⟨rfl, rfl⟩))
    go_ret
    exact ⟨v8, rfl, by rw [HR.out]; exact ⟨hO8.own.mono hb0.size, Nat.le_trans hb0.size hO8.base⟩, hb0.trans ((Below.trans hS4 (((bel_alloc w4 (.cells #[.int .i64 4] errT)).mono hS4.size).trans (hC8.below (hO3.alloc _)))).mono hb0.size)⟩
  | true =>
    rw [hcn] at KL
    have KT2 := Lib.hid (KT.out hcn)
    have HR : Hid (CF = if (HF ++ lgsF p.l lg lg.length).length = 0 then TF else HF ++ lgsF p.l lg lg.length) := Lib.hid (by rw [HCF.out, if_pos hcn])
    have HI : Hid (FOwn w5.heap.size w4 v3 (HF ++ lgsF p.l lg 0) ∧ SW w5 w4) := Lib.hid ⟨by simpa [lgsF] using hO3, hS4⟩
    have HHL := Lib.hid HHL
    have F := Lib.hid (And.intro f0 (And.intro f1 (And.intro f2 (And.intro f3 f4))))
    have F5 := Lib.hid f5
    clear hcn hO3 KT HCF HHF f0 f1 f2 f3 f4
    go_wp2_with (go_at_call 121; refine (KL.out _).mono ?_; rintro e w' ⟨rfl, rfl⟩)
    clear k5
    go_loopg [5, 40] lg.length (fun kx v5 vi wr => ∃ (v : Value) (k : Nat), v = v5 ∧ vi = .int .i64 k ∧ k + kx = lg.length ∧ Hid (FOwn w5.heap.size wr v (HF ++ lgsF p.l lg k) ∧ SW w5 wr))
    case atStart => exact ⟨_, 0, rfl, rfl, by omega, HI⟩
    case round =>
      obtain ⟨v, k, rfl, rfl, hkx, HH⟩ := hrel
      clear HI hS1 hS2 hS3 hS4
      have HKX := Lib.hid hkx
      by_cases hlt : k < lg.length
      · clear hkx
        obtain ⟨b, o, x, rfl, hbl, hx, c0, c1, c2, c3, c4⟩ := LegL.get (HGG.out.more HH.out.2) hlt
        have hox := HO.out x (List.mem_of_getElem? hx)
        have HTk := Lib.hid (lgsF_succ p.l lg k x hx)
        have HFL : Hid ((HF ++ lgsF p.l lg k).length ≤ 1000000) := Lib.hid (by have h1 := lgsF_le p.l lg k; have h2 := HHL.out; rw [List.length_append]; omega)
        have hO := HH.out.1
        have hSr : SW w5 wr := HH.out.2
        have HV1 : Hid (∀ g, v.ownBlock = some g → w5.heap.size ≤ g ∧ g < wr.heap.size) := Lib.hid (fun g hg => hO.low hg)
        have hvN : v.ownBlock ≠ some wr.heap.size := fun h => by have := (HV1.out _ h).2; omega
        have hv0 : v.ownBlock ≠ some w.heap.size := fun h => by have h1 := (HV1.out _ h).1; have h2 := HSZ.out; omega
        have hv1 : v.ownBlock ≠ some (w.heap.size + 1) := fun h => by have h1 := (HV1.out _ h).1; have h2 := HSZ.out; omega
        have hb6 := bel_alloc wr (.cells #[.string x.f, .string x.t, .int .i64 x.dep, .int .i64 x.arr, .string x.eq] legT)
        have HSW : Hid (∀ W, SX (wr.alloc (.cells #[.string x.f, .string x.t, .int .i64 x.dep, .int .i64 x.arr, .string x.eq] legT)) v W → SW w5 W) := Lib.hid (fun W h => Below.trans hSr ((hb6.mono hSr.size).trans (h.below (Nat.le_trans hSr.size hb6.size) (fun k' hk' hv => by have := (HV1.out _ hv).1; omega))))
        have y0 : ∀ W, SX (wr.alloc (.cells #[.string x.f, .string x.t, .int .i64 x.dep, .int .i64 x.arr, .string x.eq] legT)) v W → W.cell? ⟨w.heap.size, 0, none⟩ = some (.slice p.A p.l.length p.ca) := fun W h => Y0.out W (HSW.out W h)
        have y1 : ∀ W, SX (wr.alloc (.cells #[.string x.f, .string x.t, .int .i64 x.dep, .int .i64 x.arr, .string x.eq] legT)) v W → W.cell? ⟨w.heap.size, 1, none⟩ = some (.slice p.D p.ds.length p.cd) := fun W h => Y1.out W (HSW.out W h)
        have f5 : ∀ W, SX (wr.alloc (.cells #[.string x.f, .string x.t, .int .i64 x.dep, .int .i64 x.arr, .string x.eq] legT)) v W → W.cell? ⟨w.heap.size + 1, 5, none⟩ = some (.slice (some ⟨b, o, none⟩) lg.length c) := fun W h => F5.out W (HSW.out W h)
        have n0 : ∀ W, SX (wr.alloc (.cells #[.string x.f, .string x.t, .int .i64 x.dep, .int .i64 x.arr, .string x.eq] legT)) v W → W.cell? ⟨wr.heap.size, 0, none⟩ = some (Value.string x.f) := fun W h => SX.cell ((cells_new wr #[.string x.f, .string x.t, .int .i64 x.dep, .int .i64 x.arr, .string x.eq] legT 0).trans (show _ = some (Value.string x.f) from rfl)) hvN h
        have n1 : ∀ W, SX (wr.alloc (.cells #[.string x.f, .string x.t, .int .i64 x.dep, .int .i64 x.arr, .string x.eq] legT)) v W → W.cell? ⟨wr.heap.size, 1, none⟩ = some (Value.string x.t) := fun W h => SX.cell ((cells_new wr #[.string x.f, .string x.t, .int .i64 x.dep, .int .i64 x.arr, .string x.eq] legT 1).trans (show _ = some (Value.string x.t) from rfl)) hvN h
        have n2 : ∀ W, SX (wr.alloc (.cells #[.string x.f, .string x.t, .int .i64 x.dep, .int .i64 x.arr, .string x.eq] legT)) v W → W.cell? ⟨wr.heap.size, 2, none⟩ = some (Value.int .i64 x.dep) := fun W h => SX.cell ((cells_new wr #[.string x.f, .string x.t, .int .i64 x.dep, .int .i64 x.arr, .string x.eq] legT 2).trans (show _ = some (Value.int .i64 x.dep) from rfl)) hvN h
        have n3 : ∀ W, SX (wr.alloc (.cells #[.string x.f, .string x.t, .int .i64 x.dep, .int .i64 x.arr, .string x.eq] legT)) v W → W.cell? ⟨wr.heap.size, 3, none⟩ = some (Value.int .i64 x.arr) := fun W h => SX.cell ((cells_new wr #[.string x.f, .string x.t, .int .i64 x.dep, .int .i64 x.arr, .string x.eq] legT 3).trans (show _ = some (Value.int .i64 x.arr) from rfl)) hvN h
        have n4 : ∀ W, SX (wr.alloc (.cells #[.string x.f, .string x.t, .int .i64 x.dep, .int .i64 x.arr, .string x.eq] legT)) v W → W.cell? ⟨wr.heap.size, 4, none⟩ = some (Value.string x.eq) := fun W h => SX.cell ((cells_new wr #[.string x.f, .string x.t, .int .i64 x.dep, .int .i64 x.arr, .string x.eq] legT 4).trans (show _ = some (Value.string x.eq) from rfl)) hvN h
        have KD := Lib.hid (dec_small k (by omega))
        have KE := Lib.hid (fun w => isEquip_any x.eq w hox.eq)
        have KF1 : Hid (∀ W, SX (wr.alloc (.cells #[.string x.f, .string x.t, .int .i64 x.dep, .int .i64 x.arr, .string x.eq] legT)) v W → Calls Tryz.prog 123 #[encP p, .string x.f] W fun e w' => e = .returned (.bool (findC p.l x.f).isSome) ∧ Below W.heap.size W w') := Lib.hid (fun W h => isAirport_any p x.f W hl (HLL.out.more (HSW.out W h)) hs)
        have KF2 : Hid (∀ W, SX (wr.alloc (.cells #[.string x.f, .string x.t, .int .i64 x.dep, .int .i64 x.arr, .string x.eq] legT)) v W → Calls Tryz.prog 123 #[encP p, .string x.t] W fun e w' => e = .returned (.bool (findC p.l x.t).isSome) ∧ Below W.heap.size W w') := Lib.hid (fun W h => isAirport_any p x.t W hl (HLL.out.more (HSW.out W h)) hs)
        have KX : Hid (∀ W, SX (wr.alloc (.cells #[.string x.f, .string x.t, .int .i64 x.dep, .int .i64 x.arr, .string x.eq] legT)) v W → Calls Tryz.prog 124 #[.slice (some ⟨b, o, none⟩) k c, encG x] W fun e w' => e = .returned (.bool (nextB (lg.take k) x)) ∧ Below W.heap.size W w') := Lib.hid (fun W h => by
          have hk : (lg.take k).length = k := by rw [List.length_take]; omega
          have h2 := isNext_any (some ⟨b, o, none⟩) c (lg.take k) x W (by omega) (LegL.take (HGG.out.more (HSW.out W h)) k)
          rw [hk] at h2
          exact h2)
        have KM1 := Lib.hid (isMinute_any x.dep)
        have KM2 := Lib.hid (isMinute_any x.arr)
        have HEq : Hid (lgEs p.l (lg.take k) x = [if (!codeB x.eq 3 3) = true then 5 else 0, if (!((findC p.l x.f).isSome && (findC p.l x.t).isSome)) = true then 14 else 0, if (!nextB (lg.take k) x) = true then 15 else 0, if (!(minB x.dep && minB x.arr)) = true then 2 else 0]) := Lib.hid rfl
        generalize (findC p.l x.f).isSome = kf at *
        generalize (findC p.l x.t).isSome = kt at *
        generalize codeB x.eq 3 3 = ke at *
        generalize nextB (lg.take k) x = kn at *
        generalize minB x.dep = md at *
        generalize minB x.arr = ma at *
        have hadd : ∀ W : World, (Op.stringOp .add ⟨#[108, 101, 103, 32]⟩ (decA k)).run Tryz.prog W = .ok (.string (legW ++ decA k)) W := fun W => run_string_add_sum W _ _ (by have := decA_size k (by omega); have e : (⟨#[108, 101, 103, 32]⟩ : ByteArray).size = 4 := rfl; omega)
        have i2 : (k : Int) < (lg.length : Int) := by omega
        have i3 : (k : Int) ≤ (c : Int) := by omega
        have i4 : k ≤ c := by omega
        have hO := hO.more (hb6.trans ((Below.refl _ (wr.alloc (.cells #[.string x.f, .string x.t, .int .i64 x.dep, .int .i64 x.arr, .string x.eq] legT))).drew.mono hb6.size))
        generalize decA k = sk at *
        clear hx hox hbl F
        go_upto_region 9 with (fail)
        generalize hw6 : wr.alloc (.cells #[.string x.f, .string x.t, .int .i64 x.dep, .int .i64 x.arr, .string x.eq] legT) = w6 at *
        clear hw6 c0 c1 c2 c3 c4
        have hS : (SX w6 v) _ := But.of_below (Below.refl _ _).drew
        refine wp_region_held_drew (S := SX w6 v) (by kernel_rfl) hS (fun _ => ?_)
        refine wpAnyH_take (i := 0) (v := ?vC0) rfl (by kernel_rfl) (by kernel_rfl) (by kernel_rfl) (fun _ _ _ h => h) (Or.inl ⟨by rfl, ?hyC0⟩) hS ?restC0
        case hyC0 =>
          intro w hSw
          first | (go_simp; done) | (go_simp; with_reducible rfl)
        try simp only [Act.put, List.setIfInBounds_toArray, List.set_cons_zero, List.set_cons_succ]
        refine wpAnyH_take (i := 1) (v := ?vC1) rfl (by kernel_rfl) (by kernel_rfl) (by kernel_rfl) (fun _ _ _ h => h) (Or.inl ⟨by rfl, ?hyC1⟩) hS ?restC1
        case hyC1 =>
          intro w hSw
          first | (go_simp; done) | (go_simp; with_reducible rfl)
        try simp only [Act.put, List.setIfInBounds_toArray, List.set_cons_zero, List.set_cons_succ]
        refine wpAnyH_take (i := 4) (v := ?vC4) rfl (by kernel_rfl) (by kernel_rfl) (by kernel_rfl) (fun _ _ _ h => h) (Or.inl ⟨by rfl, ?hyC4⟩) hS ?restC4
        case hyC4 =>
          intro w hSw
          first | (go_simp; done) | (go_simp; with_reducible rfl)
        try simp only [Act.put, List.setIfInBounds_toArray, List.set_cons_zero, List.set_cons_succ]
        refine wpAnyH_take (i := 5) (v := ?vC5) rfl (by kernel_rfl) (by kernel_rfl) (by kernel_rfl) (fun _ _ _ h => h) (Or.inl ⟨by rfl, ?hyC5⟩) hS ?restC5
        case hyC5 =>
          intro w hSw
          have k0 := n4 w hSw
          first | (go_simp; done) | (go_simp; with_reducible rfl)
        try simp only [Act.put, List.setIfInBounds_toArray, List.set_cons_zero, List.set_cons_succ]
        refine wpAnyH_take (i := 9) (v := ?vC9) rfl (by kernel_rfl) (by kernel_rfl) (by kernel_rfl) (fun _ _ _ h => h) (Or.inl ⟨by rfl, ?hyC9⟩) hS ?restC9
        case hyC9 =>
          intro w hSw
          have k0 := y0 w hSw; have k1 := y1 w hSw
          first | (go_simp; done) | (go_simp; with_reducible rfl)
        try simp only [Act.put, List.setIfInBounds_toArray, List.set_cons_zero, List.set_cons_succ]
        refine wpAnyH_take (i := 10) (v := ?vC10) rfl (by kernel_rfl) (by kernel_rfl) (by kernel_rfl) (fun _ _ _ h => h) (Or.inl ⟨by rfl, ?hyC10⟩) hS ?restC10
        case hyC10 =>
          intro w hSw
          first | (go_simp; done) | (go_simp; with_reducible rfl)
        try simp only [Act.put, List.setIfInBounds_toArray, List.set_cons_zero, List.set_cons_succ]
        refine wpAnyH_take (i := 11) (v := ?vC11) rfl (by kernel_rfl) (by kernel_rfl) (by kernel_rfl) (fun _ _ _ h => h) (Or.inl ⟨by rfl, ?hyC11⟩) hS ?restC11
        case hyC11 =>
          intro w hSw
          have k0 := n0 w hSw
          first | (go_simp; done) | (go_simp; with_reducible rfl)
        try simp only [Act.put, List.setIfInBounds_toArray, List.set_cons_zero, List.set_cons_succ]
        refine wpAnyH_take (i := 22) (v := ?vC22) rfl (by kernel_rfl) (by kernel_rfl) (by kernel_rfl) (fun _ _ _ h => h) (Or.inl ⟨by rfl, ?hyC22⟩) hS ?restC22
        case hyC22 =>
          intro w hSw
          first | (go_simp; done) | (go_simp; with_reducible rfl)
        try simp only [Act.put, List.setIfInBounds_toArray, List.set_cons_zero, List.set_cons_succ]
        refine wpAnyH_take (i := 23) (v := ?vC23) rfl (by kernel_rfl) (by kernel_rfl) (by kernel_rfl) (fun _ _ _ h => h) (Or.inl ⟨by rfl, ?hyC23⟩) hS ?restC23
        case hyC23 =>
          intro w hSw
          have k0 := f5 w hSw
          first | (go_simp; done) | (go_simp; with_reducible rfl)
        try simp only [Act.put, List.setIfInBounds_toArray, List.set_cons_zero, List.set_cons_succ]
        refine wpAnyH_take (i := 24) (v := ?vC24) rfl (by kernel_rfl) (by kernel_rfl) (by kernel_rfl) (fun _ _ _ h => h) (Or.inl ⟨by rfl, ?hyC24⟩) hS ?restC24
        case hyC24 =>
          intro w hSw
          first | (go_simp; done) | (go_simp; with_reducible rfl)
        try simp only [Act.put, List.setIfInBounds_toArray, List.set_cons_zero, List.set_cons_succ]
        refine wpAnyH_take (i := 25) (v := ?vC25) rfl (by kernel_rfl) (by kernel_rfl) (by kernel_rfl) (fun _ _ _ h => h) (Or.inl ⟨by rfl, ?hyC25⟩) hS ?restC25
        case hyC25 =>
          intro w hSw
          first | (go_simp; done) | (go_simp; with_reducible rfl)
        try simp only [Act.put, List.setIfInBounds_toArray, List.set_cons_zero, List.set_cons_succ]
        refine wpAnyH_take (i := 26) (v := ?vC26) rfl (by kernel_rfl) (by kernel_rfl) (by kernel_rfl) (fun _ _ _ h => h) (Or.inl ⟨by rfl, ?hyC26⟩) hS ?restC26
        case hyC26 =>
          intro w hSw
          have k0 := n0 w hSw; have k1 := n1 w hSw; have k2 := n2 w hSw; have k3 := n3 w hSw; have k4 := n4 w hSw
          first | (go_simp; done) | (go_simp; with_reducible rfl)
        try simp only [Act.put, List.setIfInBounds_toArray, List.set_cons_zero, List.set_cons_succ]
        refine wpAnyH_take (i := 30) (v := ?vC30) rfl (by kernel_rfl) (by kernel_rfl) (by kernel_rfl) (fun _ _ _ h => h) (Or.inl ⟨by rfl, ?hyC30⟩) hS ?restC30
        case hyC30 =>
          intro w hSw
          first | (go_simp; done) | (go_simp; with_reducible rfl)
        try simp only [Act.put, List.setIfInBounds_toArray, List.set_cons_zero, List.set_cons_succ]
        refine wpAnyH_take (i := 31) (v := ?vC31) rfl (by kernel_rfl) (by kernel_rfl) (by kernel_rfl) (fun _ _ _ h => h) (Or.inl ⟨by rfl, ?hyC31⟩) hS ?restC31
        case hyC31 =>
          intro w hSw
          have k0 := n2 w hSw
          first | (go_simp; done) | (go_simp; with_reducible rfl)
        try simp only [Act.put, List.setIfInBounds_toArray, List.set_cons_zero, List.set_cons_succ]
        refine wpAnyH_ready (rs := [2]) (by kernel_rfl) (by simp) ?_
        refine AllReadyH.cons rfl (fun K hK => ?_) AllReadyH.nil
        go_simp
        go_wp2_with ((go_at_call 56; refine (KD.out _).mono ?_; rintro e w' ⟨rfl, rfl⟩))
        refine hK.out _ _ hS (fun _ => ?_)
        clear hK K
        refine wpAnyH_take (i := 3) (v := ?vC3) rfl (by kernel_rfl) (by kernel_rfl) (by kernel_rfl) (fun _ _ _ h => h) (Or.inl ⟨by rfl, ?hyC3⟩) hS ?restC3
        case hyC3 =>
          intro w hSw
          have kadd := hadd w
          first | (go_simp; done) | (go_simp; with_reducible rfl)
        try simp only [Act.put, List.setIfInBounds_toArray, List.set_cons_zero, List.set_cons_succ]
        refine wpAnyH_ready (rs := [6]) (by kernel_rfl) (by simp) ?_
        refine AllReadyH.cons rfl (fun K hK => ?_) AllReadyH.nil
        go_simp
        go_wp2_with ((go_at_call 122; refine (KE.out _).mono ?_; rintro e w' ⟨rfl, rfl⟩))
        refine hK.out _ _ hS (fun _ => ?_)
        clear hK K
        refine wpAnyH_take (i := 7) (v := ?vC7) rfl (by kernel_rfl) (by kernel_rfl) (by kernel_rfl) (fun _ _ _ h => h) (Or.inl ⟨by rfl, ?hyC7⟩) hS ?restC7
        case hyC7 =>
          intro w hSw
          first | (go_simp; done) | (go_simp; with_reducible rfl)
        try simp only [Act.put, List.setIfInBounds_toArray, List.set_cons_zero, List.set_cons_succ]
        refine wpAnyH_ready (rs := [8]) (by kernel_rfl) (by simp) ?_
        refine AllReadyH.cons rfl (fun K hK => ?_) AllReadyH.nil
        go_simp
        go_wp2_with ((go_at_call 77; refine (fwh_any _ _ _).mono ?_; rintro e w' ⟨rfl, rfl⟩))
        refine hK.out _ _ hS (fun _ => ?_)
        clear hK K
        refine wpAnyH_ready (rs := [12]) (by kernel_rfl) (by simp) ?_
        refine AllReadyH.cons rfl (fun K hK => ?_) AllReadyH.nil
        go_simp
        go_wp2_with ((go_at_call 123; refine (KF1.out _ hS).mono ?_; rintro e w' ⟨rfl, hb'⟩; have hO := hO.more hb'; have hS := hS.on hb'))
        refine hK.out _ _ hS (fun _ => ?_)
        clear hK K
        refine wpAnyH_take (i := 13) (v := ?vC13) rfl (by kernel_rfl) (by kernel_rfl) (by kernel_rfl) (fun _ _ _ h => h) (Or.inl ⟨by rfl, ?hyC13⟩) hS ?restC13
        case hyC13 =>
          intro w hSw
          first | (go_simp; done) | (go_simp; with_reducible rfl)
        try simp only [Act.put, List.setIfInBounds_toArray, List.set_cons_zero, List.set_cons_succ]
        refine wpAnyH_take (i := 14) (v := ?vC14) rfl (by kernel_rfl) (by kernel_rfl) (by kernel_rfl) (fun _ _ _ h => h) (Or.inl ⟨by rfl, ?hyC14⟩) hS ?restC14
        case hyC14 =>
          intro w hSw
          first | (go_simp; done) | (go_simp; with_reducible rfl)
        try simp only [Act.put, List.setIfInBounds_toArray, List.set_cons_zero, List.set_cons_succ]
        cases kf with
        | false =>
          refine wpAnyH_take (i := 15) (v := undef) rfl (by kernel_rfl) (by kernel_rfl) (by kernel_rfl) (fun _ _ _ h => h) (Or.inr ⟨by kernel_rfl, rfl⟩) hS ?_
          try simp only [Act.put, List.setIfInBounds_toArray, List.set_cons_zero, List.set_cons_succ]
          refine wpAnyH_take (i := 16) (v := undef) rfl (by kernel_rfl) (by kernel_rfl) (by kernel_rfl) (fun _ _ _ h => h) (Or.inr ⟨by kernel_rfl, rfl⟩) hS ?_
          try simp only [Act.put, List.setIfInBounds_toArray, List.set_cons_zero, List.set_cons_succ]
          refine wpAnyH_take (i := 17) (v := undef) rfl (by kernel_rfl) (by kernel_rfl) (by kernel_rfl) (fun _ _ _ h => h) (Or.inr ⟨by kernel_rfl, rfl⟩) hS ?_
          try simp only [Act.put, List.setIfInBounds_toArray, List.set_cons_zero, List.set_cons_succ]
          refine wpAnyH_take (i := 18) (v := undef) rfl (by kernel_rfl) (by kernel_rfl) (by kernel_rfl) (fun _ _ _ h => h) (Or.inr ⟨by kernel_rfl, rfl⟩) hS ?_
          try simp only [Act.put, List.setIfInBounds_toArray, List.set_cons_zero, List.set_cons_succ]
          refine wpAnyH_take (i := 19) (v := undef) rfl (by kernel_rfl) (by kernel_rfl) (by kernel_rfl) (fun _ _ _ h => h) (Or.inr ⟨by kernel_rfl, rfl⟩) hS ?_
          try simp only [Act.put, List.setIfInBounds_toArray, List.set_cons_zero, List.set_cons_succ]
          refine wpAnyH_take (i := 20) (v := ?vCf20) rfl (by kernel_rfl) (by kernel_rfl) (by kernel_rfl) (fun _ _ _ h => h) (Or.inl ⟨by rfl, ?hyCf20⟩) hS ?restCf20
          case hyCf20 =>
            intro w hSw
            first | (go_simp; done) | (go_simp; with_reducible rfl)
          try simp only [Act.put, List.setIfInBounds_toArray, List.set_cons_zero, List.set_cons_succ]
          refine wpAnyH_ready (rs := [21]) (by kernel_rfl) (by simp) ?_
          refine AllReadyH.cons rfl (fun K hK => ?_) AllReadyH.nil
          go_simp
          go_wp2_with ((go_at_call 77; refine (fwh_any _ _ _).mono ?_; rintro e w' ⟨rfl, rfl⟩))
          refine hK.out _ _ hS (fun _ => ?_)
          clear hK K
          refine wpAnyH_ready (rs := [27]) (by kernel_rfl) (by simp) ?_
          refine AllReadyH.cons rfl (fun K hK => ?_) AllReadyH.nil
          go_simp
          go_wp2_with ((go_at_call 124; refine (KX.out _ hS).mono ?_; rintro e w' ⟨rfl, hb'⟩; have hO := hO.more hb'; have hS := hS.on hb'))
          refine hK.out _ _ hS (fun _ => ?_)
          clear hK K
          refine wpAnyH_take (i := 28) (v := ?vCf28) rfl (by kernel_rfl) (by kernel_rfl) (by kernel_rfl) (fun _ _ _ h => h) (Or.inl ⟨by rfl, ?hyCf28⟩) hS ?restCf28
          case hyCf28 =>
            intro w hSw
            first | (go_simp; done) | (go_simp; with_reducible rfl)
          try simp only [Act.put, List.setIfInBounds_toArray, List.set_cons_zero, List.set_cons_succ]
          refine wpAnyH_ready (rs := [29]) (by kernel_rfl) (by simp) ?_
          refine AllReadyH.cons rfl (fun K hK => ?_) AllReadyH.nil
          go_simp
          go_wp2_with ((go_at_call 77; refine (fwh_any _ _ _).mono ?_; rintro e w' ⟨rfl, rfl⟩))
          refine hK.out _ _ hS (fun _ => ?_)
          clear hK K
          refine wpAnyH_ready (rs := [32]) (by kernel_rfl) (by simp) ?_
          refine AllReadyH.cons rfl (fun K hK => ?_) AllReadyH.nil
          go_simp
          go_wp2_with ((go_at_call 125; refine (KM1.out _).mono ?_; rintro e w' ⟨rfl, rfl⟩))
          refine hK.out _ _ hS (fun _ => ?_)
          clear hK K
          refine wpAnyH_take (i := 33) (v := ?vCf33) rfl (by kernel_rfl) (by kernel_rfl) (by kernel_rfl) (fun _ _ _ h => h) (Or.inl ⟨by rfl, ?hyCf33⟩) hS ?restCf33
          case hyCf33 =>
            intro w hSw
            first | (go_simp; done) | (go_simp; with_reducible rfl)
          try simp only [Act.put, List.setIfInBounds_toArray, List.set_cons_zero, List.set_cons_succ]
          refine wpAnyH_take (i := 34) (v := ?vCf34) rfl (by kernel_rfl) (by kernel_rfl) (by kernel_rfl) (fun _ _ _ h => h) (Or.inl ⟨by rfl, ?hyCf34⟩) hS ?restCf34
          case hyCf34 =>
            intro w hSw
            first | (go_simp; done) | (go_simp; with_reducible rfl)
          try simp only [Act.put, List.setIfInBounds_toArray, List.set_cons_zero, List.set_cons_succ]
          cases md with
          | false =>
            refine wpAnyH_take (i := 35) (v := undef) rfl (by kernel_rfl) (by kernel_rfl) (by kernel_rfl) (fun _ _ _ h => h) (Or.inr ⟨by kernel_rfl, rfl⟩) hS ?_
            try simp only [Act.put, List.setIfInBounds_toArray, List.set_cons_zero, List.set_cons_succ]
            refine wpAnyH_take (i := 36) (v := undef) rfl (by kernel_rfl) (by kernel_rfl) (by kernel_rfl) (fun _ _ _ h => h) (Or.inr ⟨by kernel_rfl, rfl⟩) hS ?_
            try simp only [Act.put, List.setIfInBounds_toArray, List.set_cons_zero, List.set_cons_succ]
            refine wpAnyH_take (i := 37) (v := undef) rfl (by kernel_rfl) (by kernel_rfl) (by kernel_rfl) (fun _ _ _ h => h) (Or.inr ⟨by kernel_rfl, rfl⟩) hS ?_
            try simp only [Act.put, List.setIfInBounds_toArray, List.set_cons_zero, List.set_cons_succ]
            refine wpAnyH_take (i := 38) (v := undef) rfl (by kernel_rfl) (by kernel_rfl) (by kernel_rfl) (fun _ _ _ h => h) (Or.inr ⟨by kernel_rfl, rfl⟩) hS ?_
            try simp only [Act.put, List.setIfInBounds_toArray, List.set_cons_zero, List.set_cons_succ]
            refine wpAnyH_take (i := 39) (v := ?vCff39) rfl (by kernel_rfl) (by kernel_rfl) (by kernel_rfl) (fun _ _ _ h => h) (Or.inl ⟨by rfl, ?hyCff39⟩) hS ?restCff39
            case hyCff39 =>
              intro w hSw
              first | (go_simp; done) | (go_simp; with_reducible rfl)
            try simp only [Act.put, List.setIfInBounds_toArray, List.set_cons_zero, List.set_cons_succ]
            refine wpAnyH_ready (rs := [40]) (by kernel_rfl) (by simp) ?_
            refine AllReadyH.cons rfl (fun K hK => ?_) AllReadyH.nil
            go_simp
            go_wp2_with ((go_at_call 77; refine (fwh_any _ _ _).mono ?_; rintro e w' ⟨rfl, rfl⟩))
            refine hK.out _ _ hS (fun _ => ?_)
            clear hK K
            refine wpAnyH_ready (rs := [41]) (by kernel_rfl) (by simp) ?_
            refine AllReadyH.cons rfl (fun K hK => ?_) AllReadyH.nil
            go_simp
            have hNv : v.ownBlock ≠ some w'.heap.size := fun h => Nat.lt_irrefl _ (hO.low h).2
            have hO := hO.alloc (.cells #[.int .i64 (wh (!ke) 5), .int .i64 (wh true 14), .int .i64 (wh (!kn) 15), .int .i64 (wh true 2)] errT)
            have hS := hS.on (bel_alloc _ (.cells #[.int .i64 (wh (!ke) 5), .int .i64 (wh true 14), .int .i64 (wh (!kn) 15), .int .i64 (wh true 2)] errT))
            refine hK.out _ _ hS (fun _ => ?_)
            clear hK K
            refine wpAnyH_ready (rs := [42]) (by kernel_rfl) (by simp) ?_
            refine AllReadyH.cons rfl (fun K hK => ?_) AllReadyH.nil
            go_simp
            go_wp2_with ((go_at_call 76; refine (fadd_any _ v _ _ w'.heap.size 4 4 [wh (!ke) 5, wh true 14, wh (!kn) 15, wh true 2] _ hO rfl (by omega) (errs_new w' _ rfl) hNv HFL.out).mono ?_; rintro e w8 ⟨v8, rfl, hO8, hC8⟩; have hS := hS.trans hC8.but (fun _ _ h => h)))
            refine hK.out _ _ hS (fun _ => ?_)
            clear hK K
            refine wpAnyH_take (i := 43) (v := ?vCff43) rfl (by kernel_rfl) (by kernel_rfl) (by kernel_rfl) (fun _ _ _ h => h) (Or.inl ⟨by rfl, ?hyCff43⟩) hS ?restCff43
            case hyCff43 =>
              intro w hSw
              first | (go_simp; done) | (go_simp; with_reducible rfl)
            try simp only [Act.put, List.setIfInBounds_toArray, List.set_cons_zero, List.set_cons_succ]
            refine wpAnyH_done (by kernel_rfl) ?_ _
            simp only [List.getElem_toArray, List.getElem_cons_succ, List.getElem_cons_zero, List.set_cons_zero, List.set_cons_succ]
            have HEr : Hid (lgEs p.l (lg.take k) x = [wh (!ke) 5, wh true 14, wh (!kn) 15, wh true 2]) := Lib.hid (by rw [HEq.out]; simp [wh])
            have HY : Hid (FOwn w5.heap.size w8 v8 (HF ++ lgsF p.l lg (k + 1)) ∧ SW w5 w8) := Lib.hid ⟨by rw [HTk.out, ← List.append_assoc, HEr.out]; exact hO8, HSW.out _ hS⟩
            clear hO8 hC8 hS hO
            go_wp2
            go_roundg (lg.length - (k + 1))
            case measure => have := HKX.out; omega
            case rel => exact ⟨_, k + 1, rfl, by go_num, by omega, HY⟩
          | true =>
            refine wpAnyH_take (i := 35) (v := ?vCft35) rfl (by kernel_rfl) (by kernel_rfl) (by kernel_rfl) (fun _ _ _ h => h) (Or.inl ⟨by kernel_rfl, ?hyCft35⟩) hS ?restCft35
            case hyCft35 =>
              intro w hSw
              first | (go_simp; done) | (go_simp; with_reducible rfl)
            try simp only [Act.put, List.setIfInBounds_toArray, List.set_cons_zero, List.set_cons_succ]
            refine wpAnyH_take (i := 36) (v := ?vCft36) rfl (by kernel_rfl) (by kernel_rfl) (by kernel_rfl) (fun _ _ _ h => h) (Or.inl ⟨by kernel_rfl, ?hyCft36⟩) hS ?restCft36
            case hyCft36 =>
              intro w hSw
              have k0 := n3 w hSw
              first | (go_simp; done) | (go_simp; with_reducible rfl)
            try simp only [Act.put, List.setIfInBounds_toArray, List.set_cons_zero, List.set_cons_succ]
            refine wpAnyH_ready (rs := [37]) (by kernel_rfl) (by simp) ?_
            refine AllReadyH.cons rfl (fun K hK => ?_) AllReadyH.nil
            go_simp
            go_wp2_with ((go_at_call 125; refine (KM2.out _).mono ?_; rintro e w' ⟨rfl, rfl⟩))
            refine hK.out _ _ hS (fun _ => ?_)
            clear hK K
            refine wpAnyH_take (i := 38) (v := ?vCft38) rfl (by kernel_rfl) (by kernel_rfl) (by kernel_rfl) (fun _ _ _ h => h) (Or.inl ⟨by kernel_rfl, ?hyCft38⟩) hS ?restCft38
            case hyCft38 =>
              intro w hSw
              first | (go_simp; done) | (go_simp; with_reducible rfl)
            try simp only [Act.put, List.setIfInBounds_toArray, List.set_cons_zero, List.set_cons_succ]
            refine wpAnyH_take (i := 39) (v := ?vCft39) rfl (by kernel_rfl) (by kernel_rfl) (by kernel_rfl) (fun _ _ _ h => h) (Or.inl ⟨by rfl, ?hyCft39⟩) hS ?restCft39
            case hyCft39 =>
              intro w hSw
              first | (go_simp; done) | (go_simp; with_reducible rfl)
            try simp only [Act.put, List.setIfInBounds_toArray, List.set_cons_zero, List.set_cons_succ]
            refine wpAnyH_ready (rs := [40]) (by kernel_rfl) (by simp) ?_
            refine AllReadyH.cons rfl (fun K hK => ?_) AllReadyH.nil
            go_simp
            go_wp2_with ((go_at_call 77; refine (fwh_any _ _ _).mono ?_; rintro e w' ⟨rfl, rfl⟩))
            refine hK.out _ _ hS (fun _ => ?_)
            clear hK K
            refine wpAnyH_ready (rs := [41]) (by kernel_rfl) (by simp) ?_
            refine AllReadyH.cons rfl (fun K hK => ?_) AllReadyH.nil
            go_simp
            have hNv : v.ownBlock ≠ some w'.heap.size := fun h => Nat.lt_irrefl _ (hO.low h).2
            have hO := hO.alloc (.cells #[.int .i64 (wh (!ke) 5), .int .i64 (wh true 14), .int .i64 (wh (!kn) 15), .int .i64 (wh (!ma) 2)] errT)
            have hS := hS.on (bel_alloc _ (.cells #[.int .i64 (wh (!ke) 5), .int .i64 (wh true 14), .int .i64 (wh (!kn) 15), .int .i64 (wh (!ma) 2)] errT))
            refine hK.out _ _ hS (fun _ => ?_)
            clear hK K
            refine wpAnyH_ready (rs := [42]) (by kernel_rfl) (by simp) ?_
            refine AllReadyH.cons rfl (fun K hK => ?_) AllReadyH.nil
            go_simp
            go_wp2_with ((go_at_call 76; refine (fadd_any _ v _ _ w'.heap.size 4 4 [wh (!ke) 5, wh true 14, wh (!kn) 15, wh (!ma) 2] _ hO rfl (by omega) (errs_new w' _ rfl) hNv HFL.out).mono ?_; rintro e w8 ⟨v8, rfl, hO8, hC8⟩; have hS := hS.trans hC8.but (fun _ _ h => h)))
            refine hK.out _ _ hS (fun _ => ?_)
            clear hK K
            refine wpAnyH_take (i := 43) (v := ?vCft43) rfl (by kernel_rfl) (by kernel_rfl) (by kernel_rfl) (fun _ _ _ h => h) (Or.inl ⟨by rfl, ?hyCft43⟩) hS ?restCft43
            case hyCft43 =>
              intro w hSw
              first | (go_simp; done) | (go_simp; with_reducible rfl)
            try simp only [Act.put, List.setIfInBounds_toArray, List.set_cons_zero, List.set_cons_succ]
            refine wpAnyH_done (by kernel_rfl) ?_ _
            simp only [List.getElem_toArray, List.getElem_cons_succ, List.getElem_cons_zero, List.set_cons_zero, List.set_cons_succ]
            have HEr : Hid (lgEs p.l (lg.take k) x = [wh (!ke) 5, wh true 14, wh (!kn) 15, wh (!ma) 2]) := Lib.hid (by rw [HEq.out]; simp [wh])
            have HY : Hid (FOwn w5.heap.size w8 v8 (HF ++ lgsF p.l lg (k + 1)) ∧ SW w5 w8) := Lib.hid ⟨by rw [HTk.out, ← List.append_assoc, HEr.out]; exact hO8, HSW.out _ hS⟩
            clear hO8 hC8 hS hO
            go_wp2
            go_roundg (lg.length - (k + 1))
            case measure => have := HKX.out; omega
            case rel => exact ⟨_, k + 1, rfl, by go_num, by omega, HY⟩
        | true =>
          refine wpAnyH_take (i := 15) (v := ?vCt15) rfl (by kernel_rfl) (by kernel_rfl) (by kernel_rfl) (fun _ _ _ h => h) (Or.inl ⟨by kernel_rfl, ?hyCt15⟩) hS ?restCt15
          case hyCt15 =>
            intro w hSw
            have k0 := y0 w hSw; have k1 := y1 w hSw
            first | (go_simp; done) | (go_simp; with_reducible rfl)
          try simp only [Act.put, List.setIfInBounds_toArray, List.set_cons_zero, List.set_cons_succ]
          refine wpAnyH_take (i := 16) (v := ?vCt16) rfl (by kernel_rfl) (by kernel_rfl) (by kernel_rfl) (fun _ _ _ h => h) (Or.inl ⟨by kernel_rfl, ?hyCt16⟩) hS ?restCt16
          case hyCt16 =>
            intro w hSw
            first | (go_simp; done) | (go_simp; with_reducible rfl)
          try simp only [Act.put, List.setIfInBounds_toArray, List.set_cons_zero, List.set_cons_succ]
          refine wpAnyH_take (i := 17) (v := ?vCt17) rfl (by kernel_rfl) (by kernel_rfl) (by kernel_rfl) (fun _ _ _ h => h) (Or.inl ⟨by kernel_rfl, ?hyCt17⟩) hS ?restCt17
          case hyCt17 =>
            intro w hSw
            have k0 := n1 w hSw
            first | (go_simp; done) | (go_simp; with_reducible rfl)
          try simp only [Act.put, List.setIfInBounds_toArray, List.set_cons_zero, List.set_cons_succ]
          refine wpAnyH_ready (rs := [18]) (by kernel_rfl) (by simp) ?_
          refine AllReadyH.cons rfl (fun K hK => ?_) AllReadyH.nil
          go_simp
          go_wp2_with ((go_at_call 123; refine (KF2.out _ hS).mono ?_; rintro e w' ⟨rfl, hb'⟩; have hO := hO.more hb'; have hS := hS.on hb'))
          refine hK.out _ _ hS (fun _ => ?_)
          clear hK K
          refine wpAnyH_take (i := 19) (v := ?vCt19) rfl (by kernel_rfl) (by kernel_rfl) (by kernel_rfl) (fun _ _ _ h => h) (Or.inl ⟨by kernel_rfl, ?hyCt19⟩) hS ?restCt19
          case hyCt19 =>
            intro w hSw
            first | (go_simp; done) | (go_simp; with_reducible rfl)
          try simp only [Act.put, List.setIfInBounds_toArray, List.set_cons_zero, List.set_cons_succ]
          refine wpAnyH_take (i := 20) (v := ?vCt20) rfl (by kernel_rfl) (by kernel_rfl) (by kernel_rfl) (fun _ _ _ h => h) (Or.inl ⟨by rfl, ?hyCt20⟩) hS ?restCt20
          case hyCt20 =>
            intro w hSw
            first | (go_simp; done) | (go_simp; with_reducible rfl)
          try simp only [Act.put, List.setIfInBounds_toArray, List.set_cons_zero, List.set_cons_succ]
          refine wpAnyH_ready (rs := [21]) (by kernel_rfl) (by simp) ?_
          refine AllReadyH.cons rfl (fun K hK => ?_) AllReadyH.nil
          go_simp
          go_wp2_with ((go_at_call 77; refine (fwh_any _ _ _).mono ?_; rintro e w' ⟨rfl, rfl⟩))
          refine hK.out _ _ hS (fun _ => ?_)
          clear hK K
          refine wpAnyH_ready (rs := [27]) (by kernel_rfl) (by simp) ?_
          refine AllReadyH.cons rfl (fun K hK => ?_) AllReadyH.nil
          go_simp
          go_wp2_with ((go_at_call 124; refine (KX.out _ hS).mono ?_; rintro e w' ⟨rfl, hb'⟩; have hO := hO.more hb'; have hS := hS.on hb'))
          refine hK.out _ _ hS (fun _ => ?_)
          clear hK K
          refine wpAnyH_take (i := 28) (v := ?vCt28) rfl (by kernel_rfl) (by kernel_rfl) (by kernel_rfl) (fun _ _ _ h => h) (Or.inl ⟨by rfl, ?hyCt28⟩) hS ?restCt28
          case hyCt28 =>
            intro w hSw
            first | (go_simp; done) | (go_simp; with_reducible rfl)
          try simp only [Act.put, List.setIfInBounds_toArray, List.set_cons_zero, List.set_cons_succ]
          refine wpAnyH_ready (rs := [29]) (by kernel_rfl) (by simp) ?_
          refine AllReadyH.cons rfl (fun K hK => ?_) AllReadyH.nil
          go_simp
          go_wp2_with ((go_at_call 77; refine (fwh_any _ _ _).mono ?_; rintro e w' ⟨rfl, rfl⟩))
          refine hK.out _ _ hS (fun _ => ?_)
          clear hK K
          refine wpAnyH_ready (rs := [32]) (by kernel_rfl) (by simp) ?_
          refine AllReadyH.cons rfl (fun K hK => ?_) AllReadyH.nil
          go_simp
          go_wp2_with ((go_at_call 125; refine (KM1.out _).mono ?_; rintro e w' ⟨rfl, rfl⟩))
          refine hK.out _ _ hS (fun _ => ?_)
          clear hK K
          refine wpAnyH_take (i := 33) (v := ?vCt33) rfl (by kernel_rfl) (by kernel_rfl) (by kernel_rfl) (fun _ _ _ h => h) (Or.inl ⟨by rfl, ?hyCt33⟩) hS ?restCt33
          case hyCt33 =>
            intro w hSw
            first | (go_simp; done) | (go_simp; with_reducible rfl)
          try simp only [Act.put, List.setIfInBounds_toArray, List.set_cons_zero, List.set_cons_succ]
          refine wpAnyH_take (i := 34) (v := ?vCt34) rfl (by kernel_rfl) (by kernel_rfl) (by kernel_rfl) (fun _ _ _ h => h) (Or.inl ⟨by rfl, ?hyCt34⟩) hS ?restCt34
          case hyCt34 =>
            intro w hSw
            first | (go_simp; done) | (go_simp; with_reducible rfl)
          try simp only [Act.put, List.setIfInBounds_toArray, List.set_cons_zero, List.set_cons_succ]
          cases md with
          | false =>
            refine wpAnyH_take (i := 35) (v := undef) rfl (by kernel_rfl) (by kernel_rfl) (by kernel_rfl) (fun _ _ _ h => h) (Or.inr ⟨by kernel_rfl, rfl⟩) hS ?_
            try simp only [Act.put, List.setIfInBounds_toArray, List.set_cons_zero, List.set_cons_succ]
            refine wpAnyH_take (i := 36) (v := undef) rfl (by kernel_rfl) (by kernel_rfl) (by kernel_rfl) (fun _ _ _ h => h) (Or.inr ⟨by kernel_rfl, rfl⟩) hS ?_
            try simp only [Act.put, List.setIfInBounds_toArray, List.set_cons_zero, List.set_cons_succ]
            refine wpAnyH_take (i := 37) (v := undef) rfl (by kernel_rfl) (by kernel_rfl) (by kernel_rfl) (fun _ _ _ h => h) (Or.inr ⟨by kernel_rfl, rfl⟩) hS ?_
            try simp only [Act.put, List.setIfInBounds_toArray, List.set_cons_zero, List.set_cons_succ]
            refine wpAnyH_take (i := 38) (v := undef) rfl (by kernel_rfl) (by kernel_rfl) (by kernel_rfl) (fun _ _ _ h => h) (Or.inr ⟨by kernel_rfl, rfl⟩) hS ?_
            try simp only [Act.put, List.setIfInBounds_toArray, List.set_cons_zero, List.set_cons_succ]
            refine wpAnyH_take (i := 39) (v := ?vCtf39) rfl (by kernel_rfl) (by kernel_rfl) (by kernel_rfl) (fun _ _ _ h => h) (Or.inl ⟨by rfl, ?hyCtf39⟩) hS ?restCtf39
            case hyCtf39 =>
              intro w hSw
              first | (go_simp; done) | (go_simp; with_reducible rfl)
            try simp only [Act.put, List.setIfInBounds_toArray, List.set_cons_zero, List.set_cons_succ]
            refine wpAnyH_ready (rs := [40]) (by kernel_rfl) (by simp) ?_
            refine AllReadyH.cons rfl (fun K hK => ?_) AllReadyH.nil
            go_simp
            go_wp2_with ((go_at_call 77; refine (fwh_any _ _ _).mono ?_; rintro e w' ⟨rfl, rfl⟩))
            refine hK.out _ _ hS (fun _ => ?_)
            clear hK K
            refine wpAnyH_ready (rs := [41]) (by kernel_rfl) (by simp) ?_
            refine AllReadyH.cons rfl (fun K hK => ?_) AllReadyH.nil
            go_simp
            have hNv : v.ownBlock ≠ some w'.heap.size := fun h => Nat.lt_irrefl _ (hO.low h).2
            have hO := hO.alloc (.cells #[.int .i64 (wh (!ke) 5), .int .i64 (wh (!kt) 14), .int .i64 (wh (!kn) 15), .int .i64 (wh true 2)] errT)
            have hS := hS.on (bel_alloc _ (.cells #[.int .i64 (wh (!ke) 5), .int .i64 (wh (!kt) 14), .int .i64 (wh (!kn) 15), .int .i64 (wh true 2)] errT))
            refine hK.out _ _ hS (fun _ => ?_)
            clear hK K
            refine wpAnyH_ready (rs := [42]) (by kernel_rfl) (by simp) ?_
            refine AllReadyH.cons rfl (fun K hK => ?_) AllReadyH.nil
            go_simp
            go_wp2_with ((go_at_call 76; refine (fadd_any _ v _ _ w'.heap.size 4 4 [wh (!ke) 5, wh (!kt) 14, wh (!kn) 15, wh true 2] _ hO rfl (by omega) (errs_new w' _ rfl) hNv HFL.out).mono ?_; rintro e w8 ⟨v8, rfl, hO8, hC8⟩; have hS := hS.trans hC8.but (fun _ _ h => h)))
            refine hK.out _ _ hS (fun _ => ?_)
            clear hK K
            refine wpAnyH_take (i := 43) (v := ?vCtf43) rfl (by kernel_rfl) (by kernel_rfl) (by kernel_rfl) (fun _ _ _ h => h) (Or.inl ⟨by rfl, ?hyCtf43⟩) hS ?restCtf43
            case hyCtf43 =>
              intro w hSw
              first | (go_simp; done) | (go_simp; with_reducible rfl)
            try simp only [Act.put, List.setIfInBounds_toArray, List.set_cons_zero, List.set_cons_succ]
            refine wpAnyH_done (by kernel_rfl) ?_ _
            simp only [List.getElem_toArray, List.getElem_cons_succ, List.getElem_cons_zero, List.set_cons_zero, List.set_cons_succ]
            have HEr : Hid (lgEs p.l (lg.take k) x = [wh (!ke) 5, wh (!kt) 14, wh (!kn) 15, wh true 2]) := Lib.hid (by rw [HEq.out]; simp [wh])
            have HY : Hid (FOwn w5.heap.size w8 v8 (HF ++ lgsF p.l lg (k + 1)) ∧ SW w5 w8) := Lib.hid ⟨by rw [HTk.out, ← List.append_assoc, HEr.out]; exact hO8, HSW.out _ hS⟩
            clear hO8 hC8 hS hO
            go_wp2
            go_roundg (lg.length - (k + 1))
            case measure => have := HKX.out; omega
            case rel => exact ⟨_, k + 1, rfl, by go_num, by omega, HY⟩
          | true =>
            refine wpAnyH_take (i := 35) (v := ?vCtt35) rfl (by kernel_rfl) (by kernel_rfl) (by kernel_rfl) (fun _ _ _ h => h) (Or.inl ⟨by kernel_rfl, ?hyCtt35⟩) hS ?restCtt35
            case hyCtt35 =>
              intro w hSw
              first | (go_simp; done) | (go_simp; with_reducible rfl)
            try simp only [Act.put, List.setIfInBounds_toArray, List.set_cons_zero, List.set_cons_succ]
            refine wpAnyH_take (i := 36) (v := ?vCtt36) rfl (by kernel_rfl) (by kernel_rfl) (by kernel_rfl) (fun _ _ _ h => h) (Or.inl ⟨by kernel_rfl, ?hyCtt36⟩) hS ?restCtt36
            case hyCtt36 =>
              intro w hSw
              have k0 := n3 w hSw
              first | (go_simp; done) | (go_simp; with_reducible rfl)
            try simp only [Act.put, List.setIfInBounds_toArray, List.set_cons_zero, List.set_cons_succ]
            refine wpAnyH_ready (rs := [37]) (by kernel_rfl) (by simp) ?_
            refine AllReadyH.cons rfl (fun K hK => ?_) AllReadyH.nil
            go_simp
            go_wp2_with ((go_at_call 125; refine (KM2.out _).mono ?_; rintro e w' ⟨rfl, rfl⟩))
            refine hK.out _ _ hS (fun _ => ?_)
            clear hK K
            refine wpAnyH_take (i := 38) (v := ?vCtt38) rfl (by kernel_rfl) (by kernel_rfl) (by kernel_rfl) (fun _ _ _ h => h) (Or.inl ⟨by kernel_rfl, ?hyCtt38⟩) hS ?restCtt38
            case hyCtt38 =>
              intro w hSw
              first | (go_simp; done) | (go_simp; with_reducible rfl)
            try simp only [Act.put, List.setIfInBounds_toArray, List.set_cons_zero, List.set_cons_succ]
            refine wpAnyH_take (i := 39) (v := ?vCtt39) rfl (by kernel_rfl) (by kernel_rfl) (by kernel_rfl) (fun _ _ _ h => h) (Or.inl ⟨by rfl, ?hyCtt39⟩) hS ?restCtt39
            case hyCtt39 =>
              intro w hSw
              first | (go_simp; done) | (go_simp; with_reducible rfl)
            try simp only [Act.put, List.setIfInBounds_toArray, List.set_cons_zero, List.set_cons_succ]
            refine wpAnyH_ready (rs := [40]) (by kernel_rfl) (by simp) ?_
            refine AllReadyH.cons rfl (fun K hK => ?_) AllReadyH.nil
            go_simp
            go_wp2_with ((go_at_call 77; refine (fwh_any _ _ _).mono ?_; rintro e w' ⟨rfl, rfl⟩))
            refine hK.out _ _ hS (fun _ => ?_)
            clear hK K
            refine wpAnyH_ready (rs := [41]) (by kernel_rfl) (by simp) ?_
            refine AllReadyH.cons rfl (fun K hK => ?_) AllReadyH.nil
            go_simp
            have hNv : v.ownBlock ≠ some w'.heap.size := fun h => Nat.lt_irrefl _ (hO.low h).2
            have hO := hO.alloc (.cells #[.int .i64 (wh (!ke) 5), .int .i64 (wh (!kt) 14), .int .i64 (wh (!kn) 15), .int .i64 (wh (!ma) 2)] errT)
            have hS := hS.on (bel_alloc _ (.cells #[.int .i64 (wh (!ke) 5), .int .i64 (wh (!kt) 14), .int .i64 (wh (!kn) 15), .int .i64 (wh (!ma) 2)] errT))
            refine hK.out _ _ hS (fun _ => ?_)
            clear hK K
            refine wpAnyH_ready (rs := [42]) (by kernel_rfl) (by simp) ?_
            refine AllReadyH.cons rfl (fun K hK => ?_) AllReadyH.nil
            go_simp
            go_wp2_with ((go_at_call 76; refine (fadd_any _ v _ _ w'.heap.size 4 4 [wh (!ke) 5, wh (!kt) 14, wh (!kn) 15, wh (!ma) 2] _ hO rfl (by omega) (errs_new w' _ rfl) hNv HFL.out).mono ?_; rintro e w8 ⟨v8, rfl, hO8, hC8⟩; have hS := hS.trans hC8.but (fun _ _ h => h)))
            refine hK.out _ _ hS (fun _ => ?_)
            clear hK K
            refine wpAnyH_take (i := 43) (v := ?vCtt43) rfl (by kernel_rfl) (by kernel_rfl) (by kernel_rfl) (fun _ _ _ h => h) (Or.inl ⟨by rfl, ?hyCtt43⟩) hS ?restCtt43
            case hyCtt43 =>
              intro w hSw
              first | (go_simp; done) | (go_simp; with_reducible rfl)
            try simp only [Act.put, List.setIfInBounds_toArray, List.set_cons_zero, List.set_cons_succ]
            refine wpAnyH_done (by kernel_rfl) ?_ _
            simp only [List.getElem_toArray, List.getElem_cons_succ, List.getElem_cons_zero, List.set_cons_zero, List.set_cons_succ]
            have HEr : Hid (lgEs p.l (lg.take k) x = [wh (!ke) 5, wh (!kt) 14, wh (!kn) 15, wh (!ma) 2]) := Lib.hid (by rw [HEq.out]; simp [wh])
            have HY : Hid (FOwn w5.heap.size w8 v8 (HF ++ lgsF p.l lg (k + 1)) ∧ SW w5 w8) := Lib.hid ⟨by rw [HTk.out, ← List.append_assoc, HEr.out]; exact hO8, HSW.out _ hS⟩
            clear hO8 hC8 hS hO
            go_wp2
            go_roundg (lg.length - (k + 1))
            case measure => have := HKX.out; omega
            case rel => exact ⟨_, k + 1, rfl, by go_num, by omega, HY⟩
      · have hk : k = lg.length := by omega
        have hO := HH.out.1
        have hSr : SW w5 wr := HH.out.2
        rw [hk] at hO
        clear HH hkx
        obtain ⟨A', c', rfl, hvc⟩ := id (hO.rowL rtF.len)
        have HO2 := Lib.hid hO
        have hSw : Below w.heap.size w wr := hb0.trans (Below.mono hSr hb0.size)
        have z0 := F.out.1 _ hSr
        have z1 := F.out.2.1 _ hSr
        have z2 := F.out.2.2.1 _ hSr
        have z3 := F.out.2.2.2.1 _ hSr
        have z4 := F.out.2.2.2.2 _ hSr
        have z5 := F5.out _ hSr
        have y0 := Y0.out _ hSr
        have y1 := Y1.out _ hSr
        have HK := Lib.hid hk
        have HKL : Hid ((k : Int) = (lg.length : Int)) := Lib.hid (by rw [hk])
        have i1 : ¬ (k : Int) < (lg.length : Int) := by omega
        clear hvc hO hk
        by_cases h0 : (HF ++ lgsF p.l lg lg.length).length = 0
        · have i2 : ¬ (0 : Int) < ((HF ++ lgsF p.l lg lg.length).length : Int) := by omega
          have KC2 := Lib.hid (KT2.out h0 wr hSw)
          have HR2 : Hid (CF = TF) := Lib.hid (by rw [HR.out, if_pos h0])
          clear h0 HO2 HR
          generalize (HF ++ lgsF p.l lg lg.length).length = nn at *
          go_wp2_with (go_at_call 126; refine KC2.out.mono ?_; rintro e w9 ⟨v9, rfl, hO9, hb9⟩)
          go_ret
          exact ⟨v9, rfl, by rw [HR2.out]; exact ⟨hO9.own.mono hSw.size, Nat.le_trans hSw.size hO9.base⟩, hSw.trans (hb9.mono hSw.size)⟩
        · have i2 : (0 : Int) < ((HF ++ lgsF p.l lg lg.length).length : Int) := by omega
          have HR2 : Hid (CF = HF ++ lgsF p.l lg lg.length) := Lib.hid (by rw [HR.out, if_neg h0])
          have HZ : Hid (FOwn w.heap.size wr (.slice A' (HF ++ lgsF p.l lg lg.length).length c') CF ∧ Below w.heap.size w wr) := Lib.hid ⟨by rw [HR2.out]; exact ⟨HO2.out.own.mono hb0.size, Nat.le_trans hb0.size HO2.out.base⟩, hSw⟩
          clear h0 HO2 HR HR2
          generalize (HF ++ lgsF p.l lg lg.length).length = nn at *
          go_wp2
          go_ret
          exact ⟨_, rfl, HZ.out⟩

end Go.Proofs.YtldillnjnjkkgaaGreatDoor

/- Plain words on timetables: what is taken, violations, days that differ. -/
namespace Go.Proofs.YtldillnjnjkkgaaGreatDoor
open Go.RowKit Go.Shelf
set_option linter.unusedSimpArgs false
set_option linter.unusedVariables false

/-- whether one of the flights is operated under a name on a day -/
def tkn (L : List FV) (c : ByteArray × Int) (day : Int) : Bool := L.any fun f => (decide (f.car = c.1) && decide (f.num = c.2)) && Per.hasQ (f.pf, f.pt, f.pd) day
/-- whether a flight is operated on a day on which one of the flights is under the same name -/
def twcB (L : List FV) (f : FV) : Bool := (Per.daysQ (f.pf, f.pt, f.pd)).any (tkn L (f.car, f.num))
/-- whether two flights have a name and a day in common -/
def mtsB (a b : FV) : Bool := ((a.car.toList == b.car.toList) && (a.num == b.num)) && (Per.ofQ (Per.mtQ (a.pf, a.pt, a.pd) (b.pf, b.pt, b.pd))).2
theorem tkn_snoc (L : List FV) (f : FV) (c : ByteArray × Int) (day : Int) : tkn (L ++ [f]) c day = (tkn L c day || ((decide (f.car = c.1) && decide (f.num = c.2)) && Per.hasQ (f.pf, f.pt, f.pd) day)) := by
  simp [tkn]
theorem car_eq (a b : ByteArray) : (a.toList == b.toList) = decide (a = b) := by
  by_cases h : a = b
  · subst h; simp
  · have h2 : a.toList ≠ b.toList := toList_ne h
    simp [h, h2]
theorem twc_iff (L : List FV) (f : FV) : twcB L f = L.any fun g => mtsB g f := by
  rw [Bool.eq_iff_iff]
  unfold twcB tkn mtsB
  simp only [List.any_eq_true, car_eq, Bool.and_eq_true, decide_eq_true_eq, Per.daysQ_mem, Per.ofQ, beq_iff_eq]
  constructor
  · rintro ⟨d, hd, g, hg, ⟨h1, h2⟩, h3⟩
    refine ⟨g, hg, ⟨h1, h2⟩, ?_⟩
    intro e
    have := (Per.mtQ_mem _ _ d).2 ⟨h3, hd⟩
    rw [e] at this
    cases this
  · rintro ⟨g, hg, ⟨h1, h2⟩, h3⟩
    obtain ⟨d, hd⟩ := List.exists_mem_of_ne_nil _ h3
    have h4 := (Per.mtQ_mem _ _ d).1 hd
    exact ⟨d, h4.2, g, hg, ⟨h1, h2⟩, h4.1⟩

def fliW : ByteArray := ⟨#[102, 108, 105, 103, 104, 116, 32]⟩
def spW : ByteArray := ⟨#[32]⟩
/-- violations of a flight, told with where it stands -/
def preF (at_ : ByteArray) (l : List Flt) : List Flt := l.map fun x => (x.1, (at_ ++ spW) ++ x.2)
/-- the violations of the first k flights -/
def schF (l : List Air) (fs : List FV) (k : Nat) : List Flt := (List.range k).flatMap fun i => match fs[i]? with
  | some f => preF (fliW ++ decA i) (chF l f) ++ pick (fliW ++ decA i) [wh (twcB (fs.take i) f) 6]
  | none => []
theorem schF_zero (l : List Air) (fs : List FV) : schF l fs 0 = [] := rfl
theorem schF_succ (l : List Air) (fs : List FV) (k : Nat) (f : FV) (h : fs[k]? = some f) : schF l fs (k + 1) = schF l fs k ++ (preF (fliW ++ decA k) (chF l f) ++ pick (fliW ++ decA k) [wh (twcB (fs.take k) f) 6]) := by
  simp [schF, List.range_succ, h]
/-- the days of D on which two lists operate a flight in different ways -/
def difB (a b : List FV) (car : ByteArray) (num day : Int) : Bool :=
  ((onF a car num day).isSome != (onF b car num day).isSome) || !(sameL ((onF a car num day).getD fliZ).lg ((onF b car num day).getD fliZ).lg)
def difL (a b : List FV) (car : ByteArray) (num : Int) (D : List Int) : List Int := D.filter (difB a b car num)
theorem IntL.at1 {w : World} {A : Option Addr} {c : Nat} {l : List Int} (h : Per.IntL w (.slice A l.length c) l) {k : Nat} (hk : k < l.length) : ∃ b o, A = some ⟨b, o, none⟩ ∧ b < w.heap.size ∧ ∀ i (h : i < l.length), w.cell? ⟨b, o + i, none⟩ = some (.int .i64 l[i]) := by
  obtain ⟨A', c', e, h⟩ := h
  cases e
  rcases h with h | h
  · rw [h] at hk; simp at hk
  · exact h

end Go.Proofs.YtldillnjnjkkgaaGreatDoor

/- Walk of checkDistances, whatever there is to report. -/
namespace Go.Proofs.YtldillnjnjkkgaaGreatDoor
open Go.RowKit Go.Shelf Go.Maps
set_option linter.unusedSimpArgs false
set_option linter.unusedVariables false

theorem laidOutP : laidOutB Tryz.prog = true := by kernel_rfl
end Go.Proofs.YtldillnjnjkkgaaGreatDoor
