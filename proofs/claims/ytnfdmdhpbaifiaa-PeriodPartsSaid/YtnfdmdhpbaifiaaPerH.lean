/- Walks of the reference's canonical periods: of, Normal, Meet. -/
import Derived.Test.YtnfdmdhpbaifiaaPerG
namespace Go.Proofs.Ytnfdmdhpbaifiaa
open Go.RowKit
set_option linter.unusedSimpArgs false
set_option linter.unusedVariables false

theorem IntL.cells {w : World} {A : Option Addr} {n c : Nat} {l : List Int} (h : IntL w (.slice A n c) l) (hp : 0 < l.length) :
    ∃ b o, A = some ⟨b, o, none⟩ ∧ n = l.length ∧ b < w.heap.size ∧ ∀ i (h : i < l.length), w.cell? ⟨b, o + i, none⟩ = some (.int .i64 l[i]) := by
  obtain ⟨A', c', e, h⟩ := h
  cases e
  rcases h with h | ⟨b, o, h1, h2, h3⟩
  · rw [h] at hp; simp at hp
  · exact ⟨b, o, h1, rfl, h2, h3⟩
theorem headD_at (l : List Int) (h : 0 < l.length) : l.headD 0 = l[0] := by cases l with
  | nil => simp at h
  | cons x r => rfl
theorem lastD_at (l : List Int) (h : 0 < l.length) : l.getLastD 0 = l[l.length - 1] := by
  rw [List.getLastD_eq_getLast?, List.getLast?_eq_getElem?, List.getElem?_eq_getElem (by omega)]; rfl
theorem maskN_take (l : List Int) (k : Nat) (h : k < l.length) : maskN (l.take (k + 1)) = (maskN (l.take k) ||| 2 ^ wkN l[k]) := by
  rw [List.take_succ_eq_append_getElem h, maskN_snoc]
theorem quo_zero (m k : Nat) (hm : m < 128) (hk : k < 7) : ((m : Int) / ((2 ^ k : Nat) : Int) % 2 == 0) = decide (m / 2 ^ k % 2 = 0) := by
  have e : ((m : Int) / ((2 ^ k : Nat) : Int)) = ((m / 2 ^ k : Nat) : Int) := by simp
  rw [e]
  generalize m / 2 ^ k = z
  by_cases h : z % 2 = 0
  · have h2 : ((z : Int) % 2) = 0 := by omega
    rw [h2]; simp [h]
  · have h2 : ((z : Int) % 2) = 1 := by omega
    rw [h2]; simp [h]

set_option maxRecDepth 100000 in
set_option maxHeartbeats 4000000 in
theorem rof_any (v : Value) (l : List Int) (w : World) (hv : IntL w v l) (hn : l.length ≤ 1000) (hr : ∀ n ∈ l, 0 ≤ n ∧ n < 36525) :
    Calls Try.prog 31 #[v] w fun e w' => e = .returned (.tuple #[encQ (ofQ l).1, .bool (ofQ l).2]) ∧ Below w.heap.size w w' := by
  obtain ⟨A, c, rfl, hc⟩ := hv
  by_cases h0 : l.length = 0
  · have e0 : l = [] := List.eq_nil_of_length_eq_zero h0
    have HR : Hid (ofQ l = ((0, 0, 0), false)) := Lib.hid (by rw [e0]; rfl)
    have i0 : (l.length : Int) = 0 := by omega
    have i1 : ((l.length : Int) == 0) = true := by simp [h0]
    clear hc h0 e0
    go_enter Try.func31, Try.ntmps31
    go_wp2
    refine bodyPost_ret (v := .tuple #[encQ (0, 0, 0), .bool false]) ?_ rfl ⟨by rw [HR.out], ?_⟩
    · simp [results, Try.results31, go_sem]
    · exact bel_alloc _ _
  · have hp : 0 < l.length := by omega
    obtain ⟨b, o, rfl, hb, hcc⟩ : ∃ b o, A = some ⟨b, o, none⟩ ∧ b < w.heap.size ∧ ∀ i (h : i < l.length), w.cell? ⟨b, o + i, none⟩ = some (.int .i64 l[i]) := by
      rcases hc with h | h
      · rw [h] at hp; simp at hp
      · exact h
    have i1 : ((l.length : Int) == 0) = false := by rw [beq_eq_false_iff_ne]; omega
    have g0 := hcc 0 hp
    have g1 := hcc (l.length - 1) (by omega)
    have HX : Hid (ofQ l = ((l[0], l[l.length - 1], (maskN l : Int)), true)) := Lib.hid (by
      rw [ofQ, accQ, headD_at l hp, lastD_at l hp]
      have : l ≠ [] := by rintro rfl; simp at hp
      simp [this])
    rw [Nat.add_zero] at g0
    have i2 : ((l.length : Int) - 1).toNat = l.length - 1 := by omega
    have i3 : (l.length : Int) - 1 < (l.length : Int) := by omega
    have i4 : (0 : Int) ≤ (l.length : Int) - 1 := by omega
    have i5 : (0 : Int) < (l.length : Int) := by omega
    have hC := Lib.hid hcc
    clear hcc hc
    generalize l[0] = x at *
    generalize l[l.length - 1] = y at *
    go_enter Try.func31, Try.ntmps31
    go_wp2
    go_region
    have bn : BoxAt ((w.alloc (.cells #[.int .i64 0, .int .i64 0, .int .i64 0] 23)).alloc (.cells #[.int .i64 x, .int .i64 y, .int .i64 0] 23)).drew (w.heap.size + 1) (x, y, 0) := by
      have h := heap_alloc_new (w.alloc (.cells #[.int .i64 0, .int .i64 0, .int .i64 0] 23)) (.cells #[.int .i64 x, .int .i64 y, .int .i64 0] 23)
      rw [World.size_alloc] at h
      exact BoxAt.drew' (show BoxAt _ _ (x, y, 0) from h)
    have br : BoxAt ((w.alloc (.cells #[.int .i64 0, .int .i64 0, .int .i64 0] 23)).alloc (.cells #[.int .i64 x, .int .i64 y, .int .i64 0] 23)).drew w.heap.size (0, 0, 0) :=
      (BoxAt.more (show BoxAt _ _ (0, 0, 0) from heap_alloc_new w _) (bel_alloc _ _)).drew'
    have hb1 : Below w.heap.size w ((w.alloc (.cells #[.int .i64 0, .int .i64 0, .int .i64 0] 23)).alloc (.cells #[.int .i64 x, .int .i64 y, .int .i64 0] 23)).drew := ((bel_alloc w _).alloc (by simp) _).drew
    generalize ((w.alloc (.cells #[.int .i64 0, .int .i64 0, .int .i64 0] 23)).alloc (.cells #[.int .i64 x, .int .i64 y, .int .i64 0] 23)).drew = W1 at *
    clear g0 g1 i1 i2 i3 i4
    go_wp2
    go_loopw [5] (fun vi wr => ∃ k : Nat, k ≤ l.length ∧ vi = .int .i64 k ∧ BoxAt wr (w.heap.size + 1) (x, y, (maskN (l.take k) : Nat)) ∧ BoxAt wr w.heap.size (0, 0, 0) ∧ Below w.heap.size w wr) (fun vi _ => l.length - (intOf vi).toNat)
    case atStart => exact ⟨0, Nat.zero_le _, rfl, bn, br, hb1⟩
    case round =>
      clear bn br hb1
      obtain ⟨k, hk, rfl, hN, hR, hB⟩ := hrel
      by_cases hlt : k < l.length
      · have g0 : wr.cell? ⟨b, o + k, none⟩ = some (.int .i64 l[k]) := (hB.cell (p := ⟨b, o + k, none⟩) hb).trans (hC.out k hlt)
        have i1 : (k : Int) < (l.length : Int) := by omega
        have HT := Lib.hid (maskN_take l k hlt)
        have hx := hr l[k] (List.getElem_mem hlt)
        generalize l[k] = n at *
        have hkk := wkN_lt n
        have hm := maskN_lt (l.take k)
        have hp2 := pow_step (wkN n) hkk
        have HQ := Lib.hid (quo_zero (maskN (l.take k)) (wkN n) hm hkk)
        have HO := Lib.hid (or_add (maskN (l.take k)) hm (wkN n) hkk)
        have CB : Hid (∀ w, Calls Try.prog 28 #[.int .i64 n] w fun e w' => e = .returned (.int .i64 ((2 ^ wkN n : Nat) : Int)) ∧ w' = w) := Lib.hid (fun w => (bit_any n w (by omega) (by omega)).mono (by rintro e w' ⟨rfl, rfl⟩; exact ⟨rfl, rfl⟩))
        generalize maskN (l.take k) = m at *
        obtain ⟨c0, c1, c2⟩ := hN.cell
        have f2 := hN.frozen 2
        by_cases hz : m / 2 ^ wkN n % 2 = 0
        · have t1 := HQ.out
          rw [decide_eq_true hz] at t1
          rw [if_pos hz] at HO
          have HM : Hid ((m : Int) + ((2 ^ wkN n : Nat) : Int) = ((m ||| 2 ^ wkN n : Nat) : Int)) := Lib.hid (by rw [HO.out]; omega)
          clear hz HQ HO
          generalize ((2 ^ wkN n : Nat) : Int) = z at *
          have z0 : ¬ z = 0 := by omega
          have z1 : ¬ z = -1 := by omega
          have z2 : 0 ≤ (m : Int) / z := Int.ediv_nonneg (by omega) (by omega)
          have z3 : (m : Int) / z ≤ 127 := by have := Int.ediv_le_self z (show (0 : Int) ≤ m by omega); omega
          go_wp2
          go_quiet ((go_at_call 28; exact Calls.quiet_of_same (CB.out _)))
          go_wp2
          have hws : IntKind.i64.wrap ((m : Int) + z) = (m : Int) + z := by rw [IntKind.wrap_i64]; omega
          go_region_with ((go_at_call 28; refine (CB.out _).mono ?_; rintro e w2 ⟨rfl, rfl⟩))
          all_goals
            go_wp2
            go_roundw
            case rel =>
              refine ⟨k + 1, by omega, by go_num, ?_, (hR.more (bel_self _ _)).set (by simp) 2 _, (hB.trans ((bel_self _ _).mono hB.size)).setCell (p := ⟨w.heap.size + 1, 2, none⟩) (by simp) _⟩
              rw [HT.out, ← HM.out]
              exact (hN.more (bel_self _ _)).set2 _
            case measure => simp [intOf]; omega
        · have t1 := HQ.out
          rw [decide_eq_false hz] at t1
          rw [if_neg hz] at HO
          rw [HO.out] at HT
          clear hz HQ HO
          generalize ((2 ^ wkN n : Nat) : Int) = z at *
          have z0 : ¬ z = 0 := by omega
          have z1 : ¬ z = -1 := by omega
          have z2 : 0 ≤ (m : Int) / z := Int.ediv_nonneg (by omega) (by omega)
          have z3 : (m : Int) / z ≤ 127 := by have := Int.ediv_le_self z (show (0 : Int) ≤ m by omega); omega
          go_wp2
          go_quiet ((go_at_call 28; exact Calls.quiet_of_same (CB.out _)))
          go_wp2
          go_roundw
          case rel => exact ⟨k + 1, by omega, by go_num, by rw [HT.out]; exact hN.more (bel_self _ _), hR.more (bel_self _ _), hB.trans ((bel_self _ _).mono hB.size)⟩
          case measure => simp [intOf]; omega
      · have HT : Hid (maskN (l.take k) = maskN l) := Lib.hid (by rw [List.take_of_length_le (by omega)])
        rw [HT.out] at hN
        obtain ⟨c0, c1, c2⟩ := hN.cell
        have hR2 := ((hR.set0 x).set1 y).set2 ((maskN l : Nat) : Int)
        obtain ⟨d0, d1, d2⟩ := hR2.cell
        obtain ⟨e0, e1, e2⟩ := hR.cell
        have f0 := hR.frozen 0
        have f1 := hR.frozen 1
        have f2 := hR.frozen 2
        go_wp2
        refine bodyPost_ret (v := .tuple #[encQ (x, y, ((maskN l : Nat) : Int)), .bool true]) ?_ rfl ⟨by rw [HX.out], ?_⟩
        · simp [results, Try.results31, go_sem, d0, d1, d2]
        · exact ((hB.setCell (p := ⟨w.heap.size, 0, none⟩) (Nat.le_refl _) _).setCell (p := ⟨w.heap.size, 1, none⟩) (Nat.le_refl _) _).setCell (p := ⟨w.heap.size, 2, none⟩) (Nat.le_refl _) _

/-- the box of the second block laid -/
theorem box_second (w : World) (o : Obj) (p : Per) : BoxAt ((w.alloc o).alloc (.cells #[.int .i64 p.1, .int .i64 p.2.1, .int .i64 p.2.2] perT)) (w.heap.size + 1) p := by
  have h := heap_alloc_new (w.alloc o) (.cells #[.int .i64 p.1, .int .i64 p.2.1, .int .i64 p.2.2] perT)
  rw [World.size_alloc] at h
  exact h
/-- a result in a box of its own: what lies behind its three stores -/
theorem BoxAt.result {w W : World} {B : Nat} {p : Per} (h : BoxAt W B p) (q : Per) (hB : w.heap.size ≤ B) (hb : Below w.heap.size w W) :
    let W' := ((W.setCell ⟨B, 0, none⟩ (.int .i64 q.1)).setCell ⟨B, 1, none⟩ (.int .i64 q.2.1)).setCell ⟨B, 2, none⟩ (.int .i64 q.2.2)
    BoxAt W' B q ∧ Below w.heap.size w W' :=
  ⟨((h.set0 q.1).set1 q.2.1).set2 q.2.2, ((hb.setCell (p := ⟨B, 0, none⟩) hB _).setCell (p := ⟨B, 1, none⟩) hB _).setCell (p := ⟨B, 2, none⟩) hB _⟩
set_option maxHeartbeats 1000000 in
theorem rnormal_any (f t d : Int) (w : World) (hf : -9223372036854775808 ≤ f) (hf2 : f ≤ 9223372036854775807) : Calls Try.prog 19 #[encQ (f, t, d)] w fun e W' => e = .returned (.tuple #[encQ (ofQ (daysQ (f, t, d))).1, .bool (ofQ (daysQ (f, t, d))).2]) ∧ Below w.heap.size w W' := by
  have CD := Lib.hid (fun W => rdays_any f t d W hf hf2)
  have hl := daysQ_len (f, t, d)
  have hr := daysQ_range (f, t, d)
  generalize daysQ (f, t, d) = l at *
  have CO := Lib.hid (fun v W hv => rof_any v l W hv (by omega) hr)
  generalize (ofQ l).1 = q at *
  generalize (ofQ l).2 = z at *
  have hR := box_second w (.cells #[.int .i64 f, .int .i64 t, .int .i64 d] perT) (0, 0, 0)
  go_enter Try.func19, Try.ntmps19
  go_wp2_with (first | (go_at_call 14; refine (CD.out _).mono ?_; rintro e w1 ⟨v, rfl, hL, hb⟩) | (go_at_call 31; refine (CO.out _ _ hL).mono ?_; rintro e w2 ⟨rfl, hb2⟩; have hR2 := (hR.more hb).more hb2; have c0 := hR2.cell.1; have c1 := hR2.cell.2.1; have c2 := hR2.cell.2.2; have f0 := hR2.frozen 0; have f1 := hR2.frozen 1; have f2 := hR2.frozen 2))
  have hB2 : Below w.heap.size w w2 := (((bel_alloc w _).alloc (by simp) _).trans (hb.mono (by simp; omega))).trans (hb2.mono (Nat.le_trans (by simp; omega) hb.size))
  obtain ⟨h1, h2⟩ := hR2.result q (by omega) hB2
  obtain ⟨d0, d1, d2⟩ := h1.cell
  refine bodyPost_ret (v := .tuple #[encQ q, .bool z]) ?_ rfl ⟨rfl, h2⟩
  simp [results, Try.results19, go_sem, d0, d1, d2]

end Go.Proofs.Ytnfdmdhpbaifiaa
