/- Walks of the difference of periods: the reference's parts. -/
import Derived.Test.YtnfdmdhpbaifiaaPerI
namespace Go.Proofs.Ytnfdmdhpbaifiaa
open Go.RowKit
set_option linter.unusedSimpArgs false
set_option linter.unusedVariables false

theorem partQ_short (l : List Int) (x y : Int) (b : Per) : (partQ l x y b).length ≤ l.length := List.length_filter_le _ _
set_option maxRecDepth 100000 in
set_option maxHeartbeats 4000000 in
theorem part_any (v : Value) (l : List Int) (x y : Int) (b : Per) (w : World) (hv : IntL w v l) (hl : l.length ≤ 1000) (hr : ∀ n ∈ l, 0 ≤ n ∧ n < 36525) :
    Calls Try.prog 34 #[v, .int .i64 x, .int .i64 y, encQ b] w fun e w' => ∃ u, e = .returned u ∧ IntL w' u (partQ l x y b) ∧ Below w.heap.size w w' := by
  have hv0 := hv.more (bel_alloc w (.cells #[.int .i64 b.1, .int .i64 b.2.1, .int .i64 b.2.2] perT))
  have hsz : (w.alloc (.cells #[.int .i64 b.1, .int .i64 b.2.1, .int .i64 b.2.2] perT)).heap.size = w.heap.size + 1 := by simp
  have hB0 : BoxAt (w.alloc (.cells #[.int .i64 b.1, .int .i64 b.2.1, .int .i64 b.2.2] perT)) w.heap.size b := heap_alloc_new w _
  have hs0 := bel_alloc w (.cells #[.int .i64 b.1, .int .i64 b.2.1, .int .i64 b.2.2] perT)
  obtain ⟨A, c, rfl, hc0⟩ := hv
  obtain ⟨A', c', e, hc⟩ := hv0
  cases e
  clear hc0
  go_enter Try.func34, Try.ntmps34
  go_wp2
  generalize w.alloc (.cells #[.int .i64 b.1, .int .i64 b.2.1, .int .i64 b.2.2] perT) = w1 at *
  go_loopw [9, 10] (fun vo vi wr => ∃ k : Nat, k ≤ l.length ∧ vi = .int .i64 k ∧ IOwn 3 w1.heap.size wr vo (partQ (l.take k) x y b) ∧ Below w1.heap.size w1 wr) (fun _ vi _ => l.length - (intOf vi).toNat)
  case atStart => exact ⟨0, Nat.zero_le _, rfl, IOwn.nil (Nat.le_refl _), Below.refl _ _⟩
  case round =>
    obtain ⟨k, hk, rfl, hO, hb⟩ := hrel
    by_cases hlt : k < l.length
    · obtain ⟨g, o, rfl, hgl, hcc⟩ : ∃ b o, A = some ⟨b, o, none⟩ ∧ b < w1.heap.size ∧ ∀ i (h : i < l.length), w1.cell? ⟨b, o + i, none⟩ = some (.int .i64 l[i]) := by
        rcases hc with h | h
        · rw [h] at hlt; simp at hlt
        · exact h
      have g0 := hcc k hlt
      have i1 : (k : Int) < (l.length : Int) := by omega
      have HF := Lib.hid (filter_take l (fun n => decide (x ≤ n) && (decide (n ≤ y) && !hasQ b n)) k hlt)
      have hsh := filter_short l (fun n => decide (x ≤ n) && (decide (n ≤ y) && !hasQ b n)) k
      have hx := hr l[k] (List.getElem_mem hlt)
      clear hcc hc
      generalize l[k] = n at *
      have hBr := hB0.more hb
      have g1 : wr.cell? ⟨g, o + k, none⟩ = some (.int .i64 n) := (hb.cell (p := ⟨g, o + k, none⟩) hgl).trans g0
      have hgl2 : g < wr.heap.size := Nat.lt_of_lt_of_le hgl hb.size
      have hS0 : Below wr.heap.size wr wr.drew := (Below.refl _ _).drew
      have CH := Lib.hid (fun (x : World) (hx2 : Below wr.heap.size wr x) => bel_acc (w := wr) (rhas_any b.1 b.2.1 b.2.2 n x (by omega) (by omega)) hx2)
      have k0 : ∀ x : Wd (Below wr.heap.size wr), x.w.cell? ⟨w.heap.size, 0, none⟩ = some (.int .i64 b.1) := fun x => (hBr.more x.ok).cell.1
      have k1 : ∀ x : Wd (Below wr.heap.size wr), x.w.cell? ⟨w.heap.size, 1, none⟩ = some (.int .i64 b.2.1) := fun x => (hBr.more x.ok).cell.2.1
      have k2 : ∀ x : Wd (Below wr.heap.size wr), x.w.cell? ⟨w.heap.size, 2, none⟩ = some (.int .i64 b.2.2) := fun x => (hBr.more x.ok).cell.2.2
      have k3 : ∀ x : Wd (Below wr.heap.size wr), x.w.cell? ⟨g, o + k, none⟩ = some (.int .i64 n) := fun x => (x.ok.cell (p := ⟨g, o + k, none⟩) hgl2).trans g1
      by_cases a1 : x ≤ n
      · by_cases a2 : n ≤ y
        · cases hh : hasQ b n
          · rw [show hasQ (b.1, b.2.1, b.2.2) n = false from hh] at CH
            rw [if_pos (by simp [a1, a2, hh])] at HF
            clear hh
            go_wp2
            have hNe : Nonempty (Wd (Below wr.heap.size wr)) := ⟨⟨_, hS0⟩⟩
            refine quietS (S := Below wr.heap.size wr) (by kernel_rfl) (by kernel_rfl) (hS0) ?_
            repeat (first | go_big_quiet_skip | (go_big_quiet_want; go_big_quiet_op; first | go_big_quiet_on | go_big_quiet_call ((go_at_call 11; exact quiet_S (CH.out _ (Wd.ok _))))))
            refine wpQuiet_nil ?_
            rintro W ⟨⟨_, hW⟩, rfl⟩
            have g2 : W.cell? ⟨g, o + k, none⟩ = some (.int .i64 n) := (hW.cell (p := ⟨g, o + k, none⟩) hgl2).trans g1
            have hOW := hO.more hW
            go_wp2_with (refine wpList_iapp rfl _ _ rfl _ (partQ (l.take k) x y b) rfl (hOW.alloc _) _ n 1 rfl (heap_alloc_new _ _) (by unfold partQ; omega) ?_; intro v' w4 hO4 hb4)
            go_roundw
            case rel => exact ⟨k + 1, by omega, by go_num, by unfold partQ at hO4 ⊢; rw [HF.out]; exact hO4, (hb.trans (hW.mono hb.size)).trans (((Below.refl _ W).alloc (Nat.le_trans hb.size hW.size) _).trans hb4)⟩
            case measure => simp [intOf]; omega
          · rw [show hasQ (b.1, b.2.1, b.2.2) n = true from hh] at CH
            rw [if_neg (by simp [a1, a2, hh])] at HF
            clear hh
            go_wp2
            have hNe : Nonempty (Wd (Below wr.heap.size wr)) := ⟨⟨_, hS0⟩⟩
            refine quietS (S := Below wr.heap.size wr) (by kernel_rfl) (by kernel_rfl) (hS0) ?_
            repeat (first | go_big_quiet_skip | (go_big_quiet_want; go_big_quiet_op; first | go_big_quiet_on | go_big_quiet_call ((go_at_call 11; exact quiet_S (CH.out _ (Wd.ok _))))))
            refine wpQuiet_nil ?_
            rintro W ⟨⟨_, hW⟩, rfl⟩
            go_wp2
            go_roundw
            case rel => exact ⟨k + 1, by omega, by go_num, by unfold partQ at hO ⊢; rw [HF.out]; exact hO.more hW, hb.trans (hW.mono hb.size)⟩
            case measure => simp [intOf]; omega
        · have a9 := a2; have a3 : decide (n ≤ y) = false := decide_eq_false a2
          rw [if_neg (by simp [a2])] at HF
          clear a9
          go_wp2
          have hNe : Nonempty (Wd (Below wr.heap.size wr)) := ⟨⟨_, hS0⟩⟩
          refine quietS (S := Below wr.heap.size wr) (by kernel_rfl) (by kernel_rfl) (hS0) ?_
          repeat (first | go_big_quiet_skip | (go_big_quiet_want; go_big_quiet_op; first | go_big_quiet_on | go_big_quiet_call ((go_at_call 11; exact quiet_S (CH.out _ (Wd.ok _))))))
          refine wpQuiet_nil ?_
          rintro W ⟨⟨_, hW⟩, rfl⟩
          go_wp2
          go_roundw
          case rel => exact ⟨k + 1, by omega, by go_num, by unfold partQ at hO ⊢; rw [HF.out]; exact hO.more hW, hb.trans (hW.mono hb.size)⟩
          case measure => simp [intOf]; omega
      · have a9 := a1; have a3 : decide (x ≤ n) = false := decide_eq_false a1
        rw [if_neg (by simp [a1])] at HF
        clear a9
        go_wp2
        have hNe : Nonempty (Wd (Below wr.heap.size wr)) := ⟨⟨_, hS0⟩⟩
        refine quietS (S := Below wr.heap.size wr) (by kernel_rfl) (by kernel_rfl) (hS0) ?_
        repeat (first | go_big_quiet_skip | (go_big_quiet_want; go_big_quiet_op; first | go_big_quiet_on | go_big_quiet_call ((go_at_call 11; exact quiet_S (CH.out _ (Wd.ok _))))))
        refine wpQuiet_nil ?_
        rintro W ⟨⟨_, hW⟩, rfl⟩
        go_wp2
        go_roundw
        case rel => exact ⟨k + 1, by omega, by go_num, by unfold partQ at hO ⊢; rw [HF.out]; exact hO.more hW, hb.trans (hW.mono hb.size)⟩
        case measure => simp [intOf]; omega
    · rw [List.take_of_length_le (by omega)] at hO
      go_wp2
      go_ret
      exact ⟨_, rfl, .of_own hO.own, hs0.trans (hb.mono hs0.size)⟩

end Go.Proofs.Ytnfdmdhpbaifiaa
