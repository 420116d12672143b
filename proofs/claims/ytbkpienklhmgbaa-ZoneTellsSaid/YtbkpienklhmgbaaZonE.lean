/- Walks of the reference's Offset, Local, UTC, times, Exists and Twice. -/
import Derived.Test.YtbkpienklhmgbaaZonD
namespace Go.Proofs.Ytbkpienklhmgbaa
open Go.RowKit Go.Shelf
set_option linter.unusedSimpArgs false
set_option linter.unusedVariables false

set_option maxRecDepth 100000 in
set_option maxHeartbeats 2000000 in
theorem roffset_any (o : Int) (A : Option Addr) (c : Nat) (l : Shs) (u : Int) (w : World) (hl : l.length ≤ 256) (hL : ShL w A l) :
    Calls Try.prog 10 #[encZ o A l.length c, .int .i64 u] w fun e w' => e = .returned (.int .i64 (roff o l u l.length)) ∧ Below w.heap.size w w' := by
  have hb0 := bel_alloc w (.cells #[.int .i64 o, .slice A l.length c] zoneT)
  have z0 := cells_new w #[.int .i64 o, .slice A l.length c] zoneT 0
  have z1 := cells_new w #[.int .i64 o, .slice A l.length c] zoneT 1
  simp only [List.getElem?_toArray, List.getElem?_cons_zero, List.getElem?_cons_succ] at z0 z1
  have hL0 := hL.more hb0
  clear hL
  go_enter Try.func10, Try.ntmps10
  go_wp2
  generalize hw0 : w.alloc (.cells #[.int .i64 o, .slice A l.length c] zoneT) = w0 at *
  go_loopw [5, 6] (fun vn vi wr => ∃ k : Nat, k ≤ l.length ∧ vi = .int .i64 k ∧ vn = .int .i64 (roff o l u k) ∧ Below w0.heap.size w0 wr) (fun _ vi _ => l.length - (intOf vi).toNat)
  case atStart => exact ⟨0, Nat.zero_le _, rfl, rfl, Below.refl _ _⟩
  case round =>
    obtain ⟨k, hk, rfl, rfl, hb⟩ := hrel
    have y1 := bel_cell hb z1
    by_cases hlt : k < l.length
    · obtain ⟨g, off, rfl, hgl, hcc⟩ := hL0.at hlt
      have i2 : (k : Int) < (l.length : Int) := by omega
      obtain ⟨g0, g1⟩ := hcc k hlt
      have gk0 := bel_cell hb g0
      have gk1 := bel_cell hb g1
      have HS : Hid (roff o l u (k + 1) = if shA l k ≤ u then shF l k else roff o l u k) := Lib.hid rfl
      clear hcc hL0 hw0
      generalize roff o l u k = r at *
      generalize shA l k = a at *
      generalize shF l k = f at *
      by_cases h : a ≤ u
      · rw [if_pos h] at HS
        go_wp2
        go_roundw
        case rel => exact ⟨k + 1, by omega, by go_num, by rw [HS.out], hb⟩
        case measure => simp [intOf]; omega
      · rw [if_neg h] at HS
        go_wp2
        go_roundw
        case rel => exact ⟨k + 1, by omega, by go_num, by rw [HS.out], hb⟩
        case measure => simp [intOf]; omega
    · obtain rfl : k = l.length := by omega
      go_wp2
      go_ret
      exact ⟨rfl, hb0.trans (hb.mono hb0.size)⟩

set_option maxRecDepth 100000 in
set_option maxHeartbeats 2000000 in
theorem rlocal_any (o : Int) (A : Option Addr) (c : Nat) (l : Shs) (u : Int) (w : World) (ok : OkZ o l) (hL : ShL w A l) (hu : -1099511627776 ≤ u ∧ u ≤ 1099511627776) :
    Calls Try.prog 12 #[encZ o A l.length c, .int .i64 u] w fun e w' => e = .returned (.int .i64 (u + offZ o l u)) ∧ Below w.heap.size w w' := by
  have CO := Lib.hid (fun W (hW : Below w.heap.size w W) => roff_is ok u ▸ roffset_any o A c l u W ok.len (hL.more hW))
  have hr := ok.before _ (offN_spec ok u).1
  rw [show shB o l (offN l u) = offZ o l u from rfl] at hr
  have hb0 := bel_alloc w (.cells #[.int .i64 o, .slice A l.length c] zoneT)
  have hl := ok.len
  generalize offZ o l u = r at *
  clear hL ok
  go_enter Try.func12, Try.ntmps12
  go_wp2_with (go_at_call 10; refine (CO.out _ hb0).mono ?_; rintro e w1 ⟨rfl, hb1⟩)
  go_ret
  exact ⟨rfl, hb0.trans (hb1.mono hb0.size)⟩

set_option maxRecDepth 100000 in
set_option maxHeartbeats 2000000 in
theorem rutc_any (o : Int) (A : Option Addr) (c : Nat) (l : Shs) (x : Int) (w : World) (ok : OkZ o l) (hL : ShL w A l) (hu : -1099511627776 ≤ x ∧ x ≤ 1099511627776) :
    Calls Try.prog 14 #[encZ o A l.length c, .int .i64 x] w fun e w' => e = .returned (.int .i64 (utcZ o l x)) ∧ Below w.heap.size w w' := by
  have hb0 := bel_alloc w (.cells #[.int .i64 o, .slice A l.length c] zoneT)
  have z0 := cells_new w #[.int .i64 o, .slice A l.length c] zoneT 0
  have z1 := cells_new w #[.int .i64 o, .slice A l.length c] zoneT 1
  simp only [List.getElem?_toArray, List.getElem?_cons_zero, List.getElem?_cons_succ] at z0 z1
  have hL0 := hL.more hb0
  have HU := Lib.hid (rut_is ok x)
  have hl := ok.len
  have ho := ok.off
  have hat := ok.at'
  have hsh := ok.shift
  clear hL ok
  generalize utcZ o l x = res at *
  go_enter Try.func14, Try.ntmps14
  go_wp2
  generalize hw0 : w.alloc (.cells #[.int .i64 o, .slice A l.length c] zoneT) = w0 at *
  go_loopw [5, 6] (fun vu vi wr => ∃ (k : Nat) (u : Int), k ≤ l.length ∧ vi = .int .i64 k ∧ vu = .int .i64 u ∧ Hid (rut l x (l.length - k) k u = res) ∧ Below w0.heap.size w0 wr) (fun _ vi _ => l.length - (intOf vi).toNat)
  case atStart => exact ⟨0, x - o, Nat.zero_le _, rfl, rfl, HU, Below.refl _ _⟩
  case round =>
    obtain ⟨k, u, hk, rfl, rfl, HK, hb⟩ := hrel
    have y1 := bel_cell hb z1
    by_cases hlt : k < l.length
    · obtain ⟨g, off, rfl, hgl, hcc⟩ := hL0.at hlt
      have i2 : (k : Int) < (l.length : Int) := by omega
      obtain ⟨g0, g1⟩ := hcc k hlt
      have HS := Lib.hid ((rut_step l x u k _ rfl hlt).symm.trans HK.out)
      have ha := hat k hlt
      have hf := hsh k hlt
      clear hcc hL0 hw0 HK hat hsh HU
      generalize shA l k = a at *
      generalize shF l k = f at *
      by_cases h : u < a
      · rw [if_pos h] at HS
        have gk0 := bel_cell hb g0
        go_wp2
        go_ret
        exact ⟨by rw [← HS.out]; rfl, hb0.trans (hb.mono hb0.size)⟩
      · rw [if_neg h] at HS
        have gk0 := bel_cell hb g0
        have q1 := SW.cell y1
        have q2 := SW.cell gk0
        have q3 := SW.cell (bel_cell hb g1)
        go_wp2
        have hNe : Nonempty (Wd (SW wr)) := ⟨⟨_, SW.drew _⟩⟩
        refine quietS (S := SW wr) (by kernel_rfl) (by kernel_rfl) (SW.drew _) ?_
        repeat (first | go_big_quiet_skip | (go_big_quiet_want; go_big_quiet_op; first | go_big_quiet_on | go_big_quiet_call ((fail))))
        refine wpQuiet_nil ?_
        rintro W ⟨⟨_, hW⟩, rfl⟩
        all_goals
          go_wp2
          go_roundw
          case rel => exact ⟨k + 1, max a (x - f), by omega, by go_num, by (first | rfl | (congr 1; omega)), HS, hb.trans (hW.mono hb.size)⟩
          case measure => simp [intOf]; omega
    · obtain rfl : k = l.length := by omega
      go_wp2
      go_ret
      exact ⟨by rw [← HK.out, rut_end _ _ _ _ _ (by omega)]; rfl, hb0.trans (hb.mono hb0.size)⟩

end Go.Proofs.Ytbkpienklhmgbaa
