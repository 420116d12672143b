/- The chapter's example. -/
import Derived.Test.YthillkbcbklhaaaHldJ
namespace Go.Proofs.Ythillkbcbklhaaa
open Go.RowKit Go.Shelf Go.Maps Go.MapKept
set_option linter.unusedSimpArgs false
set_option linter.unusedVariables false

def lg0 : Lid := ⟨⟨#[66, 65]⟩, 117, 9497, ⟨#[76, 72, 82]⟩⟩
theorem okd0 : OkD lg0 := ⟨by decide, by decide, by decide, by decide, by decide, by decide⟩
theorem put_lit {B mb n : Nat} {hs : List Hd} {W : World} (hS : HldAt W B mb n hs) (hn : n < 100000) (id cnt til : Int) (hid : -9223372036854775808 ≤ id ∧ id ≤ 9223372036854775807) (cls : ByteArray) (hc : cls.size ≤ maxLen) :
    Calls Try.prog 11 #[.pointer (some ⟨B, 0, none⟩), .agg #[.int .i64 id, .slice (some ⟨W.heap.size, 0, none⟩) 1 1, .string cls, .int .i64 cnt, .int .i64 til]] (W.alloc (.cells #[.string ⟨#[66, 65]⟩, .int .i64 117, .int .i64 9497, .string ⟨#[76, 72, 82]⟩] lidT)) fun e w' => e = .returned (.int .i64 (putE hs ⟨id, none, 0, [lg0], cls, cnt, til⟩)) ∧ (∃ A' c', HldAt w' B mb (n + 1) (putG hs ⟨id, A', c', [lg0], cls, cnt, til⟩)) ∧ But W w' (fun k => k = mb) := by
  have hal := bel_alloc W (.cells #[.string ⟨#[66, 65]⟩, .int .i64 117, .int .i64 9497, .string ⟨#[76, 72, 82]⟩] lidT)
  have hlt := hS.map.lt
  have hr : RowIn (fun k => k ≠ mb) 4 encD (W.alloc (.cells #[.string ⟨#[66, 65]⟩, .int .i64 117, .int .i64 9497, .string ⟨#[76, 72, 82]⟩] lidT)) (some ⟨W.heap.size, 0, none⟩) [lg0] := (RowIn.one (sz := 4) (enc := encD) W [lg0] lidT (fun _ => rfl) rfl).imp (fun k hk e => by omega)
  refine (put_any ⟨id, some ⟨W.heap.size, 0, none⟩, 1, [lg0], cls, cnt, til⟩ (W.alloc (.cells #[.string ⟨#[66, 65]⟩, .int .i64 117, .int .i64 9497, .string ⟨#[76, 72, 82]⟩] lidT)) (hS.more hal) hn ⟨hid.1, hid.2, by show 1 ≤ 1000; omega, fun i hi => by rw [List.mem_singleton] at hi; rw [hi]; exact okd0, hc⟩ hr).mono ?_
  rintro e w' ⟨rfl, h2, h3⟩
  exact ⟨rfl, h2, (But.of_below hal).trans h3 (fun _ _ h => h)⟩
abbrev hh1 (A : Option Addr) (c : Nat) : Hd := ⟨1, A, c, [lg0], ⟨#[89]⟩, 2, 50⟩
abbrev hh2 (A : Option Addr) (c : Nat) : Hd := ⟨2, A, c, [lg0], ⟨#[89]⟩, 2, 40⟩
theorem aw1 (A : Option Addr) (c : Nat) : putE [] (hh1 A c) = 0 := by kernel_rfl
theorem aw2 (A A' : Option Addr) (c c' : Nat) : putE [hh1 A c] (hh2 A' c') = 0 := by kernel_rfl
theorem aw3 (A A' A2 : Option Addr) (c c' c2 : Nat) : putE [hh2 A' c', hh1 A c] (hh1 A2 c2) = 6 := by kernel_rfl
theorem ag1 (A : Option Addr) (c : Nat) : putG [] (hh1 A c) = [hh1 A c] := by unfold putG; rw [aw1]; rfl
theorem ag2 (A A' : Option Addr) (c c' : Nat) : putG [hh1 A c] (hh2 A' c') = [hh2 A' c', hh1 A c] := by
  unfold putG
  rw [aw2, if_pos rfl]
  unfold insH
  rw [if_neg (by unfold ltH; simp)]
theorem ag3 (A A' A2 : Option Addr) (c c' c2 : Nat) : putG [hh2 A' c', hh1 A c] (hh1 A2 c2) = [hh2 A' c', hh1 A c] := by
  unfold putG
  rw [aw3, if_neg (by decide)]
theorem ah1 (A A' : Option Addr) (c c' : Nat) : heldP lg0 ⟨#[89]⟩ [hh2 A' c', hh1 A c] = 4 := by kernel_rfl
theorem ah2 (A : Option Addr) (c : Nat) : heldP lg0 ⟨#[89]⟩ [hh1 A c] = 2 := by kernel_rfl
theorem ae1 (A A' : Option Addr) (c c' : Nat) : goneH 40 [hh2 A' c', hh1 A c] = [hh2 A' c'] := by kernel_rfl
theorem ae2 (A A' : Option Addr) (c c' : Nat) : restH 40 [hh2 A' c', hh1 A c] = [hh1 A c] := by kernel_rfl
set_option maxRecDepth 100000 in
set_option maxHeartbeats 8000000 in
theorem awake16_any (w : World) : Calls Try.prog 8 #[] w fun e w' => e = .returned (.bool true) ∧ Below w.heap.size w w' := by
  have KN := Lib.hid new_any
  have hY : (⟨#[89]⟩ : ByteArray).size ≤ maxLen := by show 1 ≤ maxLen; unfold maxLen; omega
  have K1 : Hid (∀ B mb W, HldAt W B mb 0 [] → Calls Try.prog 11 #[.pointer (some ⟨B, 0, none⟩), .agg #[.int .i64 1, .slice (some ⟨W.heap.size, 0, none⟩) 1 1, .string ⟨#[89]⟩, .int .i64 2, .int .i64 50]] (W.alloc (.cells #[.string ⟨#[66, 65]⟩, .int .i64 117, .int .i64 9497, .string ⟨#[76, 72, 82]⟩] lidT)) fun e w' => e = .returned (.int .i64 0) ∧ (∃ A' c', HldAt w' B mb 1 [hh1 A' c']) ∧ But W w' (fun k => k = mb)) := Lib.hid (fun B mb W h => (put_lit h (by omega) 1 2 50 (by omega) ⟨#[89]⟩ hY).mono (by
    rintro e w' ⟨rfl, ⟨A', c', h2⟩, h3⟩
    rw [ag1] at h2
    exact ⟨by rw [aw1], ⟨A', c', h2⟩, h3⟩))
  have K2 : Hid (∀ B mb W A c, HldAt W B mb 1 [hh1 A c] → Calls Try.prog 11 #[.pointer (some ⟨B, 0, none⟩), .agg #[.int .i64 2, .slice (some ⟨W.heap.size, 0, none⟩) 1 1, .string ⟨#[89]⟩, .int .i64 2, .int .i64 40]] (W.alloc (.cells #[.string ⟨#[66, 65]⟩, .int .i64 117, .int .i64 9497, .string ⟨#[76, 72, 82]⟩] lidT)) fun e w' => e = .returned (.int .i64 0) ∧ (∃ A' c', HldAt w' B mb 2 [hh2 A' c', hh1 A c]) ∧ But W w' (fun k => k = mb)) := Lib.hid (fun B mb W A c h => (put_lit h (by omega) 2 2 40 (by omega) ⟨#[89]⟩ hY).mono (by
    rintro e w' ⟨rfl, ⟨A', c', h2⟩, h3⟩
    rw [ag2] at h2
    exact ⟨by rw [aw2], ⟨A', c', h2⟩, h3⟩))
  have K3 : Hid (∀ B mb W A c A' c', HldAt W B mb 2 [hh2 A' c', hh1 A c] → Calls Try.prog 11 #[.pointer (some ⟨B, 0, none⟩), .agg #[.int .i64 1, .slice (some ⟨W.heap.size, 0, none⟩) 1 1, .string ⟨#[89]⟩, .int .i64 2, .int .i64 50]] (W.alloc (.cells #[.string ⟨#[66, 65]⟩, .int .i64 117, .int .i64 9497, .string ⟨#[76, 72, 82]⟩] lidT)) fun e w' => e = .returned (.int .i64 6) ∧ HldAt w' B mb 3 [hh2 A' c', hh1 A c] ∧ But W w' (fun k => k = mb)) := Lib.hid (fun B mb W A c A' c' h => (put_lit h (by omega) 1 2 50 (by omega) ⟨#[89]⟩ hY).mono (by
    rintro e w' ⟨rfl, ⟨A2, c2, h2⟩, h3⟩
    rw [ag3] at h2
    exact ⟨by rw [aw3], h2, h3⟩))
  have KH1 : Hid (∀ B mb W A c A' c', HldAt W B mb 3 [hh2 A' c', hh1 A c] → Calls Try.prog 21 #[.pointer (some ⟨B, 0, none⟩), .agg #[.string ⟨#[66, 65]⟩, .int .i64 117, .int .i64 9497, .string ⟨#[76, 72, 82]⟩], .string ⟨#[89]⟩] W fun e w' => e = .returned (.int .i64 4) ∧ Below W.heap.size W w') := Lib.hid (fun B mb W A c A' c' h => by
    have h1 := held_any lg0 ⟨#[89]⟩ W h (by omega)
    rw [ah1] at h1
    exact h1)
  have KX : Hid (∀ B mb W A c A' c', HldAt W B mb 3 [hh2 A' c', hh1 A c] → Calls Try.prog 19 #[.pointer (some ⟨B, 0, none⟩), .int .i64 40] W fun e w' => ExpR [hh2 A' c', hh1 A c] 40 W e w' ∧ HldAt w' B mb 3 [hh1 A c] ∧ But W w' (fun k => k = mb)) := Lib.hid (fun B mb W A c A' c' h => by
    have h1 := exp_any 40 W h (by omega)
    rw [ae2] at h1
    exact h1)
  have KH2 : Hid (∀ B mb W A c, HldAt W B mb 3 [hh1 A c] → Calls Try.prog 21 #[.pointer (some ⟨B, 0, none⟩), .agg #[.string ⟨#[66, 65]⟩, .int .i64 117, .int .i64 9497, .string ⟨#[76, 72, 82]⟩], .string ⟨#[89]⟩] W fun e w' => e = .returned (.int .i64 2) ∧ Below W.heap.size W w') := Lib.hid (fun B mb W A c h => by
    have h1 := held_any lg0 ⟨#[89]⟩ W h (by omega)
    rw [ah2] at h1
    exact h1)
  have hb0 := bel_alloc w (.cells #[.string ⟨#[66, 65]⟩, .int .i64 117, .int .i64 9497, .string ⟨#[76, 72, 82]⟩] lidT)
  obtain ⟨q0, q1, q2, q3⟩ := lid_new w lg0
  have hsz : w.heap.size < (w.alloc (.cells #[.string ⟨#[66, 65]⟩, .int .i64 117, .int .i64 9497, .string ⟨#[76, 72, 82]⟩] lidT)).heap.size := by simp
  have HB0 := Lib.hid hb0
  have HSZ := Lib.hid hsz
  clear hb0 hsz hY
  go_enter Try.func8, Try.ntmps8
  go_upto_region 2 with fail
  change (w.alloc (.cells #[.string ⟨#[66, 65]⟩, .int .i64 117, .int .i64 9497, .string ⟨#[76, 72, 82]⟩] lidT)).cell? _ = some (.string ⟨#[66, 65]⟩) at q0
  change (w.alloc (.cells #[.string ⟨#[66, 65]⟩, .int .i64 117, .int .i64 9497, .string ⟨#[76, 72, 82]⟩] lidT)).cell? _ = some (.int .i64 117) at q1
  change (w.alloc (.cells #[.string ⟨#[66, 65]⟩, .int .i64 117, .int .i64 9497, .string ⟨#[76, 72, 82]⟩] lidT)).cell? _ = some (.int .i64 9497) at q2
  change (w.alloc (.cells #[.string ⟨#[66, 65]⟩, .int .i64 117, .int .i64 9497, .string ⟨#[76, 72, 82]⟩] lidT)).cell? _ = some (.string ⟨#[76, 72, 82]⟩) at q3
  generalize w.alloc (.cells #[.string ⟨#[66, 65]⟩, .int .i64 117, .int .i64 9497, .string ⟨#[76, 72, 82]⟩] lidT) = w1 at *
  go_upto_region 3 with (go_at_call 9; (with_reducible refine (KN.out _).mono ?_); rintro e w2 ⟨B, mb, rfl, hS, hB1, hm1, hm2, hb2⟩)
  have hne : w.heap.size ≠ mb := by have := HSZ.out; omega
  have q0 := bel_cell hb2 q0
  have q1 := bel_cell hb2 q1
  have q2 := bel_cell hb2 q2
  have q3 := bel_cell hb2 q3
  have HC : Hid (∀ W, But w2 W (fun k => k = mb) → W.cell? ⟨w.heap.size, 0, none⟩ = some (.string ⟨#[66, 65]⟩) ∧ W.cell? ⟨w.heap.size, 1, none⟩ = some (.int .i64 117) ∧ W.cell? ⟨w.heap.size, 2, none⟩ = some (.int .i64 9497) ∧ W.cell? ⟨w.heap.size, 3, none⟩ = some (.string ⟨#[76, 72, 82]⟩)) := Lib.hid (fun W h => ⟨but_cell h q0 (fun e => hne e), but_cell h q1 (fun e => hne e), but_cell h q2 (fun e => hne e), but_cell h q3 (fun e => hne e)⟩)
  have HB2 : Hid (Below w.heap.size w w2 ∧ w.heap.size ≤ mb) := Lib.hid ⟨HB0.out.trans (hb2.mono HB0.out.size), by have := HSZ.out; omega⟩
  clear hb2 hm1 hm2 hne hB1
  go_upto_region 4 with (go_at_call 11; (with_reducible refine (K1.out B mb w2 hS).mono ?_); rintro e w3 ⟨rfl, ⟨A1, c1, hS3⟩, hb3⟩)
  clear q0 q1 q2 q3 hS
  obtain ⟨q0, q1, q2, q3⟩ := HC.out _ hb3
  go_upto_region 5 with (go_at_call 11; (with_reducible refine (K2.out B mb w3 A1 c1 hS3).mono ?_); rintro e w4 ⟨rfl, ⟨A2, c2, hS4⟩, hb4⟩)
  have hb4 := hb3.trans hb4 (fun _ _ h => h)
  clear q0 q1 q2 q3 hS3 hb3
  obtain ⟨q0, q1, q2, q3⟩ := HC.out _ hb4
  go_upto_region 6 with (go_at_call 11; (with_reducible refine (K3.out B mb w4 A1 c1 A2 c2 hS4).mono ?_); rintro e w5 ⟨rfl, hS5, hb5⟩)
  have hb5 := hb4.trans hb5 (fun _ _ h => h)
  clear q0 q1 q2 q3 hS4 hb4
  obtain ⟨q0, q1, q2, q3⟩ := HC.out _ hb5
  go_upto_region 8 with (go_at_call 21; (with_reducible refine (KH1.out B mb w5 A1 c1 A2 c2 hS5).mono ?_); rintro e w6 ⟨rfl, hb6⟩)
  have hS6 := hS5.more hb6
  have hb6 := hb5.trans (But.of_below (X := fun k => k = mb) hb6) (fun _ _ h => h)
  clear q0 q1 q2 q3 hS5 hb5
  go_upto_region 9 with (go_at_call 19; (with_reducible refine (KX.out B mb w6 A1 c1 A2 c2 hS6).mono ?_); rintro e w7 ⟨⟨A7, c7, rfl, hrw, _⟩, hS7, hb7⟩)
  have hb7 := hb6.trans hb7 (fun _ _ h => h)
  clear hb6 hS6
  obtain ⟨q0, q1, q2, q3⟩ := HC.out _ hb7
  rw [ae1] at hrw
  rw [ae1]
  obtain ⟨b7, o7, rfl, _, hc⟩ := row_get hrw (show [hh2 A2 c2][0]? = some _ from rfl)
  have z0 := hc 0 _ rfl
  simp only [Nat.zero_mul, Nat.add_zero] at z0
  clear hc hrw
  go_wp2_with (go_at_call 21; (with_reducible refine (KH2.out B mb w7 A1 c1 hS7).mono ?_); rintro e w8 ⟨rfl, hb8⟩)
  go_ret
  have h9 := HB2.out.1.trans (hb7.below HB2.out.1.size (fun k hk e => by have := HB2.out.2; omega))
  exact ⟨rfl, h9.trans (hb8.mono h9.size)⟩
end Go.Proofs.Ythillkbcbklhaaa
