/- The specification's Extend. -/
import Derived.Test.YthillkbcbklhaaaHldQE
namespace Go.Proofs.Ythillkbcbklhaaa
open Go.RowKit Go.Shelf Go.Maps Go.MapKept
set_option linter.unusedSimpArgs false
set_option linter.unusedVariables false

theorem at_some_pos {hs : List Hd} (h0 : SrtH hs) {i : Int} {x : Hd} (h : findH hs i = some x) : ∃ k : Nat, atP hs i = (k : Int) := by
  obtain ⟨k, _, e⟩ := at_find h0 h
  exact ⟨k, e⟩
theorem find_dropped {hs : List Hd} (i : Int) : findH (dropH hs i) i = none := by
  cases h : findH (dropH hs i) i with
  | none => rfl
  | some y =>
    obtain ⟨h1, h2⟩ := find_some h
    exact absurd h2 (mem_drop.1 h1).2
set_option maxRecDepth 100000 in
set_option maxHeartbeats 8000000 in
theorem rext_any (B : Nat) (hs : List Hd) (i m : Int) (w : World) (hl : hs.length ≤ 999) (h : RefS w B hs) (hm : -9223372036854775808 ≤ m ∧ m ≤ 9223372036854775807) :
    Calls Try.prog 17 #[.pointer (some ⟨B, 0, none⟩), .int .i64 i, .int .i64 m] w fun e w' => e = .returned (.int .i64 (extE hs i m)) ∧ RefS w' B (extG hs i m) ∧ But w w' (fun k => k = B) := by
  obtain ⟨A, c, h⟩ := h
  have KA := Lib.hid (at_any B A c hs i w (by omega) h)
  have KT := Lib.hid (fun W => rtime_any m W)
  have KD := Lib.hid (rdrop_any B A c hs i w (by omega) h)
  have HS := Lib.hid h
  unfold extE extG
  cases hf : findH hs i with
  | none =>
    rw [at_none hf] at KA
    show Calls _ _ _ _ fun e w' => e = .returned (.int .i64 7) ∧ RefS w' B hs ∧ But w w' (fun k => k = B)
    clear hf h KD
    go_enter Try.func17, Try.ntmps17
    go_wp2_with (go_at_call 30; (with_reducible refine KA.out.mono ?_); rintro e w6 ⟨rfl, rfl⟩)
    go_ret
    exact ⟨rfl, ⟨A, c, HS.out⟩, But.refl _ _⟩
  | some y =>
    obtain ⟨k, hat⟩ := at_some_pos h.srt hf
    rw [hat] at KA
    have d0 : decide ((k : Int) < 0) = false := decide_eq_false (by omega)
    obtain ⟨hy, rfl⟩ := find_some hf
    cases ht : timB m with
    | false =>
      rw [ht] at KT
      show Calls _ _ _ _ fun e w' => e = .returned (.int .i64 2) ∧ RefS w' B hs ∧ But w w' (fun k => k = B)
      clear hf ht h KD hat
      go_enter Try.func17, Try.ntmps17
      go_wp2_with (first
        | (go_at_call 30; (with_reducible refine KA.out.mono ?_); rintro e w6 ⟨rfl, rfl⟩)
        | (go_at_call 29; (with_reducible refine (KT.out _).mono ?_); rintro e w7 ⟨rfl, rfl⟩))
      go_ret
      exact ⟨rfl, ⟨A, c, HS.out⟩, But.refl _ _⟩
    | true =>
      rw [ht] at KT
      show Calls _ _ _ _ fun e w' => e = .returned (.int .i64 0) ∧ RefS w' B (insH { y with til := m } (dropH hs y.id)) ∧ But w w' (fun k => k = B)
      obtain ⟨hok, hrow, hrg⟩ := h.ok y hy
      have hd0 : dropE hs y.id = 0 := by unfold dropE; rw [hf]; rfl
      rw [hf, hd0] at KD
      have KD : Hid (Calls Try.prog 14 #[.pointer (some ⟨B, 0, none⟩), .int .i64 y.id] w fun e w' => e = .returned (.tuple #[aggH y, .int .i64 0]) ∧ RefS w' B (dropH hs y.id) ∧ But w w' (fun k => k = B)) := KD
      have HPE : Hid (putE (dropH hs y.id) { y with til := m } = 0) := Lib.hid (by
        unfold putE
        rw [if_neg (by rw [rgt_til hrg ht]; decide), if_neg (by rw [find_dropped]; decide)])
      have HPG : Hid (putG (dropH hs y.id) { y with til := m } = insH { y with til := m } (dropH hs y.id)) := Lib.hid (by unfold putG; rw [HPE.out, if_pos rfl])
      have HDL : Hid ((dropH hs y.id).length ≤ 999) := Lib.hid (by
        unfold dropH
        exact Nat.le_trans (List.length_filter_le _ _) hl)
      have HOK : Hid (OkH { y with til := m }) := Lib.hid ⟨hok.i0, hok.i1, hok.len, hok.legs, hok.cls⟩
      have HROW := Lib.hid hrow
      clear hf ht h hat hy hok hrow hrg hd0
      go_enter Try.func17, Try.ntmps17
      go_upto_region 6 with (first
        | (go_at_call 30; (with_reducible refine KA.out.mono ?_); rintro e w6 ⟨rfl, rfl⟩)
        | (go_at_call 29; (with_reducible refine (KT.out _).mono ?_); rintro e w7 ⟨rfl, rfl⟩)
        | (go_at_call 14; (with_reducible refine KD.out.mono ?_); rintro e w8 ⟨rfl, hR8, hB8⟩))
      have hb8 := bel_alloc w8 (.cells #[.int .i64 y.id, .slice y.A y.l.length y.c, .string y.cls, .int .i64 y.cnt, .int .i64 m] 31)
      have KP : Hid (Calls Try.prog 12 #[.pointer (some ⟨B, 0, none⟩), .agg #[.int .i64 y.id, .slice y.A y.l.length y.c, .string y.cls, .int .i64 y.cnt, .int .i64 m]] (w8.alloc (.cells #[.int .i64 y.id, .slice y.A y.l.length y.c, .string y.cls, .int .i64 y.cnt, .int .i64 m] 31)) fun e w' => e = .returned (.int .i64 (putE (dropH hs y.id) { y with til := m })) ∧ RefS w' B (putG (dropH hs y.id) { y with til := m }) ∧ But (w8.alloc (.cells #[.int .i64 y.id, .slice y.A y.l.length y.c, .string y.cls, .int .i64 y.cnt, .int .i64 m] 31)) w' (fun k => k = B)) := Lib.hid (rput_any B (dropH hs y.id) { y with til := m } _ HDL.out (hR8.more hb8) HOK.out ((HROW.out.but hB8 (fun k e hk => hk e)).more hb8))
      rw [HPE.out, HPG.out] at KP
      have HBB := Lib.hid (hB8.trans (But.of_below hb8 : But _ _ (fun k => k = B)) (fun _ _ h => h))
      clear hR8 hB8 hb8
      go_wp2_with (go_at_call 12; (with_reducible refine KP.out.mono ?_); rintro e w9 ⟨rfl, hR9, hB9⟩)
      go_ret
      exact ⟨rfl, hR9, HBB.out.trans hB9 (fun _ _ h => h)⟩
end Go.Proofs.Ythillkbcbklhaaa
