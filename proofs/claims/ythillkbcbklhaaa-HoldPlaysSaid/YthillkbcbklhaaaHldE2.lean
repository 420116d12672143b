/- Extend. -/
import Derived.Test.YthillkbcbklhaaaHldE
namespace Go.Proofs.Ythillkbcbklhaaa
open Go.RowKit Go.Shelf Go.Maps Go.MapKept
set_option linter.unusedSimpArgs false
set_option linter.unusedVariables false

set_option maxRecDepth 100000 in
set_option maxHeartbeats 4000000 in
theorem ext_void (p : Option Addr) (i m : Int) (w : World) (hv : VoidH w p) : Calls Try.prog 16 #[.pointer p, .int .i64 i, .int .i64 m] w fun e w' => e = .returned (.int .i64 1) ∧ w' = w := by
  have K := Lib.hid (isVoid_yes p _ hv)
  clear hv
  go_enter Try.func16, Try.ntmps16
  go_wp2_with (go_at_call 25; (with_reducible refine K.out.mono ?_); rintro e w6 ⟨rfl, rfl⟩)
  go_ret
  exact ⟨rfl, rfl⟩
def extG (hs : List Hd) (i m : Int) : List Hd := match findH hs i with
  | some y => if timB m = true then insH { y with til := m } (dropH hs i) else hs
  | none => hs
theorem rgt_til {h : Hd} (hr : rgtH h = true) {m : Int} (hm : timB m = true) : rgtH { h with til := m } = true := by
  unfold rgtH at hr ⊢
  simp only [Bool.and_eq_true] at hr ⊢
  exact ⟨hr.1, hm⟩
set_option maxRecDepth 100000 in
set_option maxHeartbeats 8000000 in
theorem ext_any {B mb n : Nat} {hs : List Hd} (i m : Int) (w : World) (hS : HldAt w B mb n hs) (hn : n < 100000) (hi : -9223372036854775808 ≤ i ∧ i ≤ 9223372036854775807) :
    Calls Try.prog 16 #[.pointer (some ⟨B, 0, none⟩), .int .i64 i, .int .i64 m] w fun e w' => e = .returned (.int .i64 (extE hs i m)) ∧ HldAt w' B mb (n + 1) (extG hs i m) ∧ But w w' (fun k => k = mb) := by
  have hmono : ∀ {W : World} {ks : List Hd}, HldAt W B mb n ks → HldAt W B mb (n + 1) ks := fun h => ⟨h.box, by obtain ⟨es, cl, a1, a2, a3, a4⟩ := h.map; exact ⟨es, cl, a1, a2, Nat.le_succ_of_le a3, a4⟩, h.srt, h.ok⟩
  have K0 := Lib.hid (isVoid_no B mb w hS.box)
  have KT := Lib.hid (fun W => isTime_any m W)
  have hlk := hS.look hi
  have c0 := hS.box
  have HS := Lib.hid hS
  have HMN : Hid (∀ W, HldAt W B mb n hs → HldAt W B mb (n + 1) hs) := Lib.hid (fun W h => hmono h)
  unfold extE extG
  clear hS hmono
  cases hf : findH hs i with
  | none =>
    rw [hf] at hlk
    have hlk : (Instr.lookup hmT (.map (some mb)) (.int .i64 i) true).run Try.prog w = .ok (.tuple #[zH, .bool false]) w := hlk
    show Calls _ _ _ _ fun e w' => e = .returned (.int .i64 7) ∧ HldAt w' B mb (n + 1) hs ∧ But w w' (fun k => k = mb)
    clear hf
    go_enter Try.func16, Try.ntmps16
    go_wp2_with (go_at_call 25; (with_reducible refine K0.out.mono ?_); rintro e w6 ⟨rfl, rfl⟩)
    go_ret
    exact ⟨rfl, (HMN.out _ HS.out).more (bel_alloc _ _), But.of_below (bel_alloc _ _)⟩
  | some y =>
    rw [hf] at hlk
    have hlk : (Instr.lookup hmT (.map (some mb)) (.int .i64 i) true).run Try.prog w = .ok (.tuple #[aggH y, .bool true]) w := hlk
    obtain ⟨hy, rfl⟩ := find_some hf
    cases ht : timB m with
    | false =>
      rw [ht] at KT
      show Calls _ _ _ _ fun e w' => e = .returned (.int .i64 2) ∧ HldAt w' B mb (n + 1) hs ∧ But w w' (fun k => k = mb)
      clear hf ht
      go_enter Try.func16, Try.ntmps16
      go_wp2_with (first
        | (go_at_call 25; (with_reducible refine K0.out.mono ?_); rintro e w6 ⟨rfl, rfl⟩)
        | (go_at_call 32; (with_reducible refine (KT.out _).mono ?_); rintro e w7 ⟨rfl, rfl⟩))
      go_ret
      exact ⟨rfl, (HMN.out _ HS.out).more (bel_alloc _ _), But.of_below (bel_alloc _ _)⟩
    | true =>
      rw [ht] at KT
      show Calls _ _ _ _ fun e w' => e = .returned (.int .i64 0) ∧ HldAt w' B mb (n + 1) (insH { y with til := m } (dropH hs y.id)) ∧ But w w' (fun k => k = mb)
      have hb8 := (bel_alloc w (.cells #[.int .i64 y.id, .slice y.A y.l.length y.c, .string y.cls, .int .i64 y.cnt, .int .i64 m] hdT)).drew
      have hS8 := HS.out.more hb8
      have hyo := HS.out.ok y hy
      obtain ⟨w9, hrun, hS9, hb9⟩ := hS8.store (x := { y with til := m }) (by omega) ⟨hyo.1.i0, hyo.1.i1, hyo.1.len, hyo.1.legs, hyo.1.cls⟩ (rgt_til hyo.2.2 ht) (hyo.2.1.more hb8)
      have hrun : (Instr.mapUpdate hmT (.map (some mb)) (.int .i64 y.id) (.agg #[.int .i64 y.id, .slice y.A y.l.length y.c, .string y.cls, .int .i64 y.cnt, .int .i64 m])).run Try.prog (w.alloc (.cells #[.int .i64 y.id, .slice y.A y.l.length y.c, .string y.cls, .int .i64 y.cnt, .int .i64 m] hdT)).drew = .ok () w9 := hrun
      have HS9 : Hid (HldAt w9 B mb (n + 1) (insH { y with til := m } (dropH hs y.id))) := Lib.hid hS9
      have HB9 := Lib.hid ((But.of_below (X := fun k => k = mb) hb8).trans hb9 (fun _ _ h => h))
      have c1 : (w.alloc (.cells #[.int .i64 y.id, .slice y.A y.l.length y.c, .string y.cls, .int .i64 y.cnt, .int .i64 m] hdT)).cell? ⟨B, 0, none⟩ = some (.map (some mb)) := hS8.box
      clear hf ht hS9 hb9 hS8 hb8 hyo hy
      go_enter Try.func16, Try.ntmps16
      go_upto_region 9 with (first
        | (go_at_call 25; (with_reducible refine K0.out.mono ?_); rintro e w6 ⟨rfl, rfl⟩)
        | (go_at_call 32; (with_reducible refine (KT.out _).mono ?_); rintro e w7 ⟨rfl, rfl⟩))
      clear hlk
      go_region
      clear hrun c0 c1
      go_wp2
      go_ret
      exact ⟨rfl, HS9.out, HB9.out⟩
end Go.Proofs.Ythillkbcbklhaaa
