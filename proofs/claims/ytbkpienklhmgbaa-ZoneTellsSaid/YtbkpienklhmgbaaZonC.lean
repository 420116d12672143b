/- Walks of sort.Search, of the closures that it calls, and of the functions of package zone. -/
import Derived.Test.YtbkpienklhmgbaaZonA
import Derived.Deep.LoopGhost
namespace Go.Proofs.Ytbkpienklhmgbaa
open Go.RowKit
set_option linter.unusedSimpArgs false
set_option linter.unusedVariables false

theorem OkA {o : Int} {l : Shs} (h : OkZ o l) (k : Nat) (hk : k < l.length) : 0 ≤ shA l k ∧ shA l k < 52596000 := h.at' k hk

set_option maxHeartbeats 2000000 in
theorem before_any (o : Int) (A : Option Addr) (c : Nat) (l : Shs) (k : Nat) (w : World) (hl : l.length ≤ 256) (hk : k ≤ l.length) (hL : ShL w A l) :
    Calls Try.prog 24 #[encZ o A l.length c, .int .i64 k] w fun e w' => e = .returned (.int .i64 (shB o l k)) ∧ Below w.heap.size w w' := by
  by_cases h0 : k = 0
  · subst h0
    go_enter Try.func24, Try.ntmps24
    go_wp2
    go_ret
    exact ⟨rfl, bel_alloc _ _⟩
  · obtain ⟨m, rfl⟩ : ∃ m, k = m + 1 := ⟨k - 1, by omega⟩
    obtain ⟨g, off, rfl, hgl, hcc⟩ := hL.at (k := m) (by omega)
    obtain ⟨g0, g1⟩ := hcc m (by omega)
    have z1 : (((m + 1 : Nat) : Int) == 0) = false := by rw [beq_eq_false_iff_ne]; omega
    have z2 : ((m + 1 : Nat) : Int) - 1 = (m : Int) := by omega
    have i1 : (m : Int) < (l.length : Int) := by omega
    rw [shB_succ]
    generalize ((m + 1 : Nat) : Int) = y at *
    have hy : -9223372036854775808 ≤ y - 1 ∧ y - 1 ≤ 9223372036854775807 := by omega
    clear hcc h0
    go_enter Try.func24, Try.ntmps24
    go_wp2
    go_ret
    exact ⟨rfl, bel_alloc _ _⟩

set_option maxHeartbeats 4000000 in
set_option maxRecDepth 100000 in
theorem search_any (g : Nat) (cb : Array Value) (n : Nat) (p : Nat → Bool) (w : World) (eg : ∀ args w, (callFunc g args).run Try.prog w = .ok (.enter g args) w) (hsz : n < 4611686018427387904)
    (hf : ∀ (i : Nat) (W : World), i < n → Below w.heap.size w W → Calls Try.prog g (#[.int .i64 i] ++ cb) W fun e w' => e = .returned (.bool (p i)) ∧ Below W.heap.size W w')
    (hmono : ∀ a b, a ≤ b → b < n → p a = true → p b = true) :
    Calls Try.prog 22 #[.int .i64 n, .func (.func g) #[] cb] w fun e w' => e = .returned (.int .i64 (fstP p n 0 : Nat)) ∧ Below w.heap.size w w' := by
  have HF := Lib.hid hf
  have M := Lib.hid hmono
  have CN : Hid (∀ c, c ≤ n → (∀ t, t < c → p t = false) → (∀ t, c ≤ t → t < n → p t = true) → fstP p n 0 = c) := Lib.hid (fun c h1 h2 h3 => fstP_is p c n n 0 (Nat.zero_le _) (by omega) h1 h2 h3)
  clear hf hmono
  generalize fstP p n 0 = r at *
  go_enter Try.func22, Try.ntmps22
  go_wp2
  go_loopg [5, 6] n (fun kx s5 s6 wr => ∃ (lo hi : Nat), s5 = .int .i64 lo ∧ s6 = .int .i64 hi ∧ lo ≤ hi ∧ hi ≤ n ∧ hi - lo ≤ kx ∧ Below w.heap.size w wr ∧
    Hid ((∀ t, t < lo → p t = false) ∧ (∀ t, hi ≤ t → t < n → p t = true)))
  case atStart => exact ⟨0, n, rfl, rfl, Nat.zero_le _, Nat.le_refl _, by omega, Below.refl _ _, Lib.hid ⟨fun t ht => absurd ht (Nat.not_lt_zero _), fun t h1 h2 => by omega⟩⟩
  case round =>
    obtain ⟨lo, hi, rfl, rfl, hlh, hin, hg, hb, I⟩ := hrel
    by_cases hlt : lo < hi
    · have hc := HF.out ((lo + hi) / 2) wr (by omega) hb
      rw [show (((lo + hi) / 2 : Nat) : Int) = ((lo : Int) + (hi : Int)) / 2 by omega] at hc
      cases hp : p ((lo + hi) / 2) <;> rw [hp] at hc
      · have HP := Lib.hid hp
        clear hp
        go_wp2_with (refine hc.mono ?_; rintro e w' ⟨rfl, hb'⟩)
        go_roundg (hi - ((lo + hi) / 2 + 1))
        case measure => omega
        case rel =>
          refine ⟨(lo + hi) / 2 + 1, hi, by rw [show ((lo : Int) + (hi : Int)) / 2 + 1 = (((lo + hi) / 2 + 1 : Nat) : Int) by omega], rfl, by omega, hin, Nat.le_refl _, hb.trans (hb'.mono hb.size), Lib.hid ⟨fun t ht => ?_, I.out.2⟩⟩
          cases h : p t with
          | false => rfl
          | true => have := M.out t ((lo + hi) / 2) (by omega) (by omega) h; rw [HP.out] at this; cases this
      · have HP := Lib.hid hp
        clear hp
        go_wp2_with (refine hc.mono ?_; rintro e w' ⟨rfl, hb'⟩)
        go_roundg ((lo + hi) / 2 - lo)
        case measure => omega
        case rel =>
          exact ⟨lo, (lo + hi) / 2, rfl, by rw [show ((lo : Int) + (hi : Int)) / 2 = (((lo + hi) / 2 : Nat) : Int) by omega], by omega, by omega, Nat.le_refl _, hb.trans (hb'.mono hb.size), Lib.hid ⟨I.out.1, fun t ht htn => M.out ((lo + hi) / 2) t ht htn HP.out⟩⟩
    · obtain rfl : hi = lo := by omega
      have hr := Lib.hid (CN.out hi hin I.out.1 I.out.2)
      go_wp2
      go_ret
      exact ⟨by rw [hr.out]; rfl, hb⟩

end Go.Proofs.Ytbkpienklhmgbaa
