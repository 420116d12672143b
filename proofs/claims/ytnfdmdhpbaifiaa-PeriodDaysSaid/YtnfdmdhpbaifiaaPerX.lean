/- Walks of the laws on periods: days, weeks. -/
import Derived.Test.YtnfdmdhpbaifiaaPerW
namespace Go.Proofs.Ytnfdmdhpbaifiaa
open Go.RowKit
set_option linter.unusedSimpArgs false
set_option linter.unusedVariables false

theorem box_call {f : Nat} {args : Array Value} {w : World} {B : Nat} {p : Per} {R : Ending → Prop} (h : ∀ W, Calls Try.prog f args W fun e w' => R e ∧ Below W.heap.size W w') (W : World) (hb : Box3 w B p W) :
    Calls Try.prog f args W fun e w' => R e ∧ Box3 w B p w' := (h W).mono (by rintro e w' ⟨he, h⟩; exact ⟨he, hb.more h⟩)
theorem sameI_self (l : List Int) : sameI l l = true := by simp [sameI]

set_option maxRecDepth 100000 in
set_option maxHeartbeats 4000000 in
theorem periodDays_walk (f t d n : Int) (w : World) (hf : b64 f) (hn : b64 n) :
    Calls Try.prog 3 #[encQ (f, t, d), .int .i64 n] w fun e w' => e = .returned (.bool true) ∧ Below w.heap.size w w' := by
  have hS : Box3 w w.heap.size (f, t, d) (w.alloc (.cells #[.int .i64 f, .int .i64 t, .int .i64 d] 23)).drew := (Box3.new w (f, t, d) _).more (Below.refl _ _).drew
  have C1 := Lib.hid (box_call (w := w) (B := w.heap.size) (p := (f, t, d)) (fun W => check_any f t d W))
  have C2 := Lib.hid (box_call (w := w) (B := w.heap.size) (p := (f, t, d)) (fun W => rcheck_any f t d W))
  have C3 := Lib.hid (box_call (w := w) (B := w.heap.size) (p := (f, t, d)) (fun W => has_any f t d n W hn.1 hn.2))
  have C4 := Lib.hid (box_call (w := w) (B := w.heap.size) (p := (f, t, d)) (fun W => rhas_any f t d n W hn.1 hn.2))
  have C5 : Hid (∀ W, Box3 w w.heap.size (f, t, d) W → Calls Try.prog 13 #[encQ (f, t, d)] W fun e w' => ∃ v, e = .returned v ∧ IntL w' v (daysQ (f, t, d)) ∧ Box3 w w.heap.size (f, t, d) w') :=
    Lib.hid (fun W h => (days_any (f, t, d) W).mono (by rintro e w' ⟨v, rfl, hL, hb⟩; exact ⟨v, rfl, hL, h.more hb⟩))
  have C6 : Hid (∀ W, Box3 w w.heap.size (f, t, d) W → Calls Try.prog 14 #[encQ (f, t, d)] W fun e w' => ∃ v, e = .returned v ∧ IntL w' v (daysQ (f, t, d)) ∧ Box3 w w.heap.size (f, t, d) w' ∧ Below W.heap.size W w') :=
    Lib.hid (fun W h => (rdays_any f t d W hf.1 hf.2).mono (by rintro e w' ⟨v, rfl, hL, hb⟩; exact ⟨v, rfl, hL, h.more hb, hb⟩))
  have hl := daysQ_len (f, t, d)
  have C7 : Hid (∀ va vb W, IntL W va (daysQ (f, t, d)) → IntL W vb (daysQ (f, t, d)) → Box3 w w.heap.size (f, t, d) W → Calls Try.prog 12 #[va, vb] W fun e w' => e = .returned (.bool true) ∧ Box3 w w.heap.size (f, t, d) w') :=
    Lib.hid (fun va vb W h1 h2 h => (lawsame_any va vb _ _ W h1 h2 (by omega) (by omega)).mono (by rintro e w' ⟨rfl, m, rfl⟩; exact ⟨by rw [sameI_self], h.more (bel_self _ _)⟩))
  have C8 := Lib.hid (box_call (w := w) (B := w.heap.size) (p := (f, t, d)) (fun W => count_any (f, t, d) W))
  have C9 := Lib.hid (box_call (w := w) (B := w.heap.size) (p := (f, t, d)) (fun W => rcount_any f t d W hf.1 hf.2))
  have CA := Lib.hid (box_call (w := w) (B := w.heap.size) (p := (f, t, d)) (fun W => awake_any W))
  generalize errQ (f, t, d) = z1 at *
  generalize hasQ (f, t, d) n = z2 at *
  generalize daysQ (f, t, d) = l at *
  go_enter Try.func3, Try.ntmps3
  go_wp2
  go_region_held3 (fun W => W.cell? ⟨w.heap.size, 0, none⟩ = some (.int .i64 f) ∧ W.cell? ⟨w.heap.size, 1, none⟩ = some (.int .i64 t) ∧ W.cell? ⟨w.heap.size, 2, none⟩ = some (.int .i64 d) ∧ RowKit.Below w.heap.size w W) (exact hS) ((first
    | (go_at_call 8; refine (C1.out _ hS).mono ?_; rintro e w2 ⟨rfl, hS⟩)
    | (go_at_call 9; refine (C2.out _ hS).mono ?_; rintro e w2 ⟨rfl, hS⟩)
    | (go_at_call 10; refine (C3.out _ hS).mono ?_; rintro e w2 ⟨rfl, hS⟩)
    | (go_at_call 11; refine (C4.out _ hS).mono ?_; rintro e w2 ⟨rfl, hS⟩)
    | (go_at_call 13; refine (C5.out _ hS).mono ?_; rintro e w2 ⟨v1, rfl, hL1, hS⟩)
    | (go_at_call 14; refine (C6.out _ hS).mono ?_; rintro e w2 ⟨v2, rfl, hL2, hS, hbb⟩)
    | (go_at_call 12; refine (C7.out _ _ _ (hL1.more hbb) hL2 hS).mono ?_; rintro e w2 ⟨rfl, hS⟩)
    | (go_at_call 15; refine (C8.out _ hS).mono ?_; rintro e w2 ⟨rfl, hS⟩)
    | (go_at_call 16; refine (C9.out _ hS).mono ?_; rintro e w2 ⟨rfl, hS⟩)
    | (go_at_call 17; refine (CA.out _ hS).mono ?_; rintro e w2 ⟨rfl, hS⟩)))
  go_wp2
  go_ret
  exact ⟨rfl, hS.2.2.2⟩

/-- two boxes and the growth since w -/
def S2 (w : World) (P Q : Nat) (p q : Per) (W : World) : Prop := BoxAt W P p ∧ BoxAt W Q q ∧ Below w.heap.size w W
theorem S2.more {w : World} {P Q : Nat} {p q : Per} {W W' : World} (h : S2 w P Q p q W) (hb : Below W.heap.size W W') : S2 w P Q p q W' := ⟨h.1.more hb, h.2.1.more hb, h.2.2.trans (hb.mono h.2.2.size)⟩
theorem S2.call {f : Nat} {args : Array Value} {w : World} {P Q : Nat} {p q : Per} {R : Ending → Prop} (h : ∀ W, Calls Try.prog f args W fun e w' => R e ∧ Below W.heap.size W w') (W : World) (hb : S2 w P Q p q W) :
    Calls Try.prog f args W fun e w' => R e ∧ S2 w P Q p q w' := (h W).mono (by rintro e w' ⟨he, h⟩; exact ⟨he, hb.more h⟩)

set_option maxRecDepth 100000 in
set_option maxHeartbeats 4000000 in
theorem periodWeeks_walk (f t d n : Int) (w : World) (hf : b64 f) (ht : b64 t) (hn : b64 n) :
    Calls Try.prog 7 #[encQ (f, t, d), .int .i64 n] w fun e w' => e = .returned (.bool true) ∧ Below w.heap.size w w' := by
  have CA := Lib.hid (fun W => awake_any W)
  have C1 := Lib.hid (fun W => rcheck_any f t d W)
  have hb0 : ∀ o : Obj, Below w.heap.size w ((w.alloc (.cells #[.int .i64 f, .int .i64 t, .int .i64 d] 23)).alloc o) := fun o => (bel_alloc w _).alloc (by simp) _
  cases hp : okQ (f, t, d)
  · have he := errQ_two hp
    have he2 : (errQ (f, t, d) != 0) = true := by rw [bne, he]; rfl
    generalize errQ (f, t, d) = z at *
    clear hp
    go_enter Try.func7, Try.ntmps7
    go_wp2_with (first | (go_at_call 9; refine (C1.out _).mono ?_; rintro e w2 ⟨rfl, hb⟩) | (go_at_call 17; refine (CA.out _).mono ?_; rintro e w3 ⟨rfl, hb3⟩))
    go_ret
    have hs2 := (hb0 _).trans (hb.mono (by simp; omega))
    exact ⟨rfl, hs2.trans (hb3.mono hs2.size)⟩
  have hq1 := okQ_yes hp
  have q0 : 0 ≤ f := hq1.1
  have q1 : f ≤ t := hq1.2.1
  have q2 : t < 36525 := hq1.2.2.1
  have he := errQ_ok hp
  rw [he] at C1
  have C2 := Lib.hid (fun W => rcheck_any (f + 7) (t + 7) d W)
  have hbQ : BoxAt ((w.alloc (.cells #[.int .i64 f, .int .i64 t, .int .i64 d] 23)).alloc (.cells #[.int .i64 (f + 7), .int .i64 (t + 7), .int .i64 d] 23)) (w.heap.size + 1) (f + 7, t + 7, d) := box_second w _ (f + 7, t + 7, d)
  have hbP : BoxAt ((w.alloc (.cells #[.int .i64 f, .int .i64 t, .int .i64 d] 23)).alloc (.cells #[.int .i64 (f + 7), .int .i64 (t + 7), .int .i64 d] 23)) w.heap.size (f, t, d) := box_first w (f, t, d) _
  cases hq : okQ (f + 7, t + 7, d)
  · have he2 : (errQ (f + 7, t + 7, d) != 0) = true := by rw [bne, errQ_two hq]; rfl
    generalize errQ (f + 7, t + 7, d) = z at *
    clear hp hq hq1 he
    go_enter Try.func7, Try.ntmps7
    go_wp2_with (first | (go_at_call 9; first | (with_reducible refine (C1.out _).mono ?_; rintro e w2 ⟨rfl, hb⟩; have hQ2 := (hbQ.more hb).cell; have k0 := hQ2.1; have k1 := hQ2.2.1; have k2 := hQ2.2.2) | (with_reducible refine (C2.out _).mono ?_; rintro e w4 ⟨rfl, hb4⟩)) | (go_at_call 17; refine (CA.out _).mono ?_; rintro e w3 ⟨rfl, hb3⟩))
    go_ret
    have hs2 := (hb0 _).trans (hb.mono (by simp; omega))
    have hs4 := hs2.trans (hb4.mono hs2.size)
    exact ⟨rfl, hs4.trans (hb3.mono hs4.size)⟩
  have he2 := errQ_ok hq
  rw [he2] at C2
  by_cases n0 : n < 0
  · clear hp hq hq1 he he2
    go_enter Try.func7, Try.ntmps7
    go_wp2_with (first | (go_at_call 9; first | (with_reducible refine (C1.out _).mono ?_; rintro e w2 ⟨rfl, hb⟩; have hQ2 := (hbQ.more hb).cell; have k0 := hQ2.1; have k1 := hQ2.2.1; have k2 := hQ2.2.2) | (with_reducible refine (C2.out _).mono ?_; rintro e w4 ⟨rfl, hb4⟩)) | (go_at_call 17; refine (CA.out _).mono ?_; rintro e w3 ⟨rfl, hb3⟩))
    go_ret
    have hs2 := (hb0 _).trans (hb.mono (by simp; omega))
    have hs4 := hs2.trans (hb4.mono hs2.size)
    exact ⟨rfl, hs4.trans (hb3.mono hs4.size)⟩
  by_cases n1 : 36525 ≤ n
  · clear hp hq hq1 he he2
    go_enter Try.func7, Try.ntmps7
    go_wp2_with (first | (go_at_call 9; first | (with_reducible refine (C1.out _).mono ?_; rintro e w2 ⟨rfl, hb⟩; have hQ2 := (hbQ.more hb).cell; have k0 := hQ2.1; have k1 := hQ2.2.1; have k2 := hQ2.2.2) | (with_reducible refine (C2.out _).mono ?_; rintro e w4 ⟨rfl, hb4⟩)) | (go_at_call 17; refine (CA.out _).mono ?_; rintro e w3 ⟨rfl, hb3⟩))
    go_ret
    have hs2 := (hb0 _).trans (hb.mono (by simp; omega))
    have hs4 := hs2.trans (hb4.mono hs2.size)
    exact ⟨rfl, hs4.trans (hb3.mono hs4.size)⟩
  · have K1 := Lib.hid (S2.call (w := w) (P := w.heap.size) (Q := w.heap.size + 1) (p := (f, t, d)) (q := (f + 7, t + 7, d)) (fun W => has_any (f + 7) (t + 7) d (n + 7) W (by omega) (by omega)))
    have K2 := Lib.hid (S2.call (w := w) (P := w.heap.size) (Q := w.heap.size + 1) (p := (f, t, d)) (q := (f + 7, t + 7, d)) (fun W => has_any f t d n W hn.1 hn.2))
    have K3 := Lib.hid (S2.call (w := w) (P := w.heap.size) (Q := w.heap.size + 1) (p := (f, t, d)) (q := (f + 7, t + 7, d)) (fun W => count_any (f + 7, t + 7, d) W))
    have K4 := Lib.hid (S2.call (w := w) (P := w.heap.size) (Q := w.heap.size + 1) (p := (f, t, d)) (q := (f + 7, t + 7, d)) (fun W => count_any (f, t, d) W))
    have K5 := Lib.hid (S2.call (w := w) (P := w.heap.size) (Q := w.heap.size + 1) (p := (f, t, d)) (q := (f + 7, t + 7, d)) (fun W => awake_any W))
    rw [show hasQ (f + 7, t + 7, d) (n + 7) = hasQ (f, t, d) n from week_has (f, t, d) n hp hq] at K1
    rw [show (daysQ (f + 7, t + 7, d)).length = (daysQ (f, t, d)).length from week_cnt (f, t, d) hp hq] at K3
    have w7 : IntKind.i64.wrap (n + 7) = n + 7 := by rw [IntKind.wrap_i64]; omega
    generalize hasQ (f, t, d) n = z at *
    generalize (daysQ (f, t, d)).length = c at *
    clear hp hq hq1 he he2
    go_enter Try.func7, Try.ntmps7
    go_wp2_with (first | (go_at_call 9; first | (with_reducible refine (C1.out _).mono ?_; rintro e w2 ⟨rfl, hb⟩; have hQ2 := (hbQ.more hb).cell; have k0 := hQ2.1; have k1 := hQ2.2.1; have k2 := hQ2.2.2) | (with_reducible refine (C2.out _).mono ?_; rintro e w4 ⟨rfl, hb4⟩)))
    have hs2 := (hb0 _).trans (hb.mono (by simp; omega))
    have hs4 := hs2.trans (hb4.mono hs2.size)
    have hS : S2 w w.heap.size (w.heap.size + 1) (f, t, d) (f + 7, t + 7, d) w4.drew := ⟨((hbP.more hb).more hb4).drew', ((hbQ.more hb).more hb4).drew', hs4.drew⟩
    have g0 : ∀ x : Wd (S2 w w.heap.size (w.heap.size + 1) (f, t, d) (f + 7, t + 7, d)), x.w.cell? ⟨w.heap.size, 0, none⟩ = some (.int .i64 f) := fun x => x.ok.1.cell.1
    have g1 : ∀ x : Wd (S2 w w.heap.size (w.heap.size + 1) (f, t, d) (f + 7, t + 7, d)), x.w.cell? ⟨w.heap.size, 1, none⟩ = some (.int .i64 t) := fun x => x.ok.1.cell.2.1
    have g2 : ∀ x : Wd (S2 w w.heap.size (w.heap.size + 1) (f, t, d) (f + 7, t + 7, d)), x.w.cell? ⟨w.heap.size, 2, none⟩ = some (.int .i64 d) := fun x => x.ok.1.cell.2.2
    have g3 : ∀ x : Wd (S2 w w.heap.size (w.heap.size + 1) (f, t, d) (f + 7, t + 7, d)), x.w.cell? ⟨w.heap.size + 1, 0, none⟩ = some (.int .i64 (f + 7)) := fun x => x.ok.2.1.cell.1
    have g4 : ∀ x : Wd (S2 w w.heap.size (w.heap.size + 1) (f, t, d) (f + 7, t + 7, d)), x.w.cell? ⟨w.heap.size + 1, 1, none⟩ = some (.int .i64 (t + 7)) := fun x => x.ok.2.1.cell.2.1
    have g5 : ∀ x : Wd (S2 w w.heap.size (w.heap.size + 1) (f, t, d) (f + 7, t + 7, d)), x.w.cell? ⟨w.heap.size + 1, 2, none⟩ = some (.int .i64 d) := fun x => x.ok.2.1.cell.2.2
    have hNe : Nonempty (Wd (S2 w w.heap.size (w.heap.size + 1) (f, t, d) (f + 7, t + 7, d))) := ⟨⟨_, hS⟩⟩
    refine quietS (S := S2 w w.heap.size (w.heap.size + 1) (f, t, d) (f + 7, t + 7, d)) (by kernel_rfl) (by kernel_rfl) (hS) ?_
    repeat (first | go_big_quiet_skip | (go_big_quiet_want; go_big_quiet_op; first | go_big_quiet_on | go_big_quiet_call ((first | (go_at_call 10; first | (with_reducible exact quiet_S (K1.out _ (Wd.ok _))) | (with_reducible exact quiet_S (K2.out _ (Wd.ok _)))) | (go_at_call 15; first | (with_reducible exact quiet_S (K3.out _ (Wd.ok _))) | (with_reducible exact quiet_S (K4.out _ (Wd.ok _)))) | (go_at_call 17; exact quiet_S (K5.out _ (Wd.ok _)))))))
    refine wpQuiet_nil ?_
    rintro W ⟨⟨_, hW⟩, rfl⟩
    go_wp2
    go_ret
    exact ⟨rfl, hW.2.2⟩

end Go.Proofs.Ytnfdmdhpbaifiaa
