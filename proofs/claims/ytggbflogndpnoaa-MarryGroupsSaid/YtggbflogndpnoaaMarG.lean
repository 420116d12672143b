/- find. -/
import Derived.Test.YtggbflogndpnoaaMarF
namespace Go.Proofs.Ytggbflogndpnoaa
open Go.RowKit Go.Shelf Go.Maps
set_option linter.unusedSimpArgs false
set_option linter.unusedVariables false
attribute [local go_sem] Oper.semAt_some
attribute [local simp] wide_fn

abbrev iT : TypeId := 3
/-- the cells of find's results -/
structure FC (w : World) (i f t e : Int) (W : World) : Prop where
  a : Boxed W w.heap.size iT (.int .i64 i)
  f : Boxed W (w.heap.size + 1) iT (.int .i64 f)
  t : Boxed W (w.heap.size + 1 + 1) iT (.int .i64 t)
  e : Boxed W (w.heap.size + 1 + 1 + 1) erT (.int .i64 e)
  bel : Below w.heap.size w W
  sz : w.heap.size + 4 ≤ W.heap.size
theorem FC.more {w : World} {i f t e : Int} {W W' : World} (h : FC w i f t e W) (hb : Below W.heap.size W W') : FC w i f t e W' :=
  ⟨boxed_more h.a hb, boxed_more h.f hb, boxed_more h.t hb, boxed_more h.e hb, h.bel.trans (hb.mono h.bel.size), Nat.le_trans h.sz hb.size⟩
theorem FC.put {w : World} {i f t e : Int} {W : World} (h : FC w i f t e W) (f' t' e' : Int) : FC w i f' t' e' (((W.setCell ⟨w.heap.size + 1, 0, none⟩ (.int .i64 f')).setCell ⟨w.heap.size + 1 + 1, 0, none⟩ (.int .i64 t')).setCell ⟨w.heap.size + 1 + 1 + 1, 0, none⟩ (.int .i64 e')) :=
  ⟨((h.a.other (by omega) _).other (by omega) _).other (by omega) _, ((h.f.set _).other (by omega) _).other (by omega) _, ((h.t.other (by omega) _).set _).other (by omega) _, ((h.e.other (by omega) _).other (by omega) _).set _,
   ((h.bel.setCell (p := ⟨w.heap.size + 1, 0, none⟩) (by simp) _).setCell (p := ⟨w.heap.size + 1 + 1, 0, none⟩) (by simp; omega) _).setCell (p := ⟨w.heap.size + 1 + 1 + 1, 0, none⟩) (by simp; omega) _, by simp; exact h.sz⟩
theorem fc_own {β : Type} (w : World) (B : Nat) (hB : w.heap.size + 4 ≤ B) (f t e : β → Int) (i : Int) : OwnFrom B (fun s W => FC w i (f s) (t s) (e s) W) := by
  intro s X Y row hs hg hr
  have hb : ∀ k, k < B → k < X.heap.size → Y.heap[k]? = X.heap[k]? := fun k h h2 => hg.block k h2 (fun e => by obtain ⟨h3, _⟩ := hr k e.symm; omega)
  exact ⟨(hb _ (by omega) hs.a.lt).trans hs.a, (hb _ (by omega) hs.f.lt).trans hs.f, (hb _ (by omega) hs.t.lt).trans hs.t, (hb _ (by omega) hs.e.lt).trans hs.e, ownFrom_below (β := Unit) (Nat.le_refl _) (by omega) () X Y row hs.bel hg hr, Nat.le_trans hs.sz hg.size⟩
/-- no run so far holds the place -/
def noneP (i : Int) (pre : List (Nat × Nat)) : Prop := ∀ x ∈ pre, ¬ ((x.1 : Int) ≤ i ∧ i < (x.2 : Int))
structure FI (l : List Int) (w : World) (i : Int) (pre : List (Rn l)) (W : World) : Prop where
  c : FC w i 0 0 0 W
  no : noneP i (rvs pre)
structure FX (l : List Int) (w : World) (i : Int) (cd : Code) (xs : List (Rn l)) (W : World) : Prop where
  ret : cd = .ret
  c : ∃ (p : List (Rn l)) (x : Rn l), xs = p ++ [x] ∧ FC w i x.1.1 x.1.2 0 W ∧ ((x.1.1 : Int) ≤ i ∧ i < (x.1.2 : Int))
theorem fi_own (l : List Int) (w : World) (i : Int) (B : Nat) (hB : w.heap.size + 4 ≤ B) : OwnFrom B (FI l w i) :=
  fun s X Y row hs hg hr => ⟨fc_own (β := Unit) w B hB (fun _ => 0) (fun _ => 0) (fun _ => 0) i () X Y row hs.c hg hr, hs.no⟩
theorem fx_own (l : List Int) (w : World) (i : Int) (cd : Code) (B : Nat) (hB : w.heap.size + 4 ≤ B) : OwnFrom B (FX l w i cd) := by
  intro s X Y row hs hg hr
  obtain ⟨p, x, h1, h2, h3⟩ := hs.c
  exact ⟨hs.ret, p, x, h1, fc_own (β := Unit) w B hB (fun _ => (x.1.1 : Int)) (fun _ => (x.1.2 : Int)) (fun _ => 0) i () X Y row h2 hg hr, h3⟩
theorem none_out {l : List Int} {ys : List (Nat × Nat)} {i : Int} (h : Ch l ys l.length) (hn : noneP i ys) : i < 0 ∨ (l.length : Int) ≤ i := by
  refine Decidable.byContradiction fun hc => ?_
  obtain ⟨x, hx, h1, h2⟩ := h.find (i := i.toNat) (by omega)
  exact hn x hx ⟨by omega, by omega⟩
theorem none_snoc {i : Int} {pre : List (Nat × Nat)} {x : Nat × Nat} (h : noneP i pre) (hx : ¬ ((x.1 : Int) ≤ i ∧ i < (x.2 : Int))) : noneP i (pre ++ [x]) := by
  intro y hy
  rw [List.mem_append, List.mem_singleton] at hy
  rcases hy with hy | rfl
  · exact h y hy
  · exact hx

set_option maxRecDepth 100000 in
set_option maxHeartbeats 4000000 in
theorem find_in (A : Option Addr) (c : Nat) (l : List Int) (i : Int) (w : World) (hl : l.length ≤ 1000) (hi : I64L l) (hL : IntR w (.slice A l.length c) l) :
    CallsIn Fence.wide 10 Try.prog 24 #[.slice A l.length c, .int .i64 i] w (FindR l i w) := by
  have HL := Lib.hid hL
  obtain ⟨n, hn⟩ : ∃ n, n = l.length := ⟨_, rfl⟩
  have HN := Lib.hid hn
  obtain ⟨W1, hW1⟩ : ∃ W1, W1 = (((w.alloc (.cells #[.int .i64 i] iT)).alloc (.cells #[.int .i64 0] iT)).alloc (.cells #[.int .i64 0] iT)).alloc (.cells #[.int .i64 0] erT) := ⟨_, rfl⟩
  have hC1 : FC w i 0 0 0 W1 := by
    rw [hW1]
    refine ⟨(((Boxed.new w iT _).alloc _).alloc _).alloc _, ?_, ?_, ?_, ((((Below.refl _ w).alloc (Nat.le_refl _) _).alloc (by simp) _).alloc (by simp; omega) _).alloc (by simp; omega) _, by simp⟩
    · have h := ((Boxed.new (w.alloc (.cells #[.int .i64 i] iT)) iT (.int .i64 0)).alloc (.cells #[.int .i64 0] iT)).alloc (.cells #[.int .i64 0] erT)
      rw [World.size_alloc] at h
      exact h
    · have h := (Boxed.new ((w.alloc (.cells #[.int .i64 i] iT)).alloc (.cells #[.int .i64 0] iT)) iT (.int .i64 0)).alloc (.cells #[.int .i64 0] erT)
      simp only [World.size_alloc] at h
      exact h
    · have h := Boxed.new (((w.alloc (.cells #[.int .i64 i] iT)).alloc (.cells #[.int .i64 0] iT)).alloc (.cells #[.int .i64 0] iT)) erT (.int .i64 0)
      simp only [World.size_alloc] at h
      exact h
  have KC := Lib.hid (check_any A c l W1 hl hi (hL.more hC1.bel))
  have HC := Lib.hid hC1
  rw [← hn] at hl KC
  rw [← hn]
  clear hL hi hn hC1
  refine callsIn_of_wp_marks Try.func24 rfl trivial ?_ rfl
  simp only [Try.ntmps24, List.size_toArray, List.length_cons, List.length_nil, Nat.reduceAdd, Nat.reduceSub, Array.replicate_succ, Array.replicate_zero, List.push_toArray, List.append_toArray, List.nil_append, List.cons_append]
  rcases chk_cases l with ⟨_, hce⟩ | ⟨_, _, hce⟩ | ⟨h1, h2, hce⟩
  · have HF : Hid (∀ W e, FC w i 0 0 2 W → e = .returned (.tuple #[.int .i64 0, .int .i64 0, .int .i64 2]) → FindR l i w e W) := Lib.hid (fun W e h he => ⟨0, 0, 2, he, h.bel, by rw [if_pos (by rw [hce]; decide), hce]⟩)
    rw [hce] at KC
    clear hce
    gi_wp2_with (gi_at_call 10; rw [← hW1]; refine (callsIn_wide.2 KC.out).mono ?_; rintro e w2 ⟨rfl, hb2⟩; have hc := HC.out.more hb2; have f1 := hc.f.frozen; have f2 := hc.t.frozen; have f3 := hc.e.frozen; have c1 := hc.f.cell; have c2 := hc.t.cell; have c3 := hc.e.cell; have HP := Lib.hid (hc.put 0 0 2); clear hc)
    refine ⟨.tuple #[.int .i64 0, .int .i64 0, .int .i64 2], ?_, HF.out _ _ HP.out rfl⟩
    have d1 := HP.out.f.cell
    have d2 := HP.out.t.cell
    have d3 := HP.out.e.cell
    simp [results, Try.f24, go_sem, d1, d2, d3]
  · have HF : Hid (∀ W e, FC w i 0 0 18 W → e = .returned (.tuple #[.int .i64 0, .int .i64 0, .int .i64 18]) → FindR l i w e W) := Lib.hid (fun W e h he => ⟨0, 0, 18, he, h.bel, by rw [if_pos (by rw [hce]; decide), hce]⟩)
    rw [hce] at KC
    clear hce
    gi_wp2_with (gi_at_call 10; rw [← hW1]; refine (callsIn_wide.2 KC.out).mono ?_; rintro e w2 ⟨rfl, hb2⟩; have hc := HC.out.more hb2; have f1 := hc.f.frozen; have f2 := hc.t.frozen; have f3 := hc.e.frozen; have c1 := hc.f.cell; have c2 := hc.t.cell; have c3 := hc.e.cell; have HP := Lib.hid (hc.put 0 0 18); clear hc)
    refine ⟨.tuple #[.int .i64 0, .int .i64 0, .int .i64 18], ?_, HF.out _ _ HP.out rfl⟩
    have d1 := HP.out.f.cell
    have d2 := HP.out.t.cell
    have d3 := HP.out.e.cell
    simp [results, Try.f24, go_sem, d1, d2, d3]
  · have HE := Lib.hid hce
    rw [hce] at KC
    clear hce
    gi_wp2_with (first
      | (gi_at_call 10; rw [← hW1]; refine (callsIn_wide.2 KC.out).mono ?_; rintro e w2 ⟨rfl, hb2⟩)
      | (gi_at_call 21; refine (runs_any _ _ _ _).mono ?_; rintro e w' ⟨rfl, rfl⟩))
    have hc2 := HC.out.more hb2
    have hsz := hc2.sz
    obtain ⟨W0, hW0⟩ : ∃ W0, W0 = w2.alloc (Obj.cells #[Value.slice A n c] insT) := ⟨_, rfl⟩
    rw [← hW0]
    have hs0 : W0.heap.size = w2.heap.size + 1 := by rw [hW0]; simp
    have hFI : FI l w i [] W0 := ⟨by rw [hW0]; exact hc2.more (bel_alloc _ _), fun x hx => (nomatch hx)⟩
    have b5 : Boxed W0 w2.heap.size insT (.slice A n c) := by rw [hW0]; exact Boxed.new w2 insT _
    have hIB : InB w.heap.size W0 A l := (inB_of HL.out).more hFI.c.bel
    clear hW0 hc2 hW1 KC hb2 HC
    obtain ⟨B, hB⟩ : ∃ B, B = w2.heap.size := ⟨_, rfl⟩
    rw [← hB] at b5 hs0 hsz ⊢
    clear hB
    refine wpIn_rangeFunc_ownG rfl (by omega) (gf := 29) (lb := #[.pointer (some ⟨B, 0, none⟩)]) rfl trivial (enters_of Try.func29 (by kernel_rfl) rfl)
      (runs_stops B w.heap.size A c l (by have := HN.out; omega) W0 (by omega) (by rw [← HN.out]; exact b5) hIB) kp_t (kp_b (by omega) (by omega)) (Below.refl _ _) (fun _ => rfl)
      (FI l w i) (FX l w i) (fi_own l w i _ (by omega)) (fun cd => fx_own l w i cd _ (by omega)) hFI
      (fun x => { tmps := #[.slice A n c, .int .i64 i, undef, .pointer (some ⟨w.heap.size, 0, none⟩), .pointer (some ⟨w.heap.size + 1, 0, none⟩), .pointer (some ⟨w.heap.size + 1 + 1, 0, none⟩), .pointer (some ⟨w.heap.size + 1 + 1 + 1, 0, none⟩), .int .i64 0, .int .i64 (x.1.1 : Int), .int .i64 (x.1.2 : Int), .slice A n c, .int .i64 0, .int .i64 0, .bool false, undef, .slice A n c, .func (.func 29) #[] #[.pointer (some ⟨B, 0, none⟩)], .int .i64 (x.1.1 : Int), .int .i64 (x.1.2 : Int), undef, undef, undef, undef, undef, undef, undef, undef, undef, undef], defers := [] }) ?assign ?body ?done ?stop
    case assign =>
      intro lp x W K hK
      dsimp only [encR]
      rw [zip_two]
      gi_wp2
      exact hK
    case body =>
      rintro lp pre ⟨⟨f, t⟩, he⟩ W hI hlt
      dsimp only
      have c0 := hI.c.a.cell
      by_cases hin : (f : Int) ≤ i ∧ i < (t : Int)
      · have f1 := hI.c.f.frozen
        have f2 := hI.c.t.frozen
        have f3 := hI.c.e.frozen
        have c1 := hI.c.f.cell
        have c2 := hI.c.t.cell
        have c3 := hI.c.e.cell
        have HP : Hid (KeepsFrom W0.heap.size W (((W.setCell ⟨w.heap.size + 1, 0, none⟩ (.int .i64 (f : Int))).setCell ⟨w.heap.size + 1 + 1, 0, none⟩ (.int .i64 (t : Int))).setCell ⟨w.heap.size + 1 + 1 + 1, 0, none⟩ (.int .i64 0)) ∧ FX l w i .ret (pre ++ [⟨(f, t), he⟩]) (((W.setCell ⟨w.heap.size + 1, 0, none⟩ (.int .i64 (f : Int))).setCell ⟨w.heap.size + 1 + 1, 0, none⟩ (.int .i64 (t : Int))).setCell ⟨w.heap.size + 1 + 1 + 1, 0, none⟩ (.int .i64 0))) := Lib.hid
          ⟨(((KeepsOthers.setCell _ _ _).trans (KeepsOthers.setCell _ _ _)).trans (KeepsOthers.setCell _ _ _)).from _, ⟨rfl, pre, _, rfl, hI.c.put f t 0, hin⟩⟩
        have g1 : decide ((f : Int) ≤ i) = true := decide_eq_true hin.1
        have g2 : decide (i < (t : Int)) = true := decide_eq_true hin.2
        clear hI hin hIB
        gi_wp2
        exact HP.out
      · have HN2 : Hid (FI l w i (pre ++ [⟨(f, t), he⟩]) W) := Lib.hid ⟨hI.c, by rw [rvs_snoc]; exact none_snoc hI.no hin⟩
        clear hI hIB
        by_cases h3 : (f : Int) ≤ i
        · have g1 : decide ((f : Int) ≤ i) = true := decide_eq_true h3
          have g2 : decide (i < (t : Int)) = false := decide_eq_false (fun h => hin ⟨h3, h⟩)
          clear hin
          gi_wp2
          exact ⟨KeepsFrom.refl _ _, ⟨Below.refl _ _, rfl⟩, HN2.out⟩
        · have g1 : decide ((f : Int) ≤ i) = false := decide_eq_false h3
          clear hin
          gi_wp2
          exact ⟨KeepsFrom.refl _ _, ⟨Below.refl _ _, rfl⟩, HN2.out⟩
    case done =>
      rintro D ys W hD hys hI hK
      have HF : Hid (∀ W e, Below w.heap.size w W → e = .returned (.tuple #[.int .i64 0, .int .i64 0, .int .i64 2]) → FindR l i w e W) := Lib.hid (fun W e h he => ⟨0, 0, 2, he, h, by rw [if_neg (by rw [HE.out]; decide), if_pos (none_out hys hI.no)]⟩)
      have f1 := hI.c.f.frozen
      have f2 := hI.c.t.frozen
      have f3 := hI.c.e.frozen
      have c1 := hI.c.f.cell
      have c2 := hI.c.t.cell
      have c3 := hI.c.e.cell
      have HP := Lib.hid (hI.c.put 0 0 2)
      have hK' := (((KeepsOthers.setCell W ⟨w.heap.size + 1, 0, none⟩ (.int .i64 0)).trans (KeepsOthers.setCell _ ⟨w.heap.size + 1 + 1, 0, none⟩ (.int .i64 0))).trans (KeepsOthers.setCell _ ⟨w.heap.size + 1 + 1 + 1, 0, none⟩ (.int .i64 2))).same D _ hK rfl
      clear hI
      gi_wp2
      refine ⟨by simp, .inl ⟨_, _, rfl, run_takeDeferred hK', ?_⟩⟩
      have d1 := cell_kept HP.out.f.cell (grownBy_putObj' _ D (.deferred none)) (fun r e => by cases e; exact ⟨_, hK', rfl⟩)
      have d2 := cell_kept HP.out.t.cell (grownBy_putObj' _ D (.deferred none)) (fun r e => by cases e; exact ⟨_, hK', rfl⟩)
      have d3 := cell_kept HP.out.e.cell (grownBy_putObj' _ D (.deferred none)) (fun r e => by cases e; exact ⟨_, hK', rfl⟩)
      refine ⟨.tuple #[.int .i64 0, .int .i64 0, .int .i64 2], ?_, HF.out _ _ (HP.out.bel.trans (belowK_b (w := w) (Nat.le_refl _) _ D _ _ (by omega) hK' rfl rfl)) rfl⟩
      simp [results, Try.f24, go_sem, d1, d2, d3]
    case stop =>
      rintro D cd pre W hD ⟨b, hb⟩ hX hK
      obtain ⟨p, ⟨⟨f, t⟩, he⟩, rfl, hC, hin⟩ := hX.c
      obtain rfl := hX.ret
      rw [rvs_snoc] at hb
      have HF : Hid (∀ W e, Below w.heap.size w W → e = .returned (.tuple #[.int .i64 (f : Int), .int .i64 (t : Int), .int .i64 0]) → FindR l i w e W) := Lib.hid (fun W e h he2 => ⟨f, t, 0, he2, h, by
        have h3 : t ≤ l.length := he.le
        have h4 : (f : Int) ≤ i ∧ i < (t : Int) := hin
        rw [if_neg (by rw [HE.out]; decide), if_neg (by omega)]
        exact ⟨rfl, f, t, rvs p, rfl, rfl, hb.inv.1, he, hin⟩⟩)
      clear hX
      gi_wp2
      refine ⟨by simp, .inl ⟨_, _, rfl, run_takeDeferred hK, ?_⟩⟩
      have d1 := cell_kept hC.f.cell (grownBy_putObj' _ D (.deferred none)) (fun r e => by cases e; exact ⟨_, hK, rfl⟩)
      have d2 := cell_kept hC.t.cell (grownBy_putObj' _ D (.deferred none)) (fun r e => by cases e; exact ⟨_, hK, rfl⟩)
      have d3 := cell_kept hC.e.cell (grownBy_putObj' _ D (.deferred none)) (fun r e => by cases e; exact ⟨_, hK, rfl⟩)
      refine ⟨.tuple #[.int .i64 (f : Int), .int .i64 (t : Int), .int .i64 0], ?_, HF.out _ _ (hC.bel.trans (belowK_b (w := w) (Nat.le_refl _) _ D _ _ (by omega) hK rfl rfl)) rfl⟩
      simp [results, Try.f24, go_sem, d1, d2, d3]
theorem find_any (A : Option Addr) (c : Nat) (l : List Int) (i : Int) (w : World) (hl : l.length ≤ 1000) (hi : I64L l) (hL : IntR w (.slice A l.length c) l) :
    Calls Try.prog 24 #[.slice A l.length c, .int .i64 i] w (FindR l i w) := callsIn_wide.1 (find_in A c l i w hl hi hL)
end Go.Proofs.Ytggbflogndpnoaa
