/- Normal: the walk. -/
import Derived.Test.YtggbflogndpnoaaMarL
import Derived.Test.YtggbflogndpnoaaTxtR
import Derived.Deep.RegionHeld3
import Derived.OrdersHeld
namespace Go.Proofs.Ytggbflogndpnoaa
open Go.RowKit Go.Shelf Go.Maps
set_option linter.unusedSimpArgs false
set_option linter.unusedVariables false
attribute [local go_sem] Oper.semAt_some
attribute [local simp] wide_fn

theorem but_cell {w w' : World} {X : Nat → Prop} (h : But w w' X) {a : Addr} {x : Value} (hc : w.cell? a = some x) (hn : ¬ X a.block) : w'.cell? a = some x :=
  (World.cell?_of_block (h.block a.block (World.block_lt_of_cell? _ _ hc) hn)).trans hc
/-- what the rounds keep -/
structure NI (l : List Int) (w : World) (M n c : Nat) (A : Option Addr) (pre : List (Rn l)) (W : World) : Prop where
  box : Boxed W w.heap.size insT (.slice A n c)
  row : Row W M (tab (nstP l (rvs pre)).2 n)
  lst : Boxed W (M + 1) insT (.slice (some ⟨M, 0, none⟩) n n)
  cnt : Boxed W (M + 1 + 1) iT (.int .i64 (nstP l (rvs pre)).1)
  bel : Below w.heap.size w W
  sz : M + 4 ≤ W.heap.size
theorem ni_own (l : List Int) (w : World) (M n c : Nat) (A : Option Addr) (B : Nat) (hB : M + 4 ≤ B) (hw : w.heap.size + 1 ≤ M) : OwnFrom B (NI l w M n c A) := by
  intro s X Y row hs hg hr
  have hb : ∀ k, k < B → k < X.heap.size → Y.heap[k]? = X.heap[k]? := fun k h h2 => hg.block k h2 (fun e => by obtain ⟨h3, _⟩ := hr k e.symm; omega)
  exact ⟨(hb _ (by omega) hs.box.lt).trans hs.box, hs.row.kept hg (fun r e => (hr r e).2), (hb _ (by omega) hs.lst.lt).trans hs.lst, (hb _ (by omega) hs.cnt.lt).trans hs.cnt, ownFrom_below (β := Unit) (Nat.le_refl _) (by omega) () X Y row hs.bel hg hr, Nat.le_trans hs.sz hg.size⟩

theorem ni_step {l : List Int} {w : World} {M n c B0 : Nat} {A : Option Addr} {pre : List (Rn l)} {W w3 : World} (x : Rn l) (hw : w.heap.size + 1 ≤ M) (hB0 : B0 = M + 4) (hI : NI l w M n c A pre W) (hx : atP l x.1.1 ≠ 0)
    (hr : Row w3 M (tab (ovP (nstP l (rvs pre)).2 x.1.1 (x.1.2 - x.1.1) ((nstP l (rvs pre)).1 + 1)) n)) (hb : But (W.setCell ⟨M + 1 + 1, 0, none⟩ (.int .i64 ((nstP l (rvs pre)).1 + 1))).drew w3 (fun k => k = M)) :
    KeepsFrom B0 W w3 ∧ KpB w.heap.size (M + 1 + 1 + 1) W w3 ∧ NI l w M n c A (pre ++ [x]) w3 := by
  have e1 : nstP l (rvs (pre ++ [x])) = ((nstP l (rvs pre)).1 + 1, ovP (nstP l (rvs pre)).2 x.1.1 (x.1.2 - x.1.1) ((nstP l (rvs pre)).1 + 1)) := by
    rw [rvs_snoc, nst_snoc]
    unfold nst1
    rw [if_neg hx]
  have hsz := hI.sz
  have hs1 : (W.setCell ⟨M + 1 + 1, 0, none⟩ (.int .i64 ((nstP l (rvs pre)).1 + 1))).drew.heap.size = W.heap.size := by
    show (W.setCell _ _).heap.size = _
    rw [World.size_setCell]
  have hblk : ∀ k, k < W.heap.size → k ≠ M → k ≠ M + 1 + 1 → w3.heap[k]? = W.heap[k]? := fun k h1 h2 h3 => (hb.block k (by rw [hs1]; exact h1) h2).trans ((Below.heap_setCell _ _ _ k h3) : _)
  have hcnt : Boxed w3 (M + 1 + 1) iT (.int .i64 ((nstP l (rvs pre)).1 + 1)) := (hb.block (M + 1 + 1) (by rw [hs1]; omega) (by omega)).trans (hI.cnt.set _)
  have hB : Below w.heap.size W w3 := ((Below.refl w.heap.size W).setCell (p := ⟨M + 1 + 1, 0, none⟩) (by show w.heap.size ≤ M + 1 + 1; omega) _).drew.trans (hb.below (by rw [hs1]; omega) (fun k hk e => by omega))
  have hs3 : W.heap.size ≤ w3.heap.size := by have := hb.size; rw [hs1] at this; exact this
  refine ⟨⟨hs3, fun k o hk ho hc => ?_⟩, ⟨hB, hblk _ (by omega) (by omega) (by omega)⟩, ⟨(hblk _ (by omega) (by omega) (by omega)).trans hI.box, by rw [e1]; exact hr, (hblk _ (by omega) (by omega) (by omega)).trans hI.lst, by rw [e1]; exact hcnt, hI.bel.trans hB, Nat.le_trans hsz hs3⟩⟩
  have hk2 := (Array.getElem?_eq_some_iff.1 ho).1
  exact (hblk k hk2 (by omega) (by omega)).trans ho

set_option maxRecDepth 100000 in
set_option maxHeartbeats 4000000 in
theorem normal_in (A : Option Addr) (c : Nat) (l : List Int) (w : World) (hl : l.length ≤ 1000) (hi : I64L l) (hL : IntR w (.slice A l.length c) l) :
    CallsIn Fence.wide 10 Try.prog 17 #[.slice A l.length c] w (LstR (nrmP l) (chkP l) w) := by
  have KC := Lib.hid (fun W (h : Below w.heap.size w W) => check_any A c l W hl hi (hL.more h))
  have HL := Lib.hid hL
  obtain ⟨n, hn⟩ : ∃ n, n = l.length := ⟨_, rfl⟩
  have HN := Lib.hid hn
  rw [← hn] at hl KC
  rw [← hn]
  clear hL hi hn
  refine callsIn_of_wp_marks Try.func17 rfl trivial ?_ rfl
  simp only [Try.ntmps17, List.size_toArray, List.length_cons, List.length_nil, Nat.reduceAdd, Nat.reduceSub, Array.replicate_succ, Array.replicate_zero, List.push_toArray, List.append_toArray, List.nil_append, List.cons_append]
  obtain ⟨ce, hce⟩ : ∃ ce, ce = chkP l := ⟨_, rfl⟩
  rw [← hce] at KC ⊢
  have hb1 := bel_alloc w (.cells #[.slice A n c] insT)
  have b1 := Boxed.new w insT (.slice A n c)
  by_cases h0 : ce = 0
  rotate_left
  · have HF : Hid (∀ W e, Below w.heap.size w W → e = .returned (.tuple #[.slice none 0 0, .int .i64 ce]) → LstR (nrmP l) ce w e W) := Lib.hid (fun W e h he => lst_err (by unfold nrmP; rw [if_neg (by rw [← hce]; exact h0)]) rfl h he)
    have g0 : (ce != 0) = true := by simpa using h0
    clear hce h0
    gi_wp2_with (gi_at_call 10; refine (callsIn_wide.2 (KC.out _ hb1)).mono ?_; rintro e w2 ⟨rfl, hb2⟩)
    refine ⟨.tuple #[.slice none 0 0, .int .i64 ce], ?_, HF.out _ _ (hb1.trans (hb2.mono hb1.size)) rfl⟩
    simp [results, Try.f17, go_sem]
  · have HE := Lib.hid (hce.symm.trans h0)
    clear hce
    subst h0
    obtain ⟨i0, hi, hz0, hz1, hz2⟩ := info_parts intT
    have HMK := Lib.hid (fun W => run_make_row (P := Try.prog) 22 3 i0 (.int .i64 0) Try.underlying22 hi hz0 hz1 rfl .i64 .i64 n (by rw [hz2]; omega) (by omega) W)
    clear hi hz0 hz1 hz2
    gi_wp2_with (first
      | (gi_at_call 10; refine (callsIn_wide.2 (KC.out _ hb1)).mono ?_; rintro e w2 ⟨rfl, hb2⟩; have b2 := boxed_more b1 hb2; have c2 := b2.cell; have hmk := HMK.out w2; have c3 := bel_cell (bel_alloc _ (.cells #[.int .i64 0] 3)) (bel_cell (bel_alloc _ (.cells #[.slice (some ⟨w2.heap.size, 0, none⟩) n n] 22)) (bel_cell (bel_alloc _ (.cells (madeCells #[.int .i64 0] n) 3)) c2)))
      | (gi_at_call 21; refine (runs_any _ _ _ _).mono ?_; rintro e w' ⟨rfl, rfl⟩))
    obtain ⟨M, hM⟩ : ∃ M, M = w2.heap.size := ⟨_, rfl⟩
    have hwM : w.heap.size + 1 ≤ M := by rw [hM]; have := hb2.size; rw [World.size_alloc] at this; exact this
    obtain ⟨W0, hW0⟩ : ∃ W0, W0 = (((w2.alloc (.cells (madeCells #[.int .i64 0] n) 3)).alloc (.cells #[.slice (some ⟨w2.heap.size, 0, none⟩) n n] 22)).alloc (.cells #[.int .i64 0] 3)).alloc (.cells #[.slice A n c] insT) := ⟨_, rfl⟩
    have hs0 : W0.heap.size = M + 4 := by rw [hW0, hM]; simp
    have hB0 : Below w2.heap.size w2 W0 := by rw [hW0]; exact ((((Below.refl _ w2).alloc (Nat.le_refl _) _).alloc (by simp) _).alloc (by simp; omega) _).alloc (by simp; omega) _
    have hNI : NI l w M n c A [] W0 := by
      refine ⟨boxed_more b2 hB0, ?_, ?_, ?_, hb1.trans ((hb2.trans (hB0.mono hb2.size)).mono hb1.size), by omega⟩
      · rw [hW0, hM]
        have h := (((Row.made w2 n 3).alloc (.cells #[.slice (some ⟨w2.heap.size, 0, none⟩) n n] 22)).alloc (.cells #[.int .i64 0] 3)).alloc (.cells #[.slice A n c] insT)
        rw [← tab_zero n (fun _ => 0)] at h
        exact h
      · rw [hW0, hM]
        have h := ((Boxed.new (w2.alloc (.cells (madeCells #[.int .i64 0] n) 3)) insT (.slice (some ⟨w2.heap.size, 0, none⟩) n n)).alloc (.cells #[.int .i64 0] 3)).alloc (.cells #[.slice A n c] insT)
        rw [World.size_alloc] at h
        exact h
      · rw [hW0, hM]
        have h := (Boxed.new ((w2.alloc (.cells (madeCells #[.int .i64 0] n) 3)).alloc (.cells #[.slice (some ⟨w2.heap.size, 0, none⟩) n n] 22)) iT (.int .i64 0)).alloc (.cells #[.slice A n c] insT)
        simp only [World.size_alloc] at h
        exact h
    have b5 : Boxed W0 (M + 1 + 1 + 1) insT (.slice A n c) := by
      rw [hW0, hM]
      have h := Boxed.new (((w2.alloc (.cells (madeCells #[.int .i64 0] n) 3)).alloc (.cells #[.slice (some ⟨w2.heap.size, 0, none⟩) n n] 22)).alloc (.cells #[.int .i64 0] 3)) insT (.slice A n c)
      simp only [World.size_alloc] at h
      exact h
    have hIB : InB w.heap.size W0 A l := (inB_of HL.out).more hNI.bel
    rw [show (((w2.alloc (.cells (madeCells #[.int .i64 0] n) 3)).alloc (.cells #[.slice (some ⟨w2.heap.size, 0, none⟩) n n] 22)).alloc (.cells #[.int .i64 0] 3)).alloc (.cells #[.slice A n c] insT) = W0 from hW0.symm, ← hM]
    clear hW0 KC hb2 hM hmk HMK c2 c3 b1 b2 hb1 hB0
    refine wpIn_rangeFunc_ownG rfl (by omega) (gf := 29) (lb := #[.pointer (some ⟨M + 1 + 1 + 1, 0, none⟩)]) rfl trivial (enters_of Try.func29 (by kernel_rfl) rfl)
      (runs_stops (M + 1 + 1 + 1) w.heap.size A c l (by have := HN.out; omega) W0 (by omega) (by rw [← HN.out]; exact b5) hIB) kp_t (kp_b (by omega) (by omega)) (Below.refl _ _) (fun _ => rfl)
      (NI l w M n c A) (fun _ _ _ => False) (ni_own l w M n c A _ (by omega) hwM) (fun _ _ _ _ _ hs _ _ => hs) hNI
      (fun x => { tmps := #[.slice A n c, .pointer (some ⟨w.heap.size, 0, none⟩), .slice none 0 0, .int .i64 0, .int .i64 0, .pointer (some ⟨M + 1, 0, none⟩), .pointer (some ⟨M + 1 + 1, 0, none⟩), .int .i64 (x.1.1 : Int), .int .i64 (x.1.2 : Int), .slice A n c, .int .i64 0, .int .i64 0, .bool false, undef, .slice A n c, .int .i64 (n : Int), .slice (some ⟨M, 0, none⟩) n n, .slice A n c, .func (.func 29) #[] #[.pointer (some ⟨M + 1 + 1 + 1, 0, none⟩)], .int .i64 (x.1.1 : Int), .int .i64 (x.1.2 : Int), undef, undef, undef, undef, undef, undef, undef, undef, undef, undef, undef, undef, undef, undef], defers := [] }) ?assign ?body ?done ?stop
    case assign =>
      intro lp x W K hK
      dsimp only [encR]
      rw [zip_two]
      gi_wp2
      exact hK
    case body =>
      rintro lp pre ⟨⟨f, t⟩, he⟩ W hI hlt
      dsimp only
      have het : f < t := he.lt
      have hel : t ≤ n := by have : t ≤ l.length := he.le; have := HN.out; omega
      obtain ⟨b, o, rfl, hc⟩ := int_at (HL.out.more hI.bel) (k := f) (atP_get (by have := HN.out; omega))
      obtain ⟨x, hx⟩ : ∃ x, x = atP l f := ⟨_, rfl⟩
      rw [← hx] at hc
      have r0 := hI.box.cell
      have i1 : (f : Int) < (n : Int) := by omega
      have i2 : (0 : Int) ≤ (f : Int) := by omega
      by_cases hz : x = 0
      · have HZ : Hid (NI l w M n c (some ⟨b, o, none⟩) (pre ++ [⟨(f, t), he⟩]) W) := Lib.hid (by
          have e : nstP l (rvs (pre ++ [(⟨(f, t), he⟩ : Rn l)])) = nstP l (rvs pre) := by
            rw [rvs_snoc, nst_snoc]
            unfold nst1
            rw [if_pos (by rw [← hx]; exact hz)]
          exact ⟨hI.box, by rw [e]; exact hI.row, hI.lst, by rw [e]; exact hI.cnt, hI.bel, hI.sz⟩)
        clear hx
        subst hz
        clear hI hIB
        gi_wp2
        exact ⟨KeepsFrom.refl _ _, ⟨Below.refl _ _, rfl⟩, HZ.out⟩
      · have e0 : (x == 0) = false := beq_eq_false_iff_ne.2 hz
        have h0 : decide (x = 0) = false := decide_eq_false hz
        have hq := nst_in l (rvs pre)
        rw [rvs_len] at hq
        have HST : Hid (∀ w3, Row w3 M (tab (ovP (nstP l (rvs pre)).2 f (t - f) ((nstP l (rvs pre)).1 + 1)) n) → But (W.setCell ⟨M + 1 + 1, 0, none⟩ (.int .i64 ((nstP l (rvs pre)).1 + 1))).drew w3 (fun k => k = M) → KeepsFrom W0.heap.size W w3 ∧ KpB w.heap.size (M + 1 + 1 + 1) W w3 ∧ NI l w M n c (some ⟨b, o, none⟩) (pre ++ [⟨(f, t), he⟩]) w3) := Lib.hid (fun w3 hr hb => ni_step ⟨(f, t), he⟩ hwM hs0 hI (by show atP l f ≠ 0; rw [← hx]; exact hz) hr hb)
        have d5 := hI.cnt.cell
        have f5 := hI.cnt.frozen
        have hcs := hI.cnt.set (.int .i64 ((nstP l (rvs pre)).1 + 1))
        have hls := hI.lst.other (show M + 1 ≠ M + 1 + 1 by omega) (.int .i64 ((nstP l (rvs pre)).1 + 1))
        have KF := Lib.hid (fill_any M f (t - f) (n - f) n (nstP l (rvs pre)).2 ((nstP l (rvs pre)).1 + 1) (W.setCell ⟨M + 1 + 1, 0, none⟩ (.int .i64 ((nstP l (rvs pre)).1 + 1))).drew ((hI.row.other (show M + 1 + 1 ≠ M by omega) 0 _).drew) (by omega) hl)
        generalize (nstP l (rvs pre)).1 = q at *
        have w1 : IntKind.i64.wrap (q + 1) = q + 1 := IntWalk.i64_in _ (by omega)
        have j0 : ¬ n = f := by omega
        have j1 : (f : Int) ≤ (t : Int) := by omega
        have j2 : (t : Int) ≤ (n : Int) := by omega
        have j3 : (0 : Int) ≤ (t : Int) := by omega
        have hS0 : (W.setCell ⟨M + 1 + 1, 0, none⟩ (.int .i64 (q + 1))).drew.cell? ⟨M + 1, 0, none⟩ = some (.slice (some ⟨M, 0, none⟩) n n) ∧ (W.setCell ⟨M + 1 + 1, 0, none⟩ (.int .i64 (q + 1))).drew.cell? ⟨M + 1 + 1, 0, none⟩ = some (.int .i64 (q + 1)) := ⟨hls.cell, hcs.cell⟩
        have F0 : Hid (∀ W' : World, (W'.cell? ⟨M + 1, 0, none⟩ = some (.slice (some ⟨M, 0, none⟩) n n) ∧ W'.cell? ⟨M + 1 + 1, 0, none⟩ = some (.int .i64 (q + 1))) → W'.cell? ⟨M + 1, 0, none⟩ = some (.slice (some ⟨M, 0, none⟩) n n)) := Lib.hid (fun _ h => h.1)
        have F1 : Hid (∀ W' : World, (W'.cell? ⟨M + 1, 0, none⟩ = some (.slice (some ⟨M, 0, none⟩) n n) ∧ W'.cell? ⟨M + 1 + 1, 0, none⟩ = some (.int .i64 (q + 1))) → W'.cell? ⟨M + 1 + 1, 0, none⟩ = some (.int .i64 (q + 1))) := Lib.hid (fun _ h => h.2)
        clear hI hIB hx hz hcs hls
        gi_wp2
        generalize W.setCell ⟨M + 1 + 1, 0, none⟩ (.int .i64 (q + 1)) = W1 at *
        have hS : (fun (W' : World) => W'.cell? ⟨M + 1, 0, none⟩ = some (.slice (some ⟨M, 0, none⟩) n n) ∧ W'.cell? ⟨M + 1 + 1, 0, none⟩ = some (.int .i64 (q + 1))) _ := hS0
        refine region_round (S := fun (W' : World) => W'.cell? ⟨M + 1, 0, none⟩ = some (.slice (some ⟨M, 0, none⟩) n n) ∧ W'.cell? ⟨M + 1 + 1, 0, none⟩ = some (.int .i64 (q + 1))) (by kernel_rfl) (by kernel_rfl) hS (fun _ => ?_)
        refine wpAnyH_take (i := 0) (v := ?vN0) rfl (by kernel_rfl) (by kernel_rfl) (by kernel_rfl) (fun _ _ _ h => h) (Or.inl ⟨by rfl, ?hyN0⟩) hS ?restN0
        case hyN0 =>
          intro w hSw
          have k0 := F0.out w hSw; have k1 := F1.out w hSw
          first | (go_simp; done) | (go_simp; with_reducible rfl)
        try simp only [Act.put, List.setIfInBounds_toArray, List.set_cons_zero, List.set_cons_succ]
        refine wpAnyH_take (i := 1) (v := ?vN1) rfl (by kernel_rfl) (by kernel_rfl) (by kernel_rfl) (fun _ _ _ h => h) (Or.inl ⟨by rfl, ?hyN1⟩) hS ?restN1
        case hyN1 =>
          intro w hSw
          first | (go_simp; done) | (go_simp; with_reducible rfl)
        try simp only [Act.put, List.setIfInBounds_toArray, List.set_cons_zero, List.set_cons_succ]
        refine wpAnyH_take (i := 2) (v := ?vN2) rfl (by kernel_rfl) (by kernel_rfl) (by kernel_rfl) (fun _ _ _ h => h) (Or.inl ⟨by rfl, ?hyN2⟩) hS ?restN2
        case hyN2 =>
          intro w hSw
          first | (go_simp; done) | (go_simp; with_reducible rfl)
        try simp only [Act.put, List.setIfInBounds_toArray, List.set_cons_zero, List.set_cons_succ]
        refine wpAnyH_take (i := 3) (v := ?vN3) rfl (by kernel_rfl) (by kernel_rfl) (by kernel_rfl) (fun _ _ _ h => h) (Or.inl ⟨by rfl, ?hyN3⟩) hS ?restN3
        case hyN3 =>
          intro w hSw
          first | (go_simp; done) | (go_simp; with_reducible rfl)
        try simp only [Act.put, List.setIfInBounds_toArray, List.set_cons_zero, List.set_cons_succ]
        refine wpAnyH_take (i := 4) (v := ?vN4) rfl (by kernel_rfl) (by kernel_rfl) (by kernel_rfl) (fun _ _ _ h => h) (Or.inl ⟨by rfl, ?hyN4⟩) hS ?restN4
        case hyN4 =>
          intro w hSw
          have k0 := F0.out w hSw; have k1 := F1.out w hSw
          first | (go_simp; done) | (go_simp; with_reducible rfl)
        try simp only [Act.put, List.setIfInBounds_toArray, List.set_cons_zero, List.set_cons_succ]
        refine wpAnyH_ready (rs := [5]) (by kernel_rfl) (by simp) ?_
        refine AllReadyH.cons rfl (fun K hK => ?_) AllReadyH.nil
        go_simp
        go_wp2_with (go_at_call 26; (with_reducible refine KF.out.mono ?_); rintro e w3 ⟨⟨v, rfl⟩, hr3, hb3⟩; have hS : w3.cell? ⟨M + 1, 0, none⟩ = some (.slice (some ⟨M, 0, none⟩) n n) ∧ w3.cell? ⟨M + 1 + 1, 0, none⟩ = some (.int .i64 (q + 1)) := ⟨(but_cell hb3 hS0.1 (by show ¬ (M + 1 = M); omega)), (but_cell hb3 hS0.2 (by show ¬ (M + 1 + 1 = M); omega))⟩)
        refine hK.out _ _ hS (fun _ => ?_)
        clear hK K
        refine wpAnyH_done (by kernel_rfl) ?_ _
        try simp only [List.getElem_toArray, List.getElem_cons_succ, List.getElem_cons_zero, List.set_cons_zero, List.set_cons_succ]
        refine ⟨rfl, ?_⟩
        gi_wp2
        exact HST.out _ hr3 hb3
    case done =>
      rintro D ys W hD hys hI hK
      have c0 := hI.lst.cell
      have HF : Hid (LstR (nrmP l) 0 w (.returned (.tuple #[.slice (some ⟨M, 0, none⟩) n n, .int .i64 0])) (W.putObj D (.deferred none))) := Lib.hid ⟨_, rfl, by
        have h := (hI.row.kept (grownBy_putObj' _ D (.deferred none)) (fun r e => by cases e; exact ⟨_, hK, rfl⟩)).intR (c := n)
        rw [tab_len] at h
        rw [← nst_all HE.out hys, ← HN.out]
        exact h, hI.bel.trans (belowK_b (w := w) (Nat.le_refl _) W D _ _ (by omega) hK rfl rfl)⟩
      clear hI
      gi_wp2
      refine ⟨by simp, .inl ⟨_, _, rfl, run_takeDeferred hK, ?_⟩⟩
      refine ⟨.tuple #[.slice (some ⟨M, 0, none⟩) n n, .int .i64 0], ?_, HF.out⟩
      simp [results, Try.f17, go_sem]
    case stop =>
      rintro D cd pre W hD _ hX hK
      exact hX.elim
theorem normal_any (A : Option Addr) (c : Nat) (l : List Int) (w : World) (hl : l.length ≤ 1000) (hi : I64L l) (hL : IntR w (.slice A l.length c) l) :
    Calls Try.prog 17 #[.slice A l.length c] w (LstR (nrmP l) (chkP l) w) := callsIn_wide.1 (normal_in A c l w hl hi hL)
end Go.Proofs.Ytggbflogndpnoaa
