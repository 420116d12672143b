/- Walks of Meet, beside the reference's. -/
import Derived.Test.YtnfdmdhpbaifiaaPerH
namespace Go.Proofs.Ytnfdmdhpbaifiaa
open Go.RowKit
set_option linter.unusedSimpArgs false
set_option linter.unusedVariables false

abbrev b64 (x : Int) : Prop := -9223372036854775808 ≤ x ∧ x ≤ 9223372036854775807
abbrev b643 (p : Per) : Prop := b64 p.1 ∧ b64 p.2.1 ∧ b64 p.2.2
theorem mt_no1 {a b : Per} (h : okQ a = false) : mtQ a b = [] := by simp [mtQ, h]
theorem mt_no2 {a b : Per} (h : okQ b = false) : mtQ a b = [] := by simp [mtQ, h]
theorem mt_yes {a b : Per} (h : okQ a = true) (h2 : okQ b = true) : mtQ a b = daysQ (meetQ a b) := by simp [mtQ, h, h2]
theorem and_meet {a b : Per} (h : okQ a = true) (h2 : okQ b = true) : bits .and .i64 a.2.2 b.2.2 = (meetQ a b).2.2 := by
  have h := okQ_yes h
  have h2 := okQ_yes h2
  have e1 : ((a.2.2.toNat : Nat) : Int) = a.2.2 := by omega
  have e2 : ((b.2.2.toNat : Nat) : Int) = b.2.2 := by omega
  have h3 := and7 a.2.2.toNat b.2.2.toNat (by omega) (by omega)
  rw [e1, e2] at h3
  exact h3
theorem andNot_dur {a b : Per} (h : okQ a = true) (h2 : okQ b = true) : bits .andNot .i64 a.2.2 b.2.2 = (durQ a b).2.2 := by
  have h := okQ_yes h
  have h2 := okQ_yes h2
  have e1 : ((a.2.2.toNat : Nat) : Int) = a.2.2 := by omega
  have e2 : ((b.2.2.toNat : Nat) : Int) = b.2.2 := by omega
  have h3 := not7 a.2.2.toNat b.2.2.toNat (by omega) (by omega)
  rw [e1, e2] at h3
  exact h3
theorem box_first (w : World) (p : Per) (o : Obj) : BoxAt ((w.alloc (.cells #[.int .i64 p.1, .int .i64 p.2.1, .int .i64 p.2.2] perT)).alloc o) w.heap.size p :=
  BoxAt.more (heap_alloc_new w _) (bel_alloc _ _)
theorem box_third (w : World) (o o' : Obj) (p : Per) : BoxAt (((w.alloc o).alloc o').alloc (.cells #[.int .i64 p.1, .int .i64 p.2.1, .int .i64 p.2.2] perT)) (w.heap.size + 1 + 1) p := by
  have h := heap_alloc_new ((w.alloc o).alloc o') (.cells #[.int .i64 p.1, .int .i64 p.2.1, .int .i64 p.2.2] perT)
  rw [World.size_alloc, World.size_alloc] at h
  exact h

set_option maxRecDepth 100000 in
set_option maxHeartbeats 2000000 in
theorem meet_any (a b : Per) (w : World) : Calls Try.prog 20 #[encQ a, encQ b] w fun e W' => e = .returned (.tuple #[encQ (ofQ (mtQ a b)).1, .bool (ofQ (mtQ a b)).2]) ∧ Below w.heap.size w W' := by
  have CA := Lib.hid (fun W => isValid_any a.1 a.2.1 a.2.2 W)
  have CB := Lib.hid (fun W => isValid_any b.1 b.2.1 b.2.2 W)
  have hbA := (box_first w a (.cells #[.int .i64 b.1, .int .i64 b.2.1, .int .i64 b.2.2] perT)).more (bel_alloc _ (.cells #[.int .i64 0, .int .i64 0, .int .i64 0] perT))
  have hbB := (box_second w (.cells #[.int .i64 a.1, .int .i64 a.2.1, .int .i64 a.2.2] perT) b).more (bel_alloc _ (.cells #[.int .i64 0, .int .i64 0, .int .i64 0] perT))
  have hbR := box_third w (.cells #[.int .i64 a.1, .int .i64 a.2.1, .int .i64 a.2.2] perT) (.cells #[.int .i64 b.1, .int .i64 b.2.1, .int .i64 b.2.2] perT) (0, 0, 0)
  have hb0 : Below w.heap.size w (((w.alloc (.cells #[.int .i64 a.1, .int .i64 a.2.1, .int .i64 a.2.2] perT)).alloc (.cells #[.int .i64 b.1, .int .i64 b.2.1, .int .i64 b.2.2] perT)).alloc (.cells #[.int .i64 0, .int .i64 0, .int .i64 0] perT)) := ((bel_alloc w _).alloc (by simp) _).alloc (by simp; omega) _
  cases ha : okQ a
  · have HR : Hid (ofQ (mtQ a b) = ((0, 0, 0), false)) := Lib.hid (by rw [mt_no1 ha]; rfl)
    rw [show okQ (a.1, a.2.1, a.2.2) = false from ha] at CA
    go_enter Try.func20, Try.ntmps20
    go_wp2_with (go_at_call 25; refine (CA.out _).mono ?_; rintro e w1 ⟨rfl, hb⟩; have hR2 := hbR.more hb; have c0 := hR2.cell.1; have c1 := hR2.cell.2.1; have c2 := hR2.cell.2.2; have f0 := hR2.frozen 0; have f1 := hR2.frozen 1; have f2 := hR2.frozen 2)
    obtain ⟨h1, h2⟩ := hR2.result (0, 0, 0) (by omega) (hb0.trans (hb.mono (by simp; omega)))
    obtain ⟨d0, d1, d2⟩ := h1.cell
    refine bodyPost_ret (v := .tuple #[encQ (0, 0, 0), .bool false]) ?_ rfl ⟨by rw [HR.out], h2⟩
    simp [results, Try.results20, go_sem, d0, d1, d2]
  rw [show okQ (a.1, a.2.1, a.2.2) = true from ha] at CA
  cases hb' : okQ b
  · have HR : Hid (ofQ (mtQ a b) = ((0, 0, 0), false)) := Lib.hid (by rw [mt_no2 hb']; rfl)
    rw [show okQ (b.1, b.2.1, b.2.2) = false from hb'] at CB
    go_enter Try.func20, Try.ntmps20
    go_wp2_with (go_at_call 25; first | (with_reducible refine (CA.out _).mono ?_; rintro e w1 ⟨rfl, hb⟩; have hB1 := hbB.more hb; have b0 := hB1.cell.1; have b1 := hB1.cell.2.1; have b2 := hB1.cell.2.2) | (with_reducible refine (CB.out _).mono ?_; rintro e w2 ⟨rfl, hb2⟩; have hR2 := (hbR.more hb).more hb2; have c0 := hR2.cell.1; have c1 := hR2.cell.2.1; have c2 := hR2.cell.2.2; have f0 := hR2.frozen 0; have f1 := hR2.frozen 1; have f2 := hR2.frozen 2))
    obtain ⟨h1, h2⟩ := hR2.result (0, 0, 0) (by omega) ((hb0.trans (hb.mono (by simp; omega))).trans (hb2.mono (Nat.le_trans (by simp; omega) hb.size)))
    obtain ⟨d0, d1, d2⟩ := h1.cell
    refine bodyPost_ret (v := .tuple #[encQ (0, 0, 0), .bool false]) ?_ rfl ⟨by rw [HR.out], h2⟩
    simp [results, Try.results20, go_sem, d0, d1, d2]
  · rw [show okQ (b.1, b.2.1, b.2.2) = true from hb'] at CB
    have CT : Hid (∀ W, Calls Try.prog 32 #[encQ a, .int .i64 b.1, .int .i64 b.2.1] W fun e w' => e = .returned (.agg #[.int .i64 (btw a b.1 b.2.1).1, .int .i64 (btw a b.1 b.2.1).2.1, .int .i64 a.2.2]) ∧ Below W.heap.size W w') := Lib.hid (fun W => between_any a.1 a.2.1 a.2.2 b.1 b.2.1 W)
    have CN : Hid (∀ W, Calls Try.prog 18 #[.agg #[.int .i64 (btw a b.1 b.2.1).1, .int .i64 (btw a b.1 b.2.1).2.1, .int .i64 (bits .and .i64 a.2.2 b.2.2)]] W fun e W' => e = .returned (.tuple #[encQ (ofQ (mtQ a b)).1, .bool (ofQ (mtQ a b)).2]) ∧ Below W.heap.size W W') :=
      Lib.hid (fun W => by have h := normal_any (meetQ a b) W; rw [← mt_yes ha hb'] at h; rw [and_meet ha hb']; exact h)
    generalize (ofQ (mtQ a b)).1 = q at *
    generalize (ofQ (mtQ a b)).2 = z at *
    generalize (btw a b.1 b.2.1).1 = x at *
    generalize (btw a b.1 b.2.1).2.1 = y at *
    go_enter Try.func20, Try.ntmps20
    go_wp2_with (first
      | (go_at_call 25; first | (with_reducible refine (CA.out _).mono ?_; rintro e w1 ⟨rfl, hb⟩; have hB1 := hbB.more hb; have b0 := hB1.cell.1; have b1 := hB1.cell.2.1; have b2 := hB1.cell.2.2) | (with_reducible refine (CB.out _).mono ?_; rintro e w2 ⟨rfl, hb2⟩; have hA2 := (hbA.more hb).more hb2; have a0 := hA2.cell.1; have a1 := hA2.cell.2.1; have a2 := hA2.cell.2.2; have hB2 := (hbB.more hb).more hb2; have b0' := hB2.cell.1; have b1' := hB2.cell.2.1; have b2' := hB2.cell.2.2))
      | (go_at_call 32; refine (CT.out _).mono ?_; rintro e w3 ⟨rfl, hb3⟩; have hB3 := (hB2.more hb3).more (bel_alloc w3 (.cells #[.int .i64 x, .int .i64 y, .int .i64 a.2.2] perT)); have b2'' := hB3.cell.2.2)
      | (go_at_call 18; refine (CN.out _).mono ?_; rintro e w4 ⟨rfl, hb4⟩; have hR4 := ((((hbR.more hb).more hb2).more hb3).more (bel_alloc w3 _)).more hb4; have c0 := hR4.cell.1; have c1 := hR4.cell.2.1; have c2 := hR4.cell.2.2; have f0 := hR4.frozen 0; have f1 := hR4.frozen 1; have f2 := hR4.frozen 2))
    have hs1 : Below w.heap.size w w1 := hb0.trans (hb.mono (by simp; omega))
    have hs2 := hs1.trans (hb2.mono hs1.size)
    have hs3 := hs2.trans (hb3.mono hs2.size)
    have hs4 := (hs3.alloc hs3.size _).trans (hb4.mono (by have := hs3.size; simp; omega))
    obtain ⟨h1, h2⟩ := hR4.result q (by omega) hs4
    obtain ⟨d0, d1, d2⟩ := h1.cell
    refine bodyPost_ret (v := .tuple #[encQ q, .bool z]) ?_ rfl ⟨rfl, h2⟩
    simp [results, Try.results20, go_sem, d0, d1, d2]

/-! ### the reference's -/
theorem filter_take (l : List Int) (q : Int → Bool) (k : Nat) (h : k < l.length) : (l.take (k + 1)).filter q = if q l[k] then (l.take k).filter q ++ [l[k]] else (l.take k).filter q := by
  rw [List.take_succ_eq_append_getElem h, List.filter_append]
  cases hq : q l[k] <;> simp [hq]
theorem filter_short (l : List Int) (q : Int → Bool) (k : Nat) : ((l.take k).filter q).length ≤ l.length := Nat.le_trans (List.length_filter_le _ _) (by simp; omega)
set_option maxRecDepth 100000 in
set_option maxHeartbeats 4000000 in
theorem rmeet_any (a b : Per) (w : World) (ha : b643 a) : Calls Try.prog 21 #[encQ a, encQ b] w fun e W' => e = .returned (.tuple #[encQ (ofQ (mtQ a b)).1, .bool (ofQ (mtQ a b)).2]) ∧ Below w.heap.size w W' := by
  have CD := Lib.hid (fun W => rdays_any a.1 a.2.1 a.2.2 W ha.1.1 ha.1.2)
  have HM := Lib.hid (mtQ_filter a b)
  have hl := daysQ_len a
  have hr := daysQ_range a
  rw [show daysQ (a.1, a.2.1, a.2.2) = daysQ a from rfl] at CD
  generalize daysQ a = l at *
  have CO : Hid (∀ v W, IntL W v (l.filter fun n => hasQ b n) → _) := Lib.hid (fun v W hv => rof_any v (l.filter fun n => hasQ b n) W hv (Nat.le_trans (List.length_filter_le _ _) (by omega)) (fun n hn => hr n (List.mem_filter.1 hn).1))
  rw [HM.out] at CO
  have hbB := (box_second w (.cells #[.int .i64 a.1, .int .i64 a.2.1, .int .i64 a.2.2] perT) b).more (bel_alloc _ (.cells #[.int .i64 0, .int .i64 0, .int .i64 0] perT))
  have hbR := box_third w (.cells #[.int .i64 a.1, .int .i64 a.2.1, .int .i64 a.2.2] perT) (.cells #[.int .i64 b.1, .int .i64 b.2.1, .int .i64 b.2.2] perT) (0, 0, 0)
  have hb0 : Below w.heap.size w (((w.alloc (.cells #[.int .i64 a.1, .int .i64 a.2.1, .int .i64 a.2.2] perT)).alloc (.cells #[.int .i64 b.1, .int .i64 b.2.1, .int .i64 b.2.2] perT)).alloc (.cells #[.int .i64 0, .int .i64 0, .int .i64 0] perT)) := ((bel_alloc w _).alloc (by simp) _).alloc (by simp; omega) _
  generalize (ofQ (mtQ a b)).1 = q at *
  generalize (ofQ (mtQ a b)).2 = z at *
  go_enter Try.func21, Try.ntmps21
  go_wp2_with (go_at_call 14; refine (CD.out _).mono ?_; rintro e w1 ⟨v, rfl, hL, hb⟩; have hB1 := hbB.more hb; have hR1 := hbR.more hb; have hs1 : Below w.heap.size w w1 := hb0.trans (hb.mono (by simp; omega)); clear hb; obtain ⟨A, c, rfl, hc⟩ := hL)
  clear hb0 hbB hbR CD
  go_loopw [7, 8] (fun vo vi wr => ∃ k : Nat, k ≤ l.length ∧ vi = .int .i64 k ∧ IOwn 3 w1.heap.size wr vo ((l.take k).filter fun n => hasQ b n) ∧ Below w1.heap.size w1 wr) (fun _ vi _ => l.length - (intOf vi).toNat)
  case atStart => exact ⟨0, Nat.zero_le _, rfl, IOwn.nil (Nat.le_refl _), Below.refl _ _⟩
  case round =>
    obtain ⟨k, hk, rfl, hO, hb⟩ := hrel
    by_cases hlt : k < l.length
    · obtain ⟨g, o, rfl, hgl, hcc⟩ : ∃ b o, A = some ⟨b, o, none⟩ ∧ b < w1.heap.size ∧ ∀ i (h : i < l.length), w1.cell? ⟨b, o + i, none⟩ = some (.int .i64 l[i]) := by
        rcases hc with h | h
        · rw [h] at hlt; simp at hlt
        · exact h
      have g0 := hcc k hlt
      have i1 : (k : Int) < (l.length : Int) := by omega
      have HF := Lib.hid (filter_take l (fun n => hasQ b n) k hlt)
      have hsh := filter_short l (fun n => hasQ b n) k
      have hx := hr l[k] (List.getElem_mem hlt)
      clear hcc hc
      generalize l[k] = n at *
      have hBr := hB1.more hb
      have g1 : wr.cell? ⟨g, o + k, none⟩ = some (.int .i64 n) := (hb.cell (p := ⟨g, o + k, none⟩) hgl).trans g0
      have hgl2 : g < wr.heap.size := Nat.lt_of_lt_of_le hgl hb.size
      have hS0 : Below wr.heap.size wr wr.drew := (Below.refl _ _).drew
      have CH := Lib.hid (fun (x : World) (hx2 : Below wr.heap.size wr x) => bel_acc (w := wr) (rhas_any b.1 b.2.1 b.2.2 n x (by omega) (by omega)) hx2)
      have k0 : ∀ x : Wd (Below wr.heap.size wr), x.w.cell? ⟨w.heap.size + 1, 0, none⟩ = some (.int .i64 b.1) := fun x => (hBr.more x.ok).cell.1
      have k1 : ∀ x : Wd (Below wr.heap.size wr), x.w.cell? ⟨w.heap.size + 1, 1, none⟩ = some (.int .i64 b.2.1) := fun x => (hBr.more x.ok).cell.2.1
      have k2 : ∀ x : Wd (Below wr.heap.size wr), x.w.cell? ⟨w.heap.size + 1, 2, none⟩ = some (.int .i64 b.2.2) := fun x => (hBr.more x.ok).cell.2.2
      have k3 : ∀ x : Wd (Below wr.heap.size wr), x.w.cell? ⟨g, o + k, none⟩ = some (.int .i64 n) := fun x => (x.ok.cell (p := ⟨g, o + k, none⟩) hgl2).trans g1
      cases hh : hasQ b n
      · rw [show hasQ (b.1, b.2.1, b.2.2) n = false from hh] at CH
        rw [hh, if_neg (by simp)] at HF
        clear hh
        go_wp2
        have hNe : Nonempty (Wd (Below wr.heap.size wr)) := ⟨⟨_, hS0⟩⟩
        refine quietS (S := Below wr.heap.size wr) (by kernel_rfl) (by kernel_rfl) (hS0) ?_
        repeat (first | go_big_quiet_skip | (go_big_quiet_want; go_big_quiet_op; first | go_big_quiet_on | go_big_quiet_call ((go_at_call 11; exact quiet_S (CH.out _ (Wd.ok _))))))
        refine wpQuiet_nil ?_
        rintro W ⟨⟨_, hW⟩, rfl⟩
        go_wp2
        go_roundw
        case rel => exact ⟨k + 1, by omega, by go_num, by rw [HF.out]; exact hO.more hW, hb.trans (hW.mono hb.size)⟩
        case measure => simp [intOf]; omega
      · rw [show hasQ (b.1, b.2.1, b.2.2) n = true from hh] at CH
        rw [hh, if_pos rfl] at HF
        clear hh
        go_wp2
        have hNe : Nonempty (Wd (Below wr.heap.size wr)) := ⟨⟨_, hS0⟩⟩
        refine quietS (S := Below wr.heap.size wr) (by kernel_rfl) (by kernel_rfl) (hS0) ?_
        repeat (first | go_big_quiet_skip | (go_big_quiet_want; go_big_quiet_op; first | go_big_quiet_on | go_big_quiet_call ((go_at_call 11; exact quiet_S (CH.out _ (Wd.ok _))))))
        refine wpQuiet_nil ?_
        rintro W ⟨⟨_, hW⟩, rfl⟩
        have g2 : W.cell? ⟨g, o + k, none⟩ = some (.int .i64 n) := (hW.cell (p := ⟨g, o + k, none⟩) hgl2).trans g1
        have hOW := hO.more hW
        go_wp2_with (refine wpList_iapp rfl _ _ rfl _ ((l.take k).filter fun n => hasQ b n) rfl (hOW.alloc _) _ n 1 rfl (heap_alloc_new _ _) (by omega) ?_; intro v' w4 hO4 hb4)
        go_roundw
        case rel => exact ⟨k + 1, by omega, by go_num, by rw [HF.out]; exact hO4, (hb.trans (hW.mono hb.size)).trans (((Below.refl _ W).alloc (Nat.le_trans hb.size hW.size) _).trans hb4)⟩
        case measure => simp [intOf]; omega
    · rw [List.take_of_length_le (by omega), HM.out] at hO
      have hRr := hR1.more hb
      go_wp2_with (go_at_call 31; refine (CO.out _ _ (.of_own hO.own)).mono ?_; rintro e w2 ⟨rfl, hb2⟩; have hR2 := hRr.more hb2; have c0 := hR2.cell.1; have c1 := hR2.cell.2.1; have c2 := hR2.cell.2.2; have f0 := hR2.frozen 0; have f1 := hR2.frozen 1; have f2 := hR2.frozen 2)
      have hsr := hs1.trans (hb.mono hs1.size)
      obtain ⟨h1, h2⟩ := hR2.result q (by omega) (hsr.trans (hb2.mono hsr.size))
      obtain ⟨d0, d1, d2⟩ := h1.cell
      refine bodyPost_ret (v := .tuple #[encQ q, .bool z]) ?_ rfl ⟨rfl, h2⟩
      simp [results, Try.results21, go_sem, d0, d1, d2]

end Go.Proofs.Ytnfdmdhpbaifiaa
