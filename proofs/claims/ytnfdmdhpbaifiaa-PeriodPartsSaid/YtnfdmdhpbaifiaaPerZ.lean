/- Walk of the law on the parts of a period. -/
import Derived.Test.YtnfdmdhpbaifiaaPerY
namespace Go.Proofs.Ytnfdmdhpbaifiaa
open Go.RowKit
set_option linter.unusedSimpArgs false
set_option linter.unusedVariables false

theorem cntQ_step (l : List Per) (n : Int) (k : Nat) (h : k < l.length) : cntQ (l.take (k + 1)) n = cntQ (l.take k) n + if hasQ l[k] n then 1 else 0 := by
  unfold cntQ
  rw [List.take_succ_eq_append_getElem h, List.filter_append, List.length_append]
  cases hq : hasQ l[k] n <;> simp [hq]
theorem cntQ_le (l : List Per) (n : Int) : cntQ l n ≤ l.length := List.length_filter_le _ _

set_option maxRecDepth 100000 in
set_option maxHeartbeats 8000000 in
theorem periodParts_walk (a b : Per) (n : Int) (w : World) (hn : b64 n) :
    Calls Try.prog 5 #[encQ a, encQ b, .int .i64 n] w fun e w' => e = .returned (.bool true) ∧ Below w.heap.size w w' := by
  have C1 := Lib.hid (fun W => meet_any a b W)
  have C2 : Hid (∀ W, Calls Try.prog 10 #[encQ (ofQ (mtQ a b)).1, .int .i64 n] W fun e w' => e = .returned (.bool (hasQ a n && hasQ b n)) ∧ Below W.heap.size W w') := Lib.hid (fun W => by rw [← mt_has a b n]; exact has_any _ _ _ n W hn.1 hn.2)
  have C3 := Lib.hid (fun W => without_any a b W)
  have C4 := Lib.hid (fun W => rhas_any a.1 a.2.1 a.2.2 n W hn.1 hn.2)
  have C5 := Lib.hid (fun W => rhas_any b.1 b.2.1 b.2.2 n W hn.1 hn.2)
  have C6 := Lib.hid (fun W => awake_any W)
  have HN := Lib.hid (with_cnt a b n)
  have hlen := with_len a b
  rw [show hasQ (a.1, a.2.1, a.2.2) n = hasQ a n from rfl] at C4
  rw [show hasQ (b.1, b.2.1, b.2.2) n = hasQ b n from rfl] at C5
  have hbA := box_first w a (.cells #[.int .i64 b.1, .int .i64 b.2.1, .int .i64 b.2.2] perT)
  have hbB := box_second w (.cells #[.int .i64 a.1, .int .i64 a.2.1, .int .i64 a.2.2] perT) b
  have hb0 : Below w.heap.size w ((w.alloc (.cells #[.int .i64 a.1, .int .i64 a.2.1, .int .i64 a.2.2] perT)).alloc (.cells #[.int .i64 b.1, .int .i64 b.2.1, .int .i64 b.2.2] perT)) := (bel_alloc w _).alloc (by simp) _
  generalize (ofQ (mtQ a b)).1 = q at *
  generalize (ofQ (mtQ a b)).2 = z at *
  generalize withQ a b = l at *
  cases ha : hasQ a n
  · cases hb' : hasQ b n
    · rw [ha, hb'] at C2
      rw [ha] at C4
      rw [hb'] at C5
      rw [ha, hb'] at HN
      have HT : Hid (cntQ l n = 0) := Lib.hid (by rw [HN.out]; simp)
      clear HN ha hb'
      go_enter Try.func5, Try.ntmps5
      go_wp2_with (first
        | (go_at_call 20; refine (C1.out _).mono ?_; rintro e w1 ⟨rfl, hb1⟩; have A1 := (hbA.more hb1).more (bel_alloc w1 (.cells #[.int .i64 q.1, .int .i64 q.2.1, .int .i64 q.2.2] perT)); have B1 := (hbB.more hb1).more (bel_alloc w1 (.cells #[.int .i64 q.1, .int .i64 q.2.1, .int .i64 q.2.2] perT)); have N1 : BoxAt (w1.alloc (.cells #[.int .i64 q.1, .int .i64 q.2.1, .int .i64 q.2.2] perT)) w1.heap.size q := heap_alloc_new w1 _)
        | (go_at_call 10; (with_reducible refine (C2.out _).mono ?_; rintro e w2 ⟨rfl, hb2⟩; have A2 := A1.more hb2; have B2 := B1.more hb2; have N2 := N1.more hb2; have y0 := A2.cell.1; have y1 := A2.cell.2.1; have y2 := A2.cell.2.2; have y3 := B2.cell.1; have y4 := B2.cell.2.1; have y5 := B2.cell.2.2))
        | (go_at_call 23; refine (C3.out _).mono ?_; rintro e w3 ⟨v, rfl, hL, hb3⟩; have A3 := A2.more hb3; have B3 := B2.more hb3; have N3 := N2.more hb3; obtain ⟨A, c, rfl, hc⟩ := hL))
      have t1 := below_step hb0 (by simp; omega) hb1 (.cells #[.int .i64 q.1, .int .i64 q.2.1, .int .i64 q.2.2] 23)
      have t2 : Below w.heap.size w w2 := t1.1.trans (hb2.mono t1.2)
      have t3 : Below w.heap.size w w3 := t2.trans (hb3.mono t2.size)
      clear hb0 hb1 hb2 hb3 t1 t2 hbA hbB A1 B1 N1 A2 B2 N2 y0 y1 y2 y3 y4 y5 C1 C3
      generalize w1.heap.size = g at *
      go_loopw [9, 11] (fun vn vi wr => ∃ k : Nat, k ≤ l.length ∧ vi = .int .i64 k ∧ vn = .int .i64 ((0 + cntQ (l.take k) n : Nat) : Int) ∧ Below w3.heap.size w3 wr) (fun _ vi _ => l.length - (intOf vi).toNat)
      case atStart => exact ⟨0, Nat.zero_le _, rfl, by simp [cntQ], Below.refl _ _⟩
      case round =>
        obtain ⟨k, hk, rfl, rfl, hb⟩ := hrel
        by_cases hlt : k < l.length
        · obtain ⟨gl, o, rfl, hgl, hcc⟩ : ∃ b o, A = some ⟨b, o, none⟩ ∧ b < w3.heap.size ∧ ∀ i (h : i < l.length), w3.cell? ⟨b, o + i * 3, none⟩ = some (.int .i64 l[i].1) ∧ w3.cell? ⟨b, o + i * 3 + 1, none⟩ = some (.int .i64 l[i].2.1) ∧ w3.cell? ⟨b, o + i * 3 + 2, none⟩ = some (.int .i64 l[i].2.2) := by
            rcases hc with h | h
            · rw [h] at hlt; simp at hlt
            · exact h
          obtain ⟨k0, k1, k2⟩ := hcc k hlt
          replace k0 := (hb.cell (p := ⟨gl, o + k * 3, none⟩) hgl).trans k0
          replace k1 := (hb.cell (p := ⟨gl, o + k * 3 + 1, none⟩) hgl).trans k1
          replace k2 := (hb.cell (p := ⟨gl, o + k * 3 + 2, none⟩) hgl).trans k2
          have i1 : (k : Int) < (l.length : Int) := by omega
          have HF := Lib.hid (cntQ_step l n k hlt)
          have CP := Lib.hid (fun W => has_any l[k].1 l[k].2.1 l[k].2.2 n W hn.1 hn.2)
          rw [show hasQ (l[k].1, l[k].2.1, l[k].2.2) n = hasQ l[k] n from rfl] at CP
          have hle := cntQ_le (l.take k) n
          rw [List.length_take] at hle
          clear hcc hc
          generalize cntQ (l.take k) n = m at *
          cases hh : hasQ l[k] n
          · rw [hh] at CP
            rw [hh] at HF
            clear hh
            generalize l[k] = p at *
            go_wp2_with (go_at_call 10; refine (CP.out _).mono ?_; rintro e w4 ⟨rfl, hb4⟩)
            go_roundw
            case rel => exact ⟨k + 1, by omega, by go_num, by rw [HF.out]; (first | (simp; done) | (simp; omega) | (congr 1; simp; omega)), hb.trans (hb4.mono hb.size)⟩
            case measure => simp [intOf]; omega
          · rw [hh] at CP
            rw [hh] at HF
            clear hh
            generalize l[k] = p at *
            go_wp2_with (go_at_call 10; refine (CP.out _).mono ?_; rintro e w4 ⟨rfl, hb4⟩)
            go_roundw
            case rel => exact ⟨k + 1, by omega, by go_num, by rw [HF.out]; (first | (simp; done) | (simp; omega) | (congr 1; simp; omega)), hb.trans (hb4.mono hb.size)⟩
            case measure => simp [intOf]; omega
        · rw [List.take_of_length_le (by omega), HT.out]
          have hall : ∀ x ∈ [(w.heap.size, a), (w.heap.size + 1, b), (g, q)], BoxAt w3 x.1 x.2 := by
            intro x hx
            simp only [List.mem_cons, List.not_mem_nil, or_false] at hx
            rcases hx with rfl | rfl | rfl
            · exact A3
            · exact B3
            · exact N3
          have hS : SB w3 [(w.heap.size, a), (w.heap.size + 1, b), (g, q)] wr.drew := SB.of hall hb.drew
          have g0 : ∀ x : Wd (SB w3 [(w.heap.size, a), (w.heap.size + 1, b), (g, q)]), x.w.cell? ⟨w.heap.size, 0, none⟩ = some (.int .i64 a.1) := fun x => x.ok.1
          have g1 : ∀ x : Wd (SB w3 [(w.heap.size, a), (w.heap.size + 1, b), (g, q)]), x.w.cell? ⟨w.heap.size, 1, none⟩ = some (.int .i64 a.2.1) := fun x => x.ok.2.1
          have g2 : ∀ x : Wd (SB w3 [(w.heap.size, a), (w.heap.size + 1, b), (g, q)]), x.w.cell? ⟨w.heap.size, 2, none⟩ = some (.int .i64 a.2.2) := fun x => x.ok.2.2.1
          have g3 : ∀ x : Wd (SB w3 [(w.heap.size, a), (w.heap.size + 1, b), (g, q)]), x.w.cell? ⟨w.heap.size + 1, 0, none⟩ = some (.int .i64 b.1) := fun x => x.ok.2.2.2.1
          have g4 : ∀ x : Wd (SB w3 [(w.heap.size, a), (w.heap.size + 1, b), (g, q)]), x.w.cell? ⟨w.heap.size + 1, 1, none⟩ = some (.int .i64 b.2.1) := fun x => x.ok.2.2.2.2.1
          have g5 : ∀ x : Wd (SB w3 [(w.heap.size, a), (w.heap.size + 1, b), (g, q)]), x.w.cell? ⟨w.heap.size + 1, 2, none⟩ = some (.int .i64 b.2.2) := fun x => x.ok.2.2.2.2.2.1
          have K4 := Lib.hid (SB.call hall (fun W => C4.out W))
          have K5 := Lib.hid (SB.call hall (fun W => C5.out W))
          have hl3 : (l.length : Int) ≤ 3 := by omega
          go_wp2
          have hNe : Nonempty (Wd (SB w3 [(w.heap.size, a), (w.heap.size + 1, b), (g, q)])) := ⟨⟨_, hS⟩⟩
          refine quietS (S := SB w3 [(w.heap.size, a), (w.heap.size + 1, b), (g, q)]) (by kernel_rfl) (by kernel_rfl) (hS) ?_
          repeat (first | go_big_quiet_skip | (go_big_quiet_want; go_big_quiet_op; first | go_big_quiet_on | go_big_quiet_call (((go_at_call 11; first | (with_reducible exact quiet_S (K4.out _ (Wd.ok _))) | (with_reducible exact quiet_S (K5.out _ (Wd.ok _))))))))
          refine wpQuiet_nil ?_
          rintro W ⟨⟨_, hW⟩, rfl⟩
          have c0 := hW.2.2.2.2.2.2.1
          have c1 := hW.2.2.2.2.2.2.2.1
          have c2 := hW.2.2.2.2.2.2.2.2.1
          dsimp only at c0 c1 c2
          go_wp2_with (first | (go_at_call 10; refine (C2.out _).mono ?_; rintro e w5 ⟨rfl, hb5⟩) | (go_at_call 17; refine (C6.out _).mono ?_; rintro e w6 ⟨rfl, hb6⟩))
          go_ret
          have s3 := t3.trans (hW.bel.mono t3.size)
          have s5 := s3.trans (hb5.mono s3.size)
          exact ⟨rfl, s5.trans (hb6.mono s5.size)⟩
    · rw [ha, hb'] at C2
      rw [ha] at C4
      rw [hb'] at C5
      rw [ha, hb'] at HN
      have HT : Hid (cntQ l n = 0) := Lib.hid (by rw [HN.out]; simp)
      clear HN ha hb'
      go_enter Try.func5, Try.ntmps5
      go_wp2_with (first
        | (go_at_call 20; refine (C1.out _).mono ?_; rintro e w1 ⟨rfl, hb1⟩; have A1 := (hbA.more hb1).more (bel_alloc w1 (.cells #[.int .i64 q.1, .int .i64 q.2.1, .int .i64 q.2.2] perT)); have B1 := (hbB.more hb1).more (bel_alloc w1 (.cells #[.int .i64 q.1, .int .i64 q.2.1, .int .i64 q.2.2] perT)); have N1 : BoxAt (w1.alloc (.cells #[.int .i64 q.1, .int .i64 q.2.1, .int .i64 q.2.2] perT)) w1.heap.size q := heap_alloc_new w1 _)
        | (go_at_call 10; (with_reducible refine (C2.out _).mono ?_; rintro e w2 ⟨rfl, hb2⟩; have A2 := A1.more hb2; have B2 := B1.more hb2; have N2 := N1.more hb2; have y0 := A2.cell.1; have y1 := A2.cell.2.1; have y2 := A2.cell.2.2; have y3 := B2.cell.1; have y4 := B2.cell.2.1; have y5 := B2.cell.2.2))
        | (go_at_call 23; refine (C3.out _).mono ?_; rintro e w3 ⟨v, rfl, hL, hb3⟩; have A3 := A2.more hb3; have B3 := B2.more hb3; have N3 := N2.more hb3; obtain ⟨A, c, rfl, hc⟩ := hL))
      have t1 := below_step hb0 (by simp; omega) hb1 (.cells #[.int .i64 q.1, .int .i64 q.2.1, .int .i64 q.2.2] 23)
      have t2 : Below w.heap.size w w2 := t1.1.trans (hb2.mono t1.2)
      have t3 : Below w.heap.size w w3 := t2.trans (hb3.mono t2.size)
      clear hb0 hb1 hb2 hb3 t1 t2 hbA hbB A1 B1 N1 A2 B2 N2 y0 y1 y2 y3 y4 y5 C1 C3
      generalize w1.heap.size = g at *
      go_loopw [9, 11] (fun vn vi wr => ∃ k : Nat, k ≤ l.length ∧ vi = .int .i64 k ∧ vn = .int .i64 ((0 + cntQ (l.take k) n : Nat) : Int) ∧ Below w3.heap.size w3 wr) (fun _ vi _ => l.length - (intOf vi).toNat)
      case atStart => exact ⟨0, Nat.zero_le _, rfl, by simp [cntQ], Below.refl _ _⟩
      case round =>
        obtain ⟨k, hk, rfl, rfl, hb⟩ := hrel
        by_cases hlt : k < l.length
        · obtain ⟨gl, o, rfl, hgl, hcc⟩ : ∃ b o, A = some ⟨b, o, none⟩ ∧ b < w3.heap.size ∧ ∀ i (h : i < l.length), w3.cell? ⟨b, o + i * 3, none⟩ = some (.int .i64 l[i].1) ∧ w3.cell? ⟨b, o + i * 3 + 1, none⟩ = some (.int .i64 l[i].2.1) ∧ w3.cell? ⟨b, o + i * 3 + 2, none⟩ = some (.int .i64 l[i].2.2) := by
            rcases hc with h | h
            · rw [h] at hlt; simp at hlt
            · exact h
          obtain ⟨k0, k1, k2⟩ := hcc k hlt
          replace k0 := (hb.cell (p := ⟨gl, o + k * 3, none⟩) hgl).trans k0
          replace k1 := (hb.cell (p := ⟨gl, o + k * 3 + 1, none⟩) hgl).trans k1
          replace k2 := (hb.cell (p := ⟨gl, o + k * 3 + 2, none⟩) hgl).trans k2
          have i1 : (k : Int) < (l.length : Int) := by omega
          have HF := Lib.hid (cntQ_step l n k hlt)
          have CP := Lib.hid (fun W => has_any l[k].1 l[k].2.1 l[k].2.2 n W hn.1 hn.2)
          rw [show hasQ (l[k].1, l[k].2.1, l[k].2.2) n = hasQ l[k] n from rfl] at CP
          have hle := cntQ_le (l.take k) n
          rw [List.length_take] at hle
          clear hcc hc
          generalize cntQ (l.take k) n = m at *
          cases hh : hasQ l[k] n
          · rw [hh] at CP
            rw [hh] at HF
            clear hh
            generalize l[k] = p at *
            go_wp2_with (go_at_call 10; refine (CP.out _).mono ?_; rintro e w4 ⟨rfl, hb4⟩)
            go_roundw
            case rel => exact ⟨k + 1, by omega, by go_num, by rw [HF.out]; (first | (simp; done) | (simp; omega) | (congr 1; simp; omega)), hb.trans (hb4.mono hb.size)⟩
            case measure => simp [intOf]; omega
          · rw [hh] at CP
            rw [hh] at HF
            clear hh
            generalize l[k] = p at *
            go_wp2_with (go_at_call 10; refine (CP.out _).mono ?_; rintro e w4 ⟨rfl, hb4⟩)
            go_roundw
            case rel => exact ⟨k + 1, by omega, by go_num, by rw [HF.out]; (first | (simp; done) | (simp; omega) | (congr 1; simp; omega)), hb.trans (hb4.mono hb.size)⟩
            case measure => simp [intOf]; omega
        · rw [List.take_of_length_le (by omega), HT.out]
          have hall : ∀ x ∈ [(w.heap.size, a), (w.heap.size + 1, b), (g, q)], BoxAt w3 x.1 x.2 := by
            intro x hx
            simp only [List.mem_cons, List.not_mem_nil, or_false] at hx
            rcases hx with rfl | rfl | rfl
            · exact A3
            · exact B3
            · exact N3
          have hS : SB w3 [(w.heap.size, a), (w.heap.size + 1, b), (g, q)] wr.drew := SB.of hall hb.drew
          have g0 : ∀ x : Wd (SB w3 [(w.heap.size, a), (w.heap.size + 1, b), (g, q)]), x.w.cell? ⟨w.heap.size, 0, none⟩ = some (.int .i64 a.1) := fun x => x.ok.1
          have g1 : ∀ x : Wd (SB w3 [(w.heap.size, a), (w.heap.size + 1, b), (g, q)]), x.w.cell? ⟨w.heap.size, 1, none⟩ = some (.int .i64 a.2.1) := fun x => x.ok.2.1
          have g2 : ∀ x : Wd (SB w3 [(w.heap.size, a), (w.heap.size + 1, b), (g, q)]), x.w.cell? ⟨w.heap.size, 2, none⟩ = some (.int .i64 a.2.2) := fun x => x.ok.2.2.1
          have g3 : ∀ x : Wd (SB w3 [(w.heap.size, a), (w.heap.size + 1, b), (g, q)]), x.w.cell? ⟨w.heap.size + 1, 0, none⟩ = some (.int .i64 b.1) := fun x => x.ok.2.2.2.1
          have g4 : ∀ x : Wd (SB w3 [(w.heap.size, a), (w.heap.size + 1, b), (g, q)]), x.w.cell? ⟨w.heap.size + 1, 1, none⟩ = some (.int .i64 b.2.1) := fun x => x.ok.2.2.2.2.1
          have g5 : ∀ x : Wd (SB w3 [(w.heap.size, a), (w.heap.size + 1, b), (g, q)]), x.w.cell? ⟨w.heap.size + 1, 2, none⟩ = some (.int .i64 b.2.2) := fun x => x.ok.2.2.2.2.2.1
          have K4 := Lib.hid (SB.call hall (fun W => C4.out W))
          have K5 := Lib.hid (SB.call hall (fun W => C5.out W))
          have hl3 : (l.length : Int) ≤ 3 := by omega
          go_wp2
          have hNe : Nonempty (Wd (SB w3 [(w.heap.size, a), (w.heap.size + 1, b), (g, q)])) := ⟨⟨_, hS⟩⟩
          refine quietS (S := SB w3 [(w.heap.size, a), (w.heap.size + 1, b), (g, q)]) (by kernel_rfl) (by kernel_rfl) (hS) ?_
          repeat (first | go_big_quiet_skip | (go_big_quiet_want; go_big_quiet_op; first | go_big_quiet_on | go_big_quiet_call (((go_at_call 11; first | (with_reducible exact quiet_S (K4.out _ (Wd.ok _))) | (with_reducible exact quiet_S (K5.out _ (Wd.ok _))))))))
          refine wpQuiet_nil ?_
          rintro W ⟨⟨_, hW⟩, rfl⟩
          have c0 := hW.2.2.2.2.2.2.1
          have c1 := hW.2.2.2.2.2.2.2.1
          have c2 := hW.2.2.2.2.2.2.2.2.1
          dsimp only at c0 c1 c2
          go_wp2_with (first | (go_at_call 10; refine (C2.out _).mono ?_; rintro e w5 ⟨rfl, hb5⟩) | (go_at_call 17; refine (C6.out _).mono ?_; rintro e w6 ⟨rfl, hb6⟩))
          go_ret
          have s3 := t3.trans (hW.bel.mono t3.size)
          have s5 := s3.trans (hb5.mono s3.size)
          exact ⟨rfl, s5.trans (hb6.mono s5.size)⟩
  · cases hb' : hasQ b n
    · rw [ha, hb'] at C2
      rw [ha] at C4
      rw [hb'] at C5
      rw [ha, hb'] at HN
      have HT : Hid (cntQ l n = 1) := Lib.hid (by rw [HN.out]; simp)
      clear HN ha hb'
      go_enter Try.func5, Try.ntmps5
      go_wp2_with (first
        | (go_at_call 20; refine (C1.out _).mono ?_; rintro e w1 ⟨rfl, hb1⟩; have A1 := (hbA.more hb1).more (bel_alloc w1 (.cells #[.int .i64 q.1, .int .i64 q.2.1, .int .i64 q.2.2] perT)); have B1 := (hbB.more hb1).more (bel_alloc w1 (.cells #[.int .i64 q.1, .int .i64 q.2.1, .int .i64 q.2.2] perT)); have N1 : BoxAt (w1.alloc (.cells #[.int .i64 q.1, .int .i64 q.2.1, .int .i64 q.2.2] perT)) w1.heap.size q := heap_alloc_new w1 _)
        | (go_at_call 10; (with_reducible refine (C2.out _).mono ?_; rintro e w2 ⟨rfl, hb2⟩; have A2 := A1.more hb2; have B2 := B1.more hb2; have N2 := N1.more hb2; have y0 := A2.cell.1; have y1 := A2.cell.2.1; have y2 := A2.cell.2.2; have y3 := B2.cell.1; have y4 := B2.cell.2.1; have y5 := B2.cell.2.2))
        | (go_at_call 23; refine (C3.out _).mono ?_; rintro e w3 ⟨v, rfl, hL, hb3⟩; have A3 := A2.more hb3; have B3 := B2.more hb3; have N3 := N2.more hb3; obtain ⟨A, c, rfl, hc⟩ := hL))
      have t1 := below_step hb0 (by simp; omega) hb1 (.cells #[.int .i64 q.1, .int .i64 q.2.1, .int .i64 q.2.2] 23)
      have t2 : Below w.heap.size w w2 := t1.1.trans (hb2.mono t1.2)
      have t3 : Below w.heap.size w w3 := t2.trans (hb3.mono t2.size)
      clear hb0 hb1 hb2 hb3 t1 t2 hbA hbB A1 B1 N1 A2 B2 N2 y0 y1 y2 y3 y4 y5 C1 C3
      generalize w1.heap.size = g at *
      go_loopw [9, 11] (fun vn vi wr => ∃ k : Nat, k ≤ l.length ∧ vi = .int .i64 k ∧ vn = .int .i64 ((0 + cntQ (l.take k) n : Nat) : Int) ∧ Below w3.heap.size w3 wr) (fun _ vi _ => l.length - (intOf vi).toNat)
      case atStart => exact ⟨0, Nat.zero_le _, rfl, by simp [cntQ], Below.refl _ _⟩
      case round =>
        obtain ⟨k, hk, rfl, rfl, hb⟩ := hrel
        by_cases hlt : k < l.length
        · obtain ⟨gl, o, rfl, hgl, hcc⟩ : ∃ b o, A = some ⟨b, o, none⟩ ∧ b < w3.heap.size ∧ ∀ i (h : i < l.length), w3.cell? ⟨b, o + i * 3, none⟩ = some (.int .i64 l[i].1) ∧ w3.cell? ⟨b, o + i * 3 + 1, none⟩ = some (.int .i64 l[i].2.1) ∧ w3.cell? ⟨b, o + i * 3 + 2, none⟩ = some (.int .i64 l[i].2.2) := by
            rcases hc with h | h
            · rw [h] at hlt; simp at hlt
            · exact h
          obtain ⟨k0, k1, k2⟩ := hcc k hlt
          replace k0 := (hb.cell (p := ⟨gl, o + k * 3, none⟩) hgl).trans k0
          replace k1 := (hb.cell (p := ⟨gl, o + k * 3 + 1, none⟩) hgl).trans k1
          replace k2 := (hb.cell (p := ⟨gl, o + k * 3 + 2, none⟩) hgl).trans k2
          have i1 : (k : Int) < (l.length : Int) := by omega
          have HF := Lib.hid (cntQ_step l n k hlt)
          have CP := Lib.hid (fun W => has_any l[k].1 l[k].2.1 l[k].2.2 n W hn.1 hn.2)
          rw [show hasQ (l[k].1, l[k].2.1, l[k].2.2) n = hasQ l[k] n from rfl] at CP
          have hle := cntQ_le (l.take k) n
          rw [List.length_take] at hle
          clear hcc hc
          generalize cntQ (l.take k) n = m at *
          cases hh : hasQ l[k] n
          · rw [hh] at CP
            rw [hh] at HF
            clear hh
            generalize l[k] = p at *
            go_wp2_with (go_at_call 10; refine (CP.out _).mono ?_; rintro e w4 ⟨rfl, hb4⟩)
            go_roundw
            case rel => exact ⟨k + 1, by omega, by go_num, by rw [HF.out]; (first | (simp; done) | (simp; omega) | (congr 1; simp; omega)), hb.trans (hb4.mono hb.size)⟩
            case measure => simp [intOf]; omega
          · rw [hh] at CP
            rw [hh] at HF
            clear hh
            generalize l[k] = p at *
            go_wp2_with (go_at_call 10; refine (CP.out _).mono ?_; rintro e w4 ⟨rfl, hb4⟩)
            go_roundw
            case rel => exact ⟨k + 1, by omega, by go_num, by rw [HF.out]; (first | (simp; done) | (simp; omega) | (congr 1; simp; omega)), hb.trans (hb4.mono hb.size)⟩
            case measure => simp [intOf]; omega
        · rw [List.take_of_length_le (by omega), HT.out]
          have hall : ∀ x ∈ [(w.heap.size, a), (w.heap.size + 1, b), (g, q)], BoxAt w3 x.1 x.2 := by
            intro x hx
            simp only [List.mem_cons, List.not_mem_nil, or_false] at hx
            rcases hx with rfl | rfl | rfl
            · exact A3
            · exact B3
            · exact N3
          have hS : SB w3 [(w.heap.size, a), (w.heap.size + 1, b), (g, q)] wr.drew := SB.of hall hb.drew
          have g0 : ∀ x : Wd (SB w3 [(w.heap.size, a), (w.heap.size + 1, b), (g, q)]), x.w.cell? ⟨w.heap.size, 0, none⟩ = some (.int .i64 a.1) := fun x => x.ok.1
          have g1 : ∀ x : Wd (SB w3 [(w.heap.size, a), (w.heap.size + 1, b), (g, q)]), x.w.cell? ⟨w.heap.size, 1, none⟩ = some (.int .i64 a.2.1) := fun x => x.ok.2.1
          have g2 : ∀ x : Wd (SB w3 [(w.heap.size, a), (w.heap.size + 1, b), (g, q)]), x.w.cell? ⟨w.heap.size, 2, none⟩ = some (.int .i64 a.2.2) := fun x => x.ok.2.2.1
          have g3 : ∀ x : Wd (SB w3 [(w.heap.size, a), (w.heap.size + 1, b), (g, q)]), x.w.cell? ⟨w.heap.size + 1, 0, none⟩ = some (.int .i64 b.1) := fun x => x.ok.2.2.2.1
          have g4 : ∀ x : Wd (SB w3 [(w.heap.size, a), (w.heap.size + 1, b), (g, q)]), x.w.cell? ⟨w.heap.size + 1, 1, none⟩ = some (.int .i64 b.2.1) := fun x => x.ok.2.2.2.2.1
          have g5 : ∀ x : Wd (SB w3 [(w.heap.size, a), (w.heap.size + 1, b), (g, q)]), x.w.cell? ⟨w.heap.size + 1, 2, none⟩ = some (.int .i64 b.2.2) := fun x => x.ok.2.2.2.2.2.1
          have K4 := Lib.hid (SB.call hall (fun W => C4.out W))
          have K5 := Lib.hid (SB.call hall (fun W => C5.out W))
          have hl3 : (l.length : Int) ≤ 3 := by omega
          go_wp2
          have hNe : Nonempty (Wd (SB w3 [(w.heap.size, a), (w.heap.size + 1, b), (g, q)])) := ⟨⟨_, hS⟩⟩
          refine quietS (S := SB w3 [(w.heap.size, a), (w.heap.size + 1, b), (g, q)]) (by kernel_rfl) (by kernel_rfl) (hS) ?_
          repeat (first | go_big_quiet_skip | (go_big_quiet_want; go_big_quiet_op; first | go_big_quiet_on | go_big_quiet_call (((go_at_call 11; first | (with_reducible exact quiet_S (K4.out _ (Wd.ok _))) | (with_reducible exact quiet_S (K5.out _ (Wd.ok _))))))))
          refine wpQuiet_nil ?_
          rintro W ⟨⟨_, hW⟩, rfl⟩
          have c0 := hW.2.2.2.2.2.2.1
          have c1 := hW.2.2.2.2.2.2.2.1
          have c2 := hW.2.2.2.2.2.2.2.2.1
          dsimp only at c0 c1 c2
          go_wp2_with (first | (go_at_call 10; refine (C2.out _).mono ?_; rintro e w5 ⟨rfl, hb5⟩) | (go_at_call 17; refine (C6.out _).mono ?_; rintro e w6 ⟨rfl, hb6⟩))
          go_ret
          have s3 := t3.trans (hW.bel.mono t3.size)
          have s5 := s3.trans (hb5.mono s3.size)
          exact ⟨rfl, s5.trans (hb6.mono s5.size)⟩
    · rw [ha, hb'] at C2
      rw [ha] at C4
      rw [hb'] at C5
      rw [ha, hb'] at HN
      have HT : Hid (cntQ l n = 0) := Lib.hid (by rw [HN.out]; simp)
      clear HN ha hb'
      go_enter Try.func5, Try.ntmps5
      go_wp2_with (first
        | (go_at_call 20; refine (C1.out _).mono ?_; rintro e w1 ⟨rfl, hb1⟩; have A1 := (hbA.more hb1).more (bel_alloc w1 (.cells #[.int .i64 q.1, .int .i64 q.2.1, .int .i64 q.2.2] perT)); have B1 := (hbB.more hb1).more (bel_alloc w1 (.cells #[.int .i64 q.1, .int .i64 q.2.1, .int .i64 q.2.2] perT)); have N1 : BoxAt (w1.alloc (.cells #[.int .i64 q.1, .int .i64 q.2.1, .int .i64 q.2.2] perT)) w1.heap.size q := heap_alloc_new w1 _)
        | (go_at_call 10; (with_reducible refine (C2.out _).mono ?_; rintro e w2 ⟨rfl, hb2⟩; have A2 := A1.more hb2; have B2 := B1.more hb2; have N2 := N1.more hb2; have y0 := A2.cell.1; have y1 := A2.cell.2.1; have y2 := A2.cell.2.2; have y3 := B2.cell.1; have y4 := B2.cell.2.1; have y5 := B2.cell.2.2))
        | (go_at_call 23; refine (C3.out _).mono ?_; rintro e w3 ⟨v, rfl, hL, hb3⟩; have A3 := A2.more hb3; have B3 := B2.more hb3; have N3 := N2.more hb3; obtain ⟨A, c, rfl, hc⟩ := hL))
      have t1 := below_step hb0 (by simp; omega) hb1 (.cells #[.int .i64 q.1, .int .i64 q.2.1, .int .i64 q.2.2] 23)
      have t2 : Below w.heap.size w w2 := t1.1.trans (hb2.mono t1.2)
      have t3 : Below w.heap.size w w3 := t2.trans (hb3.mono t2.size)
      clear hb0 hb1 hb2 hb3 t1 t2 hbA hbB A1 B1 N1 A2 B2 N2 y0 y1 y2 y3 y4 y5 C1 C3
      generalize w1.heap.size = g at *
      go_loopw [9, 11] (fun vn vi wr => ∃ k : Nat, k ≤ l.length ∧ vi = .int .i64 k ∧ vn = .int .i64 ((1 + cntQ (l.take k) n : Nat) : Int) ∧ Below w3.heap.size w3 wr) (fun _ vi _ => l.length - (intOf vi).toNat)
      case atStart => exact ⟨0, Nat.zero_le _, rfl, by simp [cntQ], Below.refl _ _⟩
      case round =>
        obtain ⟨k, hk, rfl, rfl, hb⟩ := hrel
        by_cases hlt : k < l.length
        · obtain ⟨gl, o, rfl, hgl, hcc⟩ : ∃ b o, A = some ⟨b, o, none⟩ ∧ b < w3.heap.size ∧ ∀ i (h : i < l.length), w3.cell? ⟨b, o + i * 3, none⟩ = some (.int .i64 l[i].1) ∧ w3.cell? ⟨b, o + i * 3 + 1, none⟩ = some (.int .i64 l[i].2.1) ∧ w3.cell? ⟨b, o + i * 3 + 2, none⟩ = some (.int .i64 l[i].2.2) := by
            rcases hc with h | h
            · rw [h] at hlt; simp at hlt
            · exact h
          obtain ⟨k0, k1, k2⟩ := hcc k hlt
          replace k0 := (hb.cell (p := ⟨gl, o + k * 3, none⟩) hgl).trans k0
          replace k1 := (hb.cell (p := ⟨gl, o + k * 3 + 1, none⟩) hgl).trans k1
          replace k2 := (hb.cell (p := ⟨gl, o + k * 3 + 2, none⟩) hgl).trans k2
          have i1 : (k : Int) < (l.length : Int) := by omega
          have HF := Lib.hid (cntQ_step l n k hlt)
          have CP := Lib.hid (fun W => has_any l[k].1 l[k].2.1 l[k].2.2 n W hn.1 hn.2)
          rw [show hasQ (l[k].1, l[k].2.1, l[k].2.2) n = hasQ l[k] n from rfl] at CP
          have hle := cntQ_le (l.take k) n
          rw [List.length_take] at hle
          clear hcc hc
          generalize cntQ (l.take k) n = m at *
          cases hh : hasQ l[k] n
          · rw [hh] at CP
            rw [hh] at HF
            clear hh
            generalize l[k] = p at *
            go_wp2_with (go_at_call 10; refine (CP.out _).mono ?_; rintro e w4 ⟨rfl, hb4⟩)
            go_roundw
            case rel => exact ⟨k + 1, by omega, by go_num, by rw [HF.out]; (first | (simp; done) | (simp; omega) | (congr 1; simp; omega)), hb.trans (hb4.mono hb.size)⟩
            case measure => simp [intOf]; omega
          · rw [hh] at CP
            rw [hh] at HF
            clear hh
            generalize l[k] = p at *
            go_wp2_with (go_at_call 10; refine (CP.out _).mono ?_; rintro e w4 ⟨rfl, hb4⟩)
            go_roundw
            case rel => exact ⟨k + 1, by omega, by go_num, by rw [HF.out]; (first | (simp; done) | (simp; omega) | (congr 1; simp; omega)), hb.trans (hb4.mono hb.size)⟩
            case measure => simp [intOf]; omega
        · rw [List.take_of_length_le (by omega), HT.out]
          have hall : ∀ x ∈ [(w.heap.size, a), (w.heap.size + 1, b), (g, q)], BoxAt w3 x.1 x.2 := by
            intro x hx
            simp only [List.mem_cons, List.not_mem_nil, or_false] at hx
            rcases hx with rfl | rfl | rfl
            · exact A3
            · exact B3
            · exact N3
          have hS : SB w3 [(w.heap.size, a), (w.heap.size + 1, b), (g, q)] wr.drew := SB.of hall hb.drew
          have g0 : ∀ x : Wd (SB w3 [(w.heap.size, a), (w.heap.size + 1, b), (g, q)]), x.w.cell? ⟨w.heap.size, 0, none⟩ = some (.int .i64 a.1) := fun x => x.ok.1
          have g1 : ∀ x : Wd (SB w3 [(w.heap.size, a), (w.heap.size + 1, b), (g, q)]), x.w.cell? ⟨w.heap.size, 1, none⟩ = some (.int .i64 a.2.1) := fun x => x.ok.2.1
          have g2 : ∀ x : Wd (SB w3 [(w.heap.size, a), (w.heap.size + 1, b), (g, q)]), x.w.cell? ⟨w.heap.size, 2, none⟩ = some (.int .i64 a.2.2) := fun x => x.ok.2.2.1
          have g3 : ∀ x : Wd (SB w3 [(w.heap.size, a), (w.heap.size + 1, b), (g, q)]), x.w.cell? ⟨w.heap.size + 1, 0, none⟩ = some (.int .i64 b.1) := fun x => x.ok.2.2.2.1
          have g4 : ∀ x : Wd (SB w3 [(w.heap.size, a), (w.heap.size + 1, b), (g, q)]), x.w.cell? ⟨w.heap.size + 1, 1, none⟩ = some (.int .i64 b.2.1) := fun x => x.ok.2.2.2.2.1
          have g5 : ∀ x : Wd (SB w3 [(w.heap.size, a), (w.heap.size + 1, b), (g, q)]), x.w.cell? ⟨w.heap.size + 1, 2, none⟩ = some (.int .i64 b.2.2) := fun x => x.ok.2.2.2.2.2.1
          have K4 := Lib.hid (SB.call hall (fun W => C4.out W))
          have K5 := Lib.hid (SB.call hall (fun W => C5.out W))
          have hl3 : (l.length : Int) ≤ 3 := by omega
          go_wp2
          have hNe : Nonempty (Wd (SB w3 [(w.heap.size, a), (w.heap.size + 1, b), (g, q)])) := ⟨⟨_, hS⟩⟩
          refine quietS (S := SB w3 [(w.heap.size, a), (w.heap.size + 1, b), (g, q)]) (by kernel_rfl) (by kernel_rfl) (hS) ?_
          repeat (first | go_big_quiet_skip | (go_big_quiet_want; go_big_quiet_op; first | go_big_quiet_on | go_big_quiet_call (((go_at_call 11; first | (with_reducible exact quiet_S (K4.out _ (Wd.ok _))) | (with_reducible exact quiet_S (K5.out _ (Wd.ok _))))))))
          refine wpQuiet_nil ?_
          rintro W ⟨⟨_, hW⟩, rfl⟩
          have c0 := hW.2.2.2.2.2.2.1
          have c1 := hW.2.2.2.2.2.2.2.1
          have c2 := hW.2.2.2.2.2.2.2.2.1
          dsimp only at c0 c1 c2
          go_wp2_with (first | (go_at_call 10; refine (C2.out _).mono ?_; rintro e w5 ⟨rfl, hb5⟩) | (go_at_call 17; refine (C6.out _).mono ?_; rintro e w6 ⟨rfl, hb6⟩))
          go_ret
          have s3 := t3.trans (hW.bel.mono t3.size)
          have s5 := s3.trans (hb5.mono s3.size)
          exact ⟨rfl, s5.trans (hb6.mono s5.size)⟩

end Go.Proofs.Ytnfdmdhpbaifiaa
