/- The law NestSells. -/
import Derived.Test.YtnakdacnfbgpnaaNesK
import Derived.Deep.LoopGhost
import Derived.BigQuiet
import Derived.Deep.CutRange
import Derived.Deep.CutBlock
namespace Go.Proofs.Ytnakdacnfbgpnaa
open Go.RowKit Go.Shelf
set_option linter.unusedSimpArgs false
set_option linter.unusedVariables false


theorem wiL_bound {s : List Int} {k : Nat} {n : Int} (h : s.length ≤ 1000) : (wiL s k n).length ≤ 1000000 := by rw [wiL_len]; omega
theorem selL_bound {b : Cb} {s : List Int} {r n : Int} (h : s.length ≤ 1000) : (selL b s r n).length ≤ 1000000 := by
  unfold selL
  split
  · exact wiL_bound h
  · simp
theorem canL_bound {b : Cb} {s : List Int} {r n : Int} (h : s.length ≤ 1000) : (canL b s r n).length ≤ 1000000 := by
  unfold canL
  split
  · exact wiL_bound h
  · simp
set_option maxRecDepth 100000 in
set_option maxHeartbeats 8000000 in
theorem nestSells_walk (b : Cb) (A : Option Addr) (c : Nat) (s : List Int) (r n : Int) (w : World) (hd : RdC b) (hb : CbAt w b) (hL : IntR w (.slice A s.length c) s) (hh : b.l.length < 9223372036854775808) (hh2 : s.length < 9223372036854775808) :
    Calls Try.prog 4 #[aggCb b, .slice A s.length c, .agg #[.int .i64 r, .int .i64 n]] w fun e w' => e = .returned (.bool true) ∧ Below w.heap.size w w' := by
  have KA := Lib.hid awake_any
  have hbA := bel_alloc w (.cells #[.string b.name, .int .i64 b.seats, .int .i64 b.over, .slice b.A b.l.length b.c] cbT)
  have hbB := bel_alloc (w.alloc (.cells #[.string b.name, .int .i64 b.seats, .int .i64 b.over, .slice b.A b.l.length b.c] cbT)) (.cells #[.int .i64 r, .int .i64 n] 31)
  have q0 := bel_cell hbB (cb_cells w b 0 _ rfl)
  have q1 := bel_cell hbB (cb_cells w b 1 _ rfl)
  have q2 := bel_cell hbB (cb_cells w b 2 _ rfl)
  have q3 := bel_cell hbB (cb_cells w b 3 _ rfl)
  have p0 := (cells_new (w.alloc (.cells #[.string b.name, .int .i64 b.seats, .int .i64 b.over, .slice b.A b.l.length b.c] cbT)) #[.int .i64 r, .int .i64 n] 31 0).trans (show _ = some (Value.int .i64 r) from rfl)
  have p1 := (cells_new (w.alloc (.cells #[.string b.name, .int .i64 b.seats, .int .i64 b.over, .slice b.A b.l.length b.c] cbT)) #[.int .i64 r, .int .i64 n] 31 1).trans (show _ = some (Value.int .i64 n) from rfl)
  rw [World.size_alloc] at p0 p1
  have hA0 := hbA.trans (hbB.mono hbA.size)
  obtain ⟨B, hB0⟩ : ∃ B, B = w.heap.size := ⟨_, rfl⟩
  rw [← hB0] at q0 q1 q2 q3 p0 p1
  have HA := Lib.hid hA0
  have HB := Lib.hid hb
  have HL := Lib.hid hL
  clear hb hL hbA hbB hA0
  obtain ⟨w5, hW5⟩ : ∃ w5, (w.alloc (.cells #[.string b.name, .int .i64 b.seats, .int .i64 b.over, .slice b.A b.l.length b.c] cbT)).alloc (.cells #[.int .i64 r, .int .i64 n] 31) = w5 := ⟨_, rfl⟩
  rw [hW5] at HA q0 q1 q2 q3 p0 p1
  have Q0 := Lib.hid (fun W (h : SW w5 W) => bel_get q0 _ h)
  have Q1 := Lib.hid (fun W (h : SW w5 W) => bel_get q1 _ h)
  have Q2 := Lib.hid (fun W (h : SW w5 W) => bel_get q2 _ h)
  have Q3 := Lib.hid (fun W (h : SW w5 W) => bel_get q3 _ h)
  have P0 := Lib.hid (fun W (h : SW w5 W) => bel_get p0 _ h)
  have P1 := Lib.hid (fun W (h : SW w5 W) => bel_get p1 _ h)
  have c0 := q0
  have c1 := q1
  have c2 := q2
  have c3 := q3
  have d0 := p0
  have d1 := p1
  clear q0 q1 q2 q3 p0 p1
  by_cases hrt : rtP b s
  rotate_left
  · have KR := Lib.hid (right_no b A c s w5 hd (HB.out.more HA.out) (HL.out.more HA.out) hh hh2 hrt)
    clear hrt
    go_enter Try.func4, Try.ntmps4
    go_upto_region 1 with fail
    try rw [hW5]
    rw [← hB0]
    clear hW5 hB0
    go_wp2_with (first
      | (go_at_call 9; refine (KA.out _).mono ?_; rintro e wd ⟨rfl, hbd⟩)
      | (go_at_call 8; refine KR.out.mono ?_; rintro e w6 ⟨rfl, hb6⟩; have hA6 := Below.trans HA.out (Below.mono hb6 HA.out.size)))
    go_ret
    exact ⟨rfl, hA6.trans (hbd.mono hA6.size)⟩
  have hs : s.length ≤ 1000 := by have := hrt.2.1; omega
  have hP := hrt.rgC.lim
  have KR := Lib.hid (right_yes b A c s w5 hd (HB.out.more HA.out) hrt)
  have HP := Lib.hid hP
  have HT : Hid (∀ W, SW w5 W → SW w W) := Lib.hid (fun W h => Below.trans HA.out (Below.mono h HA.out.size))
  have KS : Hid (∀ W, SW w5 W → Calls Try.prog 17 #[.agg #[.string b.name, .int .i64 b.seats, .int .i64 b.over, .slice b.A b.l.length b.c], .slice A s.length c, .int .i64 r, .int .i64 n] W fun e w' => ∃ v, e = .returned (.tuple #[v, .int .i64 (selE b s r n)]) ∧ IntR w' v (selL b s r n) ∧ Below W.heap.size W w') := Lib.hid (fun W h => sell_any b A c s r n W (HB.out.more (HT.out W h)) HP.out hs (HL.out.more (HT.out W h)))
  have KT : Hid (∀ W, SW w5 W → Calls Try.prog 18 #[.agg #[.string b.name, .int .i64 b.seats, .int .i64 b.over, .slice b.A b.l.length b.c], .slice A s.length c, .int .i64 r, .int .i64 n] W fun e w' => ∃ v, e = .returned (.tuple #[v, .int .i64 (selE b s r n)]) ∧ IntR w' v (selL b s r n) ∧ Below W.heap.size W w') := Lib.hid (fun W h => rsell_any b A c s r n W (HB.out.more (HT.out W h)) HP.out hs (HL.out.more (HT.out W h)))
  have KC : Hid (∀ W, SW w5 W → Calls Try.prog 19 #[.agg #[.string b.name, .int .i64 b.seats, .int .i64 b.over, .slice b.A b.l.length b.c], .slice A s.length c, .int .i64 r, .int .i64 n] W fun e w' => ∃ v, e = .returned (.tuple #[v, .int .i64 (canE b s r n)]) ∧ IntR w' v (canL b s r n) ∧ Below W.heap.size W w') := Lib.hid (fun W h => cancel_any b A c s r n W hs (HL.out.more (HT.out W h)))
  have KD : Hid (∀ W, SW w5 W → Calls Try.prog 20 #[.agg #[.string b.name, .int .i64 b.seats, .int .i64 b.over, .slice b.A b.l.length b.c], .slice A s.length c, .int .i64 r, .int .i64 n] W fun e w' => ∃ v, e = .returned (.tuple #[v, .int .i64 (canE b s r n)]) ∧ IntR w' v (canL b s r n) ∧ Below W.heap.size W w') := Lib.hid (fun W h => rcancel_any b A c s r n W hs (HL.out.more (HT.out W h)))
  have KE1 : Hid (∀ (W : World) (u v : Value), IntR W u (selL b s r n) → IntR W v (selL b s r n) → Calls Try.prog 10 #[u, v] W fun e w' => e = .returned (.bool true) ∧ Below W.heap.size W w') := Lib.hid (fun W u v hu hv => sameI_any u v _ W hu hv (selL_bound hs))
  have KE2 : Hid (∀ (W : World) (u v : Value), IntR W u (canL b s r n) → IntR W v (canL b s r n) → Calls Try.prog 10 #[u, v] W fun e w' => e = .returned (.bool true) ∧ Below W.heap.size W w') := Lib.hid (fun W u v hu hv => sameI_any u v _ W hu hv (canL_bound hs))
  clear hrt hP
  generalize selE b s r n = se at *
  generalize canE b s r n = ce at *
  go_enter Try.func4, Try.ntmps4
  go_upto_region 1 with fail
  try rw [hW5]
  rw [← hB0]
  clear hW5 hB0
  go_upto_region 3 with (go_at_call 8; refine KR.out.mono ?_; rintro e w6 ⟨rfl, hb6⟩)
  have hS := hb6
  clear c0 c1 c2 c3 d0 d1 hb6
  have c0 := Q0.out _ hS
  have c1 := Q1.out _ hS
  have c2 := Q2.out _ hS
  have c3 := Q3.out _ hS
  have d0 := P0.out _ hS
  have d1 := P1.out _ hS
  go_upto_region 4 with (go_at_call 17; refine (KS.out _ hS).mono ?_; rintro e w7 ⟨v7, rfl, hv7, hb⟩)
  replace hS := Below.trans hS (Below.mono hb hS.size)
  clear c0 c1 c2 c3 d0 d1 hb
  have c0 := Q0.out _ hS
  have c1 := Q1.out _ hS
  have c2 := Q2.out _ hS
  have c3 := Q3.out _ hS
  have d0 := P0.out _ hS
  have d1 := P1.out _ hS
  go_upto_region 5 with (go_at_call 18; refine (KT.out _ hS).mono ?_; rintro e w8 ⟨v8, rfl, hv8, hb⟩)
  have hv7 := RowL.more hv7 hb
  replace hS := Below.trans hS (Below.mono hb hS.size)
  clear c0 c1 c2 c3 d0 d1 hb
  have c0 := Q0.out _ hS
  have c1 := Q1.out _ hS
  have c2 := Q2.out _ hS
  have c3 := Q3.out _ hS
  have d0 := P0.out _ hS
  have d1 := P1.out _ hS
  go_upto_region 6 with (go_at_call 19; refine (KC.out _ hS).mono ?_; rintro e w9 ⟨v9, rfl, hv9, hb⟩)
  have hv7 := RowL.more hv7 hb
  have hv8 := RowL.more hv8 hb
  replace hS := Below.trans hS (Below.mono hb hS.size)
  clear c0 c1 c2 c3 d0 d1 hb
  have c0 := Q0.out _ hS
  have c1 := Q1.out _ hS
  have c2 := Q2.out _ hS
  have c3 := Q3.out _ hS
  have d0 := P0.out _ hS
  have d1 := P1.out _ hS
  go_upto_region 7 with (go_at_call 20; refine (KD.out _ hS).mono ?_; rintro e w10 ⟨v10, rfl, hv10, hb⟩)
  have hv7 := RowL.more hv7 hb
  have hv8 := RowL.more hv8 hb
  replace hv9 := RowL.more hv9 hb
  replace hS := Below.trans hS (Below.mono hb hS.size)
  clear c0 c1 c2 c3 d0 d1 hb
  clear KS KT KC KD KR
  go_wp2_with (go_at_call 10; refine (KE1.out _ _ _ hv7 hv8).mono ?_; rintro e w11 ⟨rfl, hb⟩; replace hv9 := RowL.more hv9 hb; replace hv10 := RowL.more hv10 hb; replace hS := Below.trans hS (Below.mono hb hS.size); clear hb hv7 hv8; refine Hid.out ?_)
  refine Lib.hid ?_
  have g1 : (se == se) = true := by simp
  have g2 : (ce == ce) = true := by simp
  clear KE1
  go_wp2_with (go_at_call 10; refine (KE2.out _ _ _ hv9 hv10).mono ?_; rintro e w12 ⟨rfl, hb⟩; replace hS := Below.trans hS (Below.mono hb hS.size); clear hb hv9 hv10; refine Hid.out ?_)
  refine Lib.hid ?_
  clear KE2
  go_wp2_with (go_at_call 9; refine (KA.out _).mono ?_; rintro e wd ⟨rfl, hb⟩; replace hS := Below.trans hS (Below.mono hb hS.size))
  go_ret
  exact ⟨rfl, HT.out _ hS⟩
end Go.Proofs.Ytnakdacnfbgpnaa
