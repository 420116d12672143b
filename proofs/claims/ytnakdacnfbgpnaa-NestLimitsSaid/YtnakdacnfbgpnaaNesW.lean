/- The law NestPlays. -/
import Derived.Test.YtnakdacnfbgpnaaNesJ
import Derived.Test.YtnakdacnfbgpnaaNesQ
import Derived.Deep.OwnRows
import Derived.Deep.LoopGhost
import Derived.BigQuiet
import Derived.Deep.CutRange
import Derived.Deep.CutBlock
namespace Go.Proofs.Ytnakdacnfbgpnaa
open Go.RowKit Go.Shelf
set_option linter.unusedSimpArgs false
set_option linter.unusedVariables false

def encQ (p : Int × Int) : List Value := [.int .i64 p.1, .int .i64 p.2]
theorem nes_len {b : Cb} {s : List Int} (h : fitB b s = true) : s.length = b.l.length := (rgtB_yes ((fitB_iff b s).1 h).1).1
set_option maxRecDepth 100000 in
set_option maxHeartbeats 16000000 in
theorem nestPlays_walk (b : Cb) (A : Option Addr) (c : Nat) (l : List (Int × Int)) (w : World) (hd : RdC b) (hb : CbAt w b) (hL : RowL 2 encQ w (.slice A l.length c) l) (hq : ∀ p ∈ l, -9223372036854775808 ≤ p.2 ∧ p.2 ≤ 9223372036854775807) (hh : b.l.length < 9223372036854775808) (hh2 : l.length < 9223372036854775808) :
    Calls Try.prog 7 #[aggCb b, .slice A l.length c] w fun e w' => e = .returned (.bool true) ∧ Below w.heap.size w w' := by
  have KA := Lib.hid awake_any
  have hbA := bel_alloc w (.cells #[.string b.name, .int .i64 b.seats, .int .i64 b.over, .slice b.A b.l.length b.c] cbT)
  have q0 := cb_cells w b 0 _ rfl
  have q1 := cb_cells w b 1 _ rfl
  have q2 := cb_cells w b 2 _ rfl
  have q3 := cb_cells w b 3 _ rfl
  have hA0 := hbA
  obtain ⟨B, hB0⟩ : ∃ B, B = w.heap.size := ⟨_, rfl⟩
  rw [← hB0] at q0 q1 q2 q3 
  have HA := Lib.hid hA0
  have HB := Lib.hid hb
  have HL := Lib.hid hL
  clear hb hL hbA  hA0
  obtain ⟨w5, hW5⟩ : ∃ w5, (w.alloc (.cells #[.string b.name, .int .i64 b.seats, .int .i64 b.over, .slice b.A b.l.length b.c] cbT)) = w5 := ⟨_, rfl⟩
  rw [hW5] at HA q0 q1 q2 q3 
  have Q0 := Lib.hid (fun W (h : SW w5 W) => bel_get q0 _ h)
  have Q1 := Lib.hid (fun W (h : SW w5 W) => bel_get q1 _ h)
  have Q2 := Lib.hid (fun W (h : SW w5 W) => bel_get q2 _ h)
  have Q3 := Lib.hid (fun W (h : SW w5 W) => bel_get q3 _ h)
  have HT : Hid (∀ W, SW w5 W → SW w W) := Lib.hid (fun W h => Below.trans HA.out (Below.mono h HA.out.size))
  clear q0 q1 q2 q3 
  have hnil : IntR w5 (.slice none 0 0) [] := ⟨none, 0, rfl, .inl rfl⟩
  by_cases hrt : rtP b []
  rotate_left
  · have KR := Lib.hid (right_no b none 0 [] w5 hd (HB.out.more HA.out) hnil hh (by simp) hrt)
    rw [List.length_nil] at KR
    clear hrt
    go_enter Try.func7, Try.ntmps7
    go_upto_region 1 with fail
    try rw [hW5]
    rw [← hB0]
    clear hW5 hB0
    have c0 := Q0.out _ (Below.refl _ _)
    have c1 := Q1.out _ (Below.refl _ _)
    have c2 := Q2.out _ (Below.refl _ _)
    have c3 := Q3.out _ (Below.refl _ _)
    go_wp2_with (first
      | (go_at_call 9; refine (KA.out _).mono ?_; rintro e wd ⟨rfl, hbd⟩)
      | (go_at_call 8; refine KR.out.mono ?_; rintro e w6 ⟨rfl, hS⟩))
    go_ret
    exact ⟨rfl, HT.out _ (hS.trans (hbd.mono hS.size))⟩
  have hg := hrt.rgC
  have HP := Lib.hid hg.lim
  have KR := Lib.hid (right_yes b none 0 [] w5 hd (HB.out.more HA.out) hrt)
  rw [List.length_nil] at KR
  by_cases hl40 : l.length ≤ 40
  rotate_left
  · have i1 : (40 : Int) < (l.length : Int) := by omega
    clear hrt hg
    go_enter Try.func7, Try.ntmps7
    go_upto_region 1 with fail
    try rw [hW5]
    rw [← hB0]
    clear hW5 hB0
    have c0 := Q0.out _ (Below.refl _ _)
    have c1 := Q1.out _ (Below.refl _ _)
    have c2 := Q2.out _ (Below.refl _ _)
    have c3 := Q3.out _ (Below.refl _ _)
    go_wp2_with (first
      | (go_at_call 9; refine (KA.out _).mono ?_; rintro e wd ⟨rfl, hbd⟩)
      | (go_at_call 8; refine KR.out.mono ?_; rintro e w6 ⟨rfl, hS⟩))
    go_ret
    exact ⟨rfl, HT.out _ (hS.trans (hbd.mono hS.size))⟩
  have i1 : ¬ (40 : Int) < (l.length : Int) := by omega
  have hn30 : b.l.length ≤ 30 := hrt.1
  obtain ⟨n, hn⟩ : ∃ n, n = b.l.length := ⟨_, rfl⟩
  have HFZ : Hid (fitB b (List.replicate n 0) = true) := Lib.hid (by rw [hn]; exact fit_zeros hg)
  have KS : Hid (∀ (A5 : Option Addr) (c5 : Nat) (cur : List Int) (r m : Int) (W : World), SW w5 W → IntR W (.slice A5 n c5) cur → cur.length = n → Calls Try.prog 17 #[.agg #[.string b.name, .int .i64 b.seats, .int .i64 b.over, .slice b.A b.l.length b.c], .slice A5 n c5, .int .i64 r, .int .i64 m] W fun e w' => ∃ v, e = .returned (.tuple #[v, .int .i64 (selE b cur r m)]) ∧ IntR w' v (selL b cur r m) ∧ Below W.heap.size W w') := Lib.hid (fun A5 c5 cur r m W h hv hlen => by
    have k := sell_any b A5 c5 cur r m W (HB.out.more (HT.out W h)) HP.out (by omega) (by rw [hlen]; exact hv)
    rw [hlen] at k
    exact k)
  have KC : Hid (∀ (A5 : Option Addr) (c5 : Nat) (cur : List Int) (r m : Int) (W : World), SW w5 W → IntR W (.slice A5 n c5) cur → cur.length = n → Calls Try.prog 19 #[.agg #[.string b.name, .int .i64 b.seats, .int .i64 b.over, .slice b.A b.l.length b.c], .slice A5 n c5, .int .i64 r, .int .i64 m] W fun e w' => ∃ v, e = .returned (.tuple #[v, .int .i64 (canE b cur r m)]) ∧ IntR w' v (canL b cur r m) ∧ Below W.heap.size W w') := Lib.hid (fun A5 c5 cur r m W h hv hlen => by
    have k := cancel_any b A5 c5 cur r m W (by omega) (by rw [hlen]; exact hv)
    rw [hlen] at k
    exact k)
  have KF : Hid (∀ (A5 : Option Addr) (c5 : Nat) (cur : List Int) (W : World), SW w5 W → IntR W (.slice A5 n c5) cur → cur.length = n → fitB b cur = true → Calls Try.prog 13 #[.agg #[.string b.name, .int .i64 b.seats, .int .i64 b.over, .slice b.A b.l.length b.c], .slice A5 n c5] W fun e w' => e = .returned (.bool true) ∧ Below W.heap.size W w') := Lib.hid (fun A5 c5 cur W h hv hlen hf => by
    have k := fits_any b A5 c5 cur W (HB.out.more (HT.out W h)) HP.out (by omega) (by rw [hlen]; exact hv)
    rw [hlen, hf] at k
    exact k)
  have KU : Hid (∀ W, Calls Try.prog 21 #[.agg #[.string b.name, .int .i64 b.seats, .int .i64 b.over, .slice b.A b.l.length b.c]] W fun e w' => e = .returned (.int .i64 (b.seats + b.over)) ∧ Below W.heap.size W w') := Lib.hid (fun W => rauth_any b W HP.out.siz)
  obtain ⟨ln, hln⟩ : ∃ ln, ln = l.length := ⟨_, rfl⟩
  have HLN := Lib.hid hln
  have HNB := Lib.hid hn
  have HQQ := Lib.hid hq
  have hsiz := sizB_in hg.lim.siz
  rw [← hln] at HL i1 hl40 hh2
  have hn30' : n ≤ 30 := by omega
  obtain ⟨i0, hi, hz0, hz1, hz2⟩ := info_parts intT
  have HI := Lib.hid hi
  have HZ0 := Lib.hid hz0
  have HZ1 := Lib.hid hz1
  have HZ2 := Lib.hid hz2
  clear hrt hg hi hz0 hz1 hz2 hq
  go_enter Try.func7, Try.ntmps7
  go_upto_region 1 with fail
  try rw [hW5]
  rw [← hB0, ← hln]
  clear hW5 hB0 hln
  have c0 := Q0.out _ (Below.refl _ _)
  have c1 := Q1.out _ (Below.refl _ _)
  have c2 := Q2.out _ (Below.refl _ _)
  have c3 := Q3.out _ (Below.refl _ _)
  go_upto_region 3 with (go_at_call 8; refine KR.out.mono ?_; rintro e w6 ⟨rfl, hS6⟩)
  clear c0 c1 c2 c3 KR
  have c0 := Q0.out _ hS6
  have c1 := Q1.out _ hS6
  have c2 := Q2.out _ hS6
  have c3 := Q3.out _ hS6
  go_upto_region 4 with (at_make; refine wpList_make_row _ rfl _ _ 25 rfl 3 i0 (.int .i64 0) Try.underlying25 HI.out HZ0.out HZ1.out rfl _ _ b.l.length rfl rfl (by rw [HZ2.out]; omega) (by omega) ?_)
  rw [← hn]
  have HR7 : Hid (IntR (w6.alloc (.cells (madeCells #[.int .i64 0] n) 3)) (.slice (some ⟨w6.heap.size, 0, none⟩) n n) (List.replicate n 0)) := Lib.hid (by
    have h := (Row.made w6 n 3).intR (c := n)
    rw [List.length_replicate] at h
    exact h)
  have HS7 : Hid (SW w5 (w6.alloc (.cells (madeCells #[.int .i64 0] n) 3))) := Lib.hid (Below.trans hS6 (Below.mono (bel_alloc w6 _) hS6.size))
  clear c0 c1 c2 c3 hn HI HZ0 HZ1 HZ2 hn30
  generalize w6.alloc (.cells (madeCells #[.int .i64 0] n) 3) = w7 at *
  clear hS6
  go_wp2
  go_loopw [5, 6] (fun v5 v6 wr => ∃ (A5 : Option Addr) (c5 : Nat) (cur : List Int) (i : Nat), v5 = .slice A5 n c5 ∧ v6 = .int .i64 i ∧ i ≤ ln ∧ Hid (IntR wr (.slice A5 n c5) cur ∧ cur.length = n ∧ fitB b cur = true) ∧ Hid (SW w5 wr)) (fun _ v6 _ => ln - (intOf v6).toNat)
  case atStart => exact ⟨_, _, _, 0, rfl, rfl, Nat.zero_le _, Lib.hid ⟨HR7.out, List.length_replicate .., HFZ.out⟩, HS7⟩
  case round =>
    obtain ⟨A5, c5, cur, i, rfl, rfl, hil, HC, HT0⟩ := hrel
    clear HR7 HS7
    by_cases hlt : i < ln
    rotate_left
    · have i2 : ¬ (i : Int) < (ln : Int) := by omega
      go_wp2_with (go_at_call 9; refine (KA.out _).mono ?_; rintro e wd ⟨rfl, hbd⟩)
      go_ret
      exact ⟨rfl, HT.out _ (Below.trans HT0.out (Below.mono hbd HT0.out.size))⟩
    have i2 : (i : Int) < (ln : Int) := by omega
    obtain ⟨q, hq⟩ : ∃ q, l[i]? = some q := ⟨_, List.getElem?_eq_getElem (by have := HLN.out; omega)⟩
    obtain ⟨bl, ol, el, hgl, hcl⟩ := row_get (HL.out.more (HT.out _ HT0.out)) hq
    have hqb := HQQ.out q (List.mem_of_getElem? hq)
    subst el
    have z0 := hcl 0 _ rfl
    have z1 := hcl 1 _ rfl
    rw [Nat.add_zero] at z0
    have k0 := Q0.out _ HT0.out
    have k1 := Q1.out _ HT0.out
    have k2 := Q2.out _ HT0.out
    have k3 := Q3.out _ HT0.out
    clear hcl hgl hq
    go_upto_region 7 with fail
    have f0 : ∀ W, SW wr W → W.cell? ⟨B, 0, none⟩ = some (Value.string b.name) := fun W h => bel_get k0 _ h
    have f1 : ∀ W, SW wr W → W.cell? ⟨B, 1, none⟩ = some (Value.int .i64 b.seats) := fun W h => bel_get k1 _ h
    have f2 : ∀ W, SW wr W → W.cell? ⟨B, 2, none⟩ = some (Value.int .i64 b.over) := fun W h => bel_get k2 _ h
    have f3 : ∀ W, SW wr W → W.cell? ⟨B, 3, none⟩ = some (Value.slice b.A b.l.length b.c) := fun W h => bel_get k3 _ h
    have f4 : ∀ W, SW wr W → W.cell? ⟨bl, ol + i * 2, none⟩ = some (Value.int .i64 q.1) := fun W h => bel_get z0 _ h
    have f5 : ∀ W, SW wr W → W.cell? ⟨bl, ol + i * 2 + 1, none⟩ = some (Value.int .i64 q.2) := fun W h => bel_get z1 _ h
    clear k0 k1 k2 k3 z0 z1
    have hS : (SW wr) _ := SW.drew _
    refine wp_region_held_drew (S := SW wr) (by kernel_rfl) hS (fun _ => ?_)
    refine wpAnyH_take (i := 0) (v := ?vS0) rfl (by kernel_rfl) (by kernel_rfl) (by kernel_rfl) (fun _ _ _ h => h) (Or.inl ⟨by rfl, ?hyS0⟩) hS ?restS0
    case hyS0 =>
      intro w hSw
      have k0 := f0 w hSw; have k1 := f1 w hSw; have k2 := f2 w hSw; have k3 := f3 w hSw; have k4 := f4 w hSw; have k5 := f5 w hSw
      first | (go_simp; done) | (go_simp; with_reducible rfl)
    try simp only [Act.put, List.setIfInBounds_toArray, List.set_cons_zero, List.set_cons_succ]
    refine wpAnyH_take (i := 1) (v := ?vS1) rfl (by kernel_rfl) (by kernel_rfl) (by kernel_rfl) (fun _ _ _ h => h) (Or.inl ⟨by rfl, ?hyS1⟩) hS ?restS1
    case hyS1 =>
      intro w hSw
      first | (go_simp; done) | (go_simp; with_reducible rfl)
    try simp only [Act.put, List.setIfInBounds_toArray, List.set_cons_zero, List.set_cons_succ]
    refine wpAnyH_take (i := 2) (v := ?vS2) rfl (by kernel_rfl) (by kernel_rfl) (by kernel_rfl) (fun _ _ _ h => h) (Or.inl ⟨by rfl, ?hyS2⟩) hS ?restS2
    case hyS2 =>
      intro w hSw
      first | (go_simp; done) | (go_simp; with_reducible rfl)
    try simp only [Act.put, List.setIfInBounds_toArray, List.set_cons_zero, List.set_cons_succ]
    refine wpAnyH_take (i := 3) (v := ?vS3) rfl (by kernel_rfl) (by kernel_rfl) (by kernel_rfl) (fun _ _ _ h => h) (Or.inl ⟨by rfl, ?hyS3⟩) hS ?restS3
    case hyS3 =>
      intro w hSw
      first | (go_simp; done) | (go_simp; with_reducible rfl)
    try simp only [Act.put, List.setIfInBounds_toArray, List.set_cons_zero, List.set_cons_succ]
    refine wpAnyH_take (i := 4) (v := ?vS4) rfl (by kernel_rfl) (by kernel_rfl) (by kernel_rfl) (fun _ _ _ h => h) (Or.inl ⟨by rfl, ?hyS4⟩) hS ?restS4
    case hyS4 =>
      intro w hSw
      have k0 := f0 w hSw; have k1 := f1 w hSw; have k2 := f2 w hSw; have k3 := f3 w hSw; have k4 := f4 w hSw; have k5 := f5 w hSw
      first | (go_simp; done) | (go_simp; with_reducible rfl)
    try simp only [Act.put, List.setIfInBounds_toArray, List.set_cons_zero, List.set_cons_succ]
    refine wpAnyH_take (i := 5) (v := ?vS5) rfl (by kernel_rfl) (by kernel_rfl) (by kernel_rfl) (fun _ _ _ h => h) (Or.inl ⟨by rfl, ?hyS5⟩) hS ?restS5
    case hyS5 =>
      intro w hSw
      have k0 := f0 w hSw; have k1 := f1 w hSw; have k2 := f2 w hSw; have k3 := f3 w hSw; have k4 := f4 w hSw; have k5 := f5 w hSw
      first | (go_simp; done) | (go_simp; with_reducible rfl)
    try simp only [Act.put, List.setIfInBounds_toArray, List.set_cons_zero, List.set_cons_succ]
    refine wpAnyH_take (i := 6) (v := ?vS6) rfl (by kernel_rfl) (by kernel_rfl) (by kernel_rfl) (fun _ _ _ h => h) (Or.inl ⟨by rfl, ?hyS6⟩) hS ?restS6
    case hyS6 =>
      intro w hSw
      have k0 := f0 w hSw; have k1 := f1 w hSw; have k2 := f2 w hSw; have k3 := f3 w hSw; have k4 := f4 w hSw; have k5 := f5 w hSw
      first | (go_simp; done) | (go_simp; with_reducible rfl)
    try simp only [Act.put, List.setIfInBounds_toArray, List.set_cons_zero, List.set_cons_succ]
    refine wpAnyH_take (i := 7) (v := ?vS7) rfl (by kernel_rfl) (by kernel_rfl) (by kernel_rfl) (fun _ _ _ h => h) (Or.inl ⟨by rfl, ?hyS7⟩) hS ?restS7
    case hyS7 =>
      intro w hSw
      first | (go_simp; done) | (go_simp; with_reducible rfl)
    try simp only [Act.put, List.setIfInBounds_toArray, List.set_cons_zero, List.set_cons_succ]
    refine wpAnyH_take (i := 8) (v := ?vS8) rfl (by kernel_rfl) (by kernel_rfl) (by kernel_rfl) (fun _ _ _ h => h) (Or.inl ⟨by rfl, ?hyS8⟩) hS ?restS8
    case hyS8 =>
      intro w hSw
      first | (go_simp; done) | (go_simp; with_reducible rfl)
    try simp only [Act.put, List.setIfInBounds_toArray, List.set_cons_zero, List.set_cons_succ]
    refine wpAnyH_take (i := 9) (v := ?vS9) rfl (by kernel_rfl) (by kernel_rfl) (by kernel_rfl) (fun _ _ _ h => h) (Or.inl ⟨by rfl, ?hyS9⟩) hS ?restS9
    case hyS9 =>
      intro w hSw
      have k0 := f0 w hSw; have k1 := f1 w hSw; have k2 := f2 w hSw; have k3 := f3 w hSw; have k4 := f4 w hSw; have k5 := f5 w hSw
      first | (go_simp; done) | (go_simp; with_reducible rfl)
    try simp only [Act.put, List.setIfInBounds_toArray, List.set_cons_zero, List.set_cons_succ]
    refine wpAnyH_take (i := 10) (v := ?vS10) rfl (by kernel_rfl) (by kernel_rfl) (by kernel_rfl) (fun _ _ _ h => h) (Or.inl ⟨by rfl, ?hyS10⟩) hS ?restS10
    case hyS10 =>
      intro w hSw
      have k0 := f0 w hSw; have k1 := f1 w hSw; have k2 := f2 w hSw; have k3 := f3 w hSw; have k4 := f4 w hSw; have k5 := f5 w hSw
      first | (go_simp; done) | (go_simp; with_reducible rfl)
    try simp only [Act.put, List.setIfInBounds_toArray, List.set_cons_zero, List.set_cons_succ]
    refine wpAnyH_take (i := 11) (v := ?vS11) rfl (by kernel_rfl) (by kernel_rfl) (by kernel_rfl) (fun _ _ _ h => h) (Or.inl ⟨by rfl, ?hyS11⟩) hS ?restS11
    case hyS11 =>
      intro w hSw
      have k0 := f0 w hSw; have k1 := f1 w hSw; have k2 := f2 w hSw; have k3 := f3 w hSw; have k4 := f4 w hSw; have k5 := f5 w hSw
      first | (go_simp; done) | (go_simp; with_reducible rfl)
    try simp only [Act.put, List.setIfInBounds_toArray, List.set_cons_zero, List.set_cons_succ]
    refine wpAnyH_ready (rs := [12]) (by kernel_rfl) (by simp) ?_
    refine AllReadyH.cons rfl (fun K hK => ?_) AllReadyH.nil
    go_simp
    go_wp2_with ((go_at_call 17; refine (KS.out _ _ _ _ _ _ (Below.trans HT0.out (Below.mono hS HT0.out.size)) (RowL.more HC.out.1 hS) HC.out.2.1).mono ?_; rintro e wz ⟨vx, rfl, hvx, hb⟩; have hS := Below.trans hS (Below.mono hb hS.size)))
    refine hK.out _ _ hS (fun _ => ?_)
    clear hK K
    refine wpAnyH_take (i := 13) (v := ?vS13) rfl (by kernel_rfl) (by kernel_rfl) (by kernel_rfl) (fun _ _ _ h => h) (Or.inl ⟨by rfl, ?hyS13⟩) hS ?restS13
    case hyS13 =>
      intro w hSw
      first | (go_simp; done) | (go_simp; with_reducible rfl)
    try simp only [Act.put, List.setIfInBounds_toArray, List.set_cons_zero, List.set_cons_succ]
    refine wpAnyH_take (i := 14) (v := ?vS14) rfl (by kernel_rfl) (by kernel_rfl) (by kernel_rfl) (fun _ _ _ h => h) (Or.inl ⟨by rfl, ?hyS14⟩) hS ?restS14
    case hyS14 =>
      intro w hSw
      first | (go_simp; done) | (go_simp; with_reducible rfl)
    try simp only [Act.put, List.setIfInBounds_toArray, List.set_cons_zero, List.set_cons_succ]
    refine wpAnyH_take (i := 15) (v := ?vS15) rfl (by kernel_rfl) (by kernel_rfl) (by kernel_rfl) (fun _ _ _ h => h) (Or.inl ⟨by rfl, ?hyS15⟩) hS ?restS15
    case hyS15 =>
      intro w hSw
      first | (go_simp; done) | (go_simp; with_reducible rfl)
    try simp only [Act.put, List.setIfInBounds_toArray, List.set_cons_zero, List.set_cons_succ]
    refine wpAnyH_take (i := 16) (v := ?vS16) rfl (by kernel_rfl) (by kernel_rfl) (by kernel_rfl) (fun _ _ _ h => h) (Or.inl ⟨by rfl, ?hyS16⟩) hS ?restS16
    case hyS16 =>
      intro w hSw
      first | (go_simp; done) | (go_simp; with_reducible rfl)
    try simp only [Act.put, List.setIfInBounds_toArray, List.set_cons_zero, List.set_cons_succ]
    refine wpAnyH_take (i := 17) (v := ?vS17) rfl (by kernel_rfl) (by kernel_rfl) (by kernel_rfl) (fun _ _ _ h => h) (Or.inl ⟨by rfl, ?hyS17⟩) hS ?restS17
    case hyS17 =>
      intro w hSw
      first | (go_simp; done) | (go_simp; with_reducible rfl)
    try simp only [Act.put, List.setIfInBounds_toArray, List.set_cons_zero, List.set_cons_succ]
    refine wpAnyH_done (by kernel_rfl) ?_ _
    try simp only [List.getElem_toArray, List.getElem_cons_succ, List.getElem_cons_zero, List.set_cons_zero, List.set_cons_succ]
    try simp only [List.setIfInBounds_toArray, List.set_cons_zero, List.set_cons_succ]
    have hTz : SW w5 wz := Below.trans HT0.out (Below.mono hS HT0.out.size)
    have p0 := f4 _ hS
    have p1 := f5 _ hS
    by_cases h1 : q.2 < 0
    rotate_left
    · go_upto_region 10 with fail
      clear p0 p1 f0 f1 f2 f3 f4 f5 h1
      by_cases hE : selE b cur q.1 q.2 = 0
      · obtain ⟨hf2, hl2⟩ := fit_sel HP.out HC.out.2.2 hE
        obtain ⟨A6, c6, e6, _⟩ := id hvx
        rw [hl2, HC.out.2.1] at e6
        subst e6
        have g7 : (selE b cur q.1 q.2 == 0) = true := by simpa using hE
        rw [hE]
        have HX := Lib.hid (show IntR wz (.slice A6 n c6) (selL b cur q.1 q.2) ∧ (selL b cur q.1 q.2).length = n ∧ fitB b (selL b cur q.1 q.2) = true from ⟨hvx, (by rw [hl2]; exact HC.out.2.1), hf2⟩)
        have HTT : Hid (SW w5 wz) := Lib.hid hTz
        have HSU : Hid (∀ j, 0 ≤ nsF (selL b cur q.1 q.2) j ∧ nsF (selL b cur q.1 q.2) j ≤ 300000) := Lib.hid (fun j => by
          obtain ⟨h1, h2⟩ := (fitB_iff b _).1 HX.out.2.2
          have := nsF_in _ (rgtB_yes h1).2 j
          rw [HX.out.2.1] at this
          omega)
        have HSM : Hid (nsF (selL b cur q.1 q.2) 0 ≤ b.seats + b.over) := Lib.hid (sum_le HP.out HX.out.2.2)
        go_upto_region 14 with fail
        clear g7 hvx hf2 hl2 hTz
        go_loop [9, 10] (fun s9 s10 => ∃ j : Nat, j ≤ n ∧ s10 = .int .i64 j ∧ s9 = .int .i64 (nsF (selL b cur q.1 q.2) 0 - nsF (selL b cur q.1 q.2) j)) (fun _ s10 => n - (intOf s10).toNat)
        case atStart => exact ⟨0, Nat.zero_le _, rfl, by rw [Int.sub_self]⟩
        case round =>
          obtain ⟨j, hj, rfl, rfl⟩ := hrel
          by_cases hjn : j < n
          · obtain ⟨x, hx⟩ : ∃ x, (selL b cur q.1 q.2)[j]? = some x := ⟨_, List.getElem?_eq_getElem (by have := HX.out.2.1; omega)⟩
            obtain ⟨bs, os, e1, z1⟩ := int_at HX.out.1 hx
            subst e1
            have hst := nsF_step _ j x hx
            have g1 := HSU.out 0
            have g2 := HSU.out j
            have g3 := HSU.out (j + 1)
            have HE : Hid (nsF (selL b cur q.1 q.2) 0 - nsF (selL b cur q.1 q.2) j + x = nsF (selL b cur q.1 q.2) 0 - nsF (selL b cur q.1 q.2) (j + 1)) := Lib.hid (by omega)
            have hw : wrap64 (nsF (selL b cur q.1 q.2) 0 - nsF (selL b cur q.1 q.2) j + x) = nsF (selL b cur q.1 q.2) 0 - nsF (selL b cur q.1 q.2) j + x := by unfold wrap64; omega
            have i5 : (j : Int) < (n : Int) := by omega
            clear hx hst g1 g2 g3
            generalize nsF (selL b cur q.1 q.2) 0 - nsF (selL b cur q.1 q.2) j = dd at *
            go_wp2
            go_round
            case rel => exact ⟨j + 1, by omega, by go_num, by first | rw [hw, HE.out] | rw [HE.out]⟩
            case measure => simp [intOf]; omega
          · obtain rfl : j = n := by omega
            have e0 : nsF (selL b cur q.1 q.2) 0 - nsF (selL b cur q.1 q.2) j = nsF (selL b cur q.1 q.2) 0 := by rw [nsF_end _ j (by have := HX.out.2.1; omega)]; omega
            rw [e0]
            have g1 := HSM.out
            clear e0
            have KFx := Lib.hid (KF.out _ _ _ _ HTT.out HX.out.1 HX.out.2.1 HX.out.2.2)
            generalize nsF (selL b cur q.1 q.2) 0 = sm at *
            have c0 := Q0.out _ HTT.out
            have c1 := Q1.out _ HTT.out
            have c2 := Q2.out _ HTT.out
            have c3 := Q3.out _ HTT.out
            go_wp2_with (go_at_call 13; refine KFx.out.mono ?_; rintro e wf ⟨rfl, hbf⟩; refine Hid.out ?_)
            refine Lib.hid ?_
            have hTf := Below.trans HTT.out (Below.mono hbf HTT.out.size)
            clear c0 c1 c2 c3
            have c0 := Q0.out _ hTf
            have c1 := Q1.out _ hTf
            have c2 := Q2.out _ hTf
            have c3 := Q3.out _ hTf
            have g2 : ¬ b.seats + b.over < sm := by omega
            go_wp2_with (go_at_call 21; refine (KU.out _).mono ?_; rintro e wu ⟨rfl, hbu⟩)
            have HRR : Hid (IntR wu (.slice A6 j c6) (selL b cur q.1 q.2) ∧ (selL b cur q.1 q.2).length = j ∧ fitB b (selL b cur q.1 q.2) = true) := Lib.hid ⟨RowL.more (RowL.more HX.out.1 hbf) hbu, HX.out.2⟩
            have HTU : Hid (SW w5 wu) := Lib.hid (hTf.trans (hbu.mono hTf.size))
            have i3 : i + 1 ≤ ln := by omega
            clear c0 c1 c2 c3 hbf hbu hTf
            go_roundw
            case rel => exact ⟨_, _, _, i + 1, rfl, by go_num, i3, HRR, HTU⟩
            case measure => simp [intOf]; omega
      · have g7 : (selE b cur q.1 q.2 == 0) = false := by simpa using hE
        have g8 : ¬ selE b cur q.1 q.2 = 0 := hE
        have hv5 := RowL.more HC.out.1 (hS)
        clear hE
        have HX := Lib.hid (show IntR wz (.slice A5 n c5) cur ∧ cur.length = n ∧ fitB b cur = true from ⟨hv5, HC.out.2.1, HC.out.2.2⟩)
        have HTT : Hid (SW w5 wz) := Lib.hid hTz
        have HSU : Hid (∀ j, 0 ≤ nsF cur j ∧ nsF cur j ≤ 300000) := Lib.hid (fun j => by
          obtain ⟨h1, h2⟩ := (fitB_iff b _).1 HX.out.2.2
          have := nsF_in _ (rgtB_yes h1).2 j
          rw [HX.out.2.1] at this
          omega)
        have HSM : Hid (nsF cur 0 ≤ b.seats + b.over) := Lib.hid (sum_le HP.out HX.out.2.2)
        go_upto_region 14 with fail
        clear g7 g8 hv5 hvx hTz
        go_loop [9, 10] (fun s9 s10 => ∃ j : Nat, j ≤ n ∧ s10 = .int .i64 j ∧ s9 = .int .i64 (nsF cur 0 - nsF cur j)) (fun _ s10 => n - (intOf s10).toNat)
        case atStart => exact ⟨0, Nat.zero_le _, rfl, by rw [Int.sub_self]⟩
        case round =>
          obtain ⟨j, hj, rfl, rfl⟩ := hrel
          by_cases hjn : j < n
          · obtain ⟨x, hx⟩ : ∃ x, cur[j]? = some x := ⟨_, List.getElem?_eq_getElem (by have := HX.out.2.1; omega)⟩
            obtain ⟨bs, os, e1, z1⟩ := int_at HX.out.1 hx
            subst e1
            have hst := nsF_step _ j x hx
            have g1 := HSU.out 0
            have g2 := HSU.out j
            have g3 := HSU.out (j + 1)
            have HE : Hid (nsF cur 0 - nsF cur j + x = nsF cur 0 - nsF cur (j + 1)) := Lib.hid (by omega)
            have hw : wrap64 (nsF cur 0 - nsF cur j + x) = nsF cur 0 - nsF cur j + x := by unfold wrap64; omega
            have i5 : (j : Int) < (n : Int) := by omega
            clear hx hst g1 g2 g3
            generalize nsF cur 0 - nsF cur j = dd at *
            go_wp2
            go_round
            case rel => exact ⟨j + 1, by omega, by go_num, by first | rw [hw, HE.out] | rw [HE.out]⟩
            case measure => simp [intOf]; omega
          · obtain rfl : j = n := by omega
            have e0 : nsF cur 0 - nsF cur j = nsF cur 0 := by rw [nsF_end _ j (by have := HX.out.2.1; omega)]; omega
            rw [e0]
            have g1 := HSM.out
            clear e0
            have KFx := Lib.hid (KF.out _ _ _ _ HTT.out HX.out.1 HX.out.2.1 HX.out.2.2)
            generalize nsF cur 0 = sm at *
            have c0 := Q0.out _ HTT.out
            have c1 := Q1.out _ HTT.out
            have c2 := Q2.out _ HTT.out
            have c3 := Q3.out _ HTT.out
            go_wp2_with (go_at_call 13; refine KFx.out.mono ?_; rintro e wf ⟨rfl, hbf⟩; refine Hid.out ?_)
            refine Lib.hid ?_
            have hTf := Below.trans HTT.out (Below.mono hbf HTT.out.size)
            clear c0 c1 c2 c3
            have c0 := Q0.out _ hTf
            have c1 := Q1.out _ hTf
            have c2 := Q2.out _ hTf
            have c3 := Q3.out _ hTf
            have g2 : ¬ b.seats + b.over < sm := by omega
            go_wp2_with (go_at_call 21; refine (KU.out _).mono ?_; rintro e wu ⟨rfl, hbu⟩)
            have HRR : Hid (IntR wu (.slice A5 j c5) cur ∧ cur.length = j ∧ fitB b cur = true) := Lib.hid ⟨RowL.more (RowL.more HX.out.1 hbf) hbu, HX.out.2⟩
            have HTU : Hid (SW w5 wu) := Lib.hid (hTf.trans (hbu.mono hTf.size))
            have i3 : i + 1 ≤ ln := by omega
            clear c0 c1 c2 c3 hbf hbu hTf
            go_roundw
            case rel => exact ⟨_, _, _, i + 1, rfl, by go_num, i3, HRR, HTU⟩
            case measure => simp [intOf]; omega
    by_cases h2 : -10000 < q.2
    rotate_left
    · go_upto_region 10 with fail
      clear p0 p1 f0 f1 f2 f3 f4 f5 h1 h2
      by_cases hE : selE b cur q.1 q.2 = 0
      · obtain ⟨hf2, hl2⟩ := fit_sel HP.out HC.out.2.2 hE
        obtain ⟨A6, c6, e6, _⟩ := id hvx
        rw [hl2, HC.out.2.1] at e6
        subst e6
        have g7 : (selE b cur q.1 q.2 == 0) = true := by simpa using hE
        rw [hE]
        have HX := Lib.hid (show IntR wz (.slice A6 n c6) (selL b cur q.1 q.2) ∧ (selL b cur q.1 q.2).length = n ∧ fitB b (selL b cur q.1 q.2) = true from ⟨hvx, (by rw [hl2]; exact HC.out.2.1), hf2⟩)
        have HTT : Hid (SW w5 wz) := Lib.hid hTz
        have HSU : Hid (∀ j, 0 ≤ nsF (selL b cur q.1 q.2) j ∧ nsF (selL b cur q.1 q.2) j ≤ 300000) := Lib.hid (fun j => by
          obtain ⟨h1, h2⟩ := (fitB_iff b _).1 HX.out.2.2
          have := nsF_in _ (rgtB_yes h1).2 j
          rw [HX.out.2.1] at this
          omega)
        have HSM : Hid (nsF (selL b cur q.1 q.2) 0 ≤ b.seats + b.over) := Lib.hid (sum_le HP.out HX.out.2.2)
        go_upto_region 14 with fail
        clear g7 hvx hf2 hl2 hTz
        go_loop [9, 10] (fun s9 s10 => ∃ j : Nat, j ≤ n ∧ s10 = .int .i64 j ∧ s9 = .int .i64 (nsF (selL b cur q.1 q.2) 0 - nsF (selL b cur q.1 q.2) j)) (fun _ s10 => n - (intOf s10).toNat)
        case atStart => exact ⟨0, Nat.zero_le _, rfl, by rw [Int.sub_self]⟩
        case round =>
          obtain ⟨j, hj, rfl, rfl⟩ := hrel
          by_cases hjn : j < n
          · obtain ⟨x, hx⟩ : ∃ x, (selL b cur q.1 q.2)[j]? = some x := ⟨_, List.getElem?_eq_getElem (by have := HX.out.2.1; omega)⟩
            obtain ⟨bs, os, e1, z1⟩ := int_at HX.out.1 hx
            subst e1
            have hst := nsF_step _ j x hx
            have g1 := HSU.out 0
            have g2 := HSU.out j
            have g3 := HSU.out (j + 1)
            have HE : Hid (nsF (selL b cur q.1 q.2) 0 - nsF (selL b cur q.1 q.2) j + x = nsF (selL b cur q.1 q.2) 0 - nsF (selL b cur q.1 q.2) (j + 1)) := Lib.hid (by omega)
            have hw : wrap64 (nsF (selL b cur q.1 q.2) 0 - nsF (selL b cur q.1 q.2) j + x) = nsF (selL b cur q.1 q.2) 0 - nsF (selL b cur q.1 q.2) j + x := by unfold wrap64; omega
            have i5 : (j : Int) < (n : Int) := by omega
            clear hx hst g1 g2 g3
            generalize nsF (selL b cur q.1 q.2) 0 - nsF (selL b cur q.1 q.2) j = dd at *
            go_wp2
            go_round
            case rel => exact ⟨j + 1, by omega, by go_num, by first | rw [hw, HE.out] | rw [HE.out]⟩
            case measure => simp [intOf]; omega
          · obtain rfl : j = n := by omega
            have e0 : nsF (selL b cur q.1 q.2) 0 - nsF (selL b cur q.1 q.2) j = nsF (selL b cur q.1 q.2) 0 := by rw [nsF_end _ j (by have := HX.out.2.1; omega)]; omega
            rw [e0]
            have g1 := HSM.out
            clear e0
            have KFx := Lib.hid (KF.out _ _ _ _ HTT.out HX.out.1 HX.out.2.1 HX.out.2.2)
            generalize nsF (selL b cur q.1 q.2) 0 = sm at *
            have c0 := Q0.out _ HTT.out
            have c1 := Q1.out _ HTT.out
            have c2 := Q2.out _ HTT.out
            have c3 := Q3.out _ HTT.out
            go_wp2_with (go_at_call 13; refine KFx.out.mono ?_; rintro e wf ⟨rfl, hbf⟩; refine Hid.out ?_)
            refine Lib.hid ?_
            have hTf := Below.trans HTT.out (Below.mono hbf HTT.out.size)
            clear c0 c1 c2 c3
            have c0 := Q0.out _ hTf
            have c1 := Q1.out _ hTf
            have c2 := Q2.out _ hTf
            have c3 := Q3.out _ hTf
            have g2 : ¬ b.seats + b.over < sm := by omega
            go_wp2_with (go_at_call 21; refine (KU.out _).mono ?_; rintro e wu ⟨rfl, hbu⟩)
            have HRR : Hid (IntR wu (.slice A6 j c6) (selL b cur q.1 q.2) ∧ (selL b cur q.1 q.2).length = j ∧ fitB b (selL b cur q.1 q.2) = true) := Lib.hid ⟨RowL.more (RowL.more HX.out.1 hbf) hbu, HX.out.2⟩
            have HTU : Hid (SW w5 wu) := Lib.hid (hTf.trans (hbu.mono hTf.size))
            have i3 : i + 1 ≤ ln := by omega
            clear c0 c1 c2 c3 hbf hbu hTf
            go_roundw
            case rel => exact ⟨_, _, _, i + 1, rfl, by go_num, i3, HRR, HTU⟩
            case measure => simp [intOf]; omega
      · have g7 : (selE b cur q.1 q.2 == 0) = false := by simpa using hE
        have g8 : ¬ selE b cur q.1 q.2 = 0 := hE
        have hv5 := RowL.more HC.out.1 (hS)
        clear hE
        have HX := Lib.hid (show IntR wz (.slice A5 n c5) cur ∧ cur.length = n ∧ fitB b cur = true from ⟨hv5, HC.out.2.1, HC.out.2.2⟩)
        have HTT : Hid (SW w5 wz) := Lib.hid hTz
        have HSU : Hid (∀ j, 0 ≤ nsF cur j ∧ nsF cur j ≤ 300000) := Lib.hid (fun j => by
          obtain ⟨h1, h2⟩ := (fitB_iff b _).1 HX.out.2.2
          have := nsF_in _ (rgtB_yes h1).2 j
          rw [HX.out.2.1] at this
          omega)
        have HSM : Hid (nsF cur 0 ≤ b.seats + b.over) := Lib.hid (sum_le HP.out HX.out.2.2)
        go_upto_region 14 with fail
        clear g7 g8 hv5 hvx hTz
        go_loop [9, 10] (fun s9 s10 => ∃ j : Nat, j ≤ n ∧ s10 = .int .i64 j ∧ s9 = .int .i64 (nsF cur 0 - nsF cur j)) (fun _ s10 => n - (intOf s10).toNat)
        case atStart => exact ⟨0, Nat.zero_le _, rfl, by rw [Int.sub_self]⟩
        case round =>
          obtain ⟨j, hj, rfl, rfl⟩ := hrel
          by_cases hjn : j < n
          · obtain ⟨x, hx⟩ : ∃ x, cur[j]? = some x := ⟨_, List.getElem?_eq_getElem (by have := HX.out.2.1; omega)⟩
            obtain ⟨bs, os, e1, z1⟩ := int_at HX.out.1 hx
            subst e1
            have hst := nsF_step _ j x hx
            have g1 := HSU.out 0
            have g2 := HSU.out j
            have g3 := HSU.out (j + 1)
            have HE : Hid (nsF cur 0 - nsF cur j + x = nsF cur 0 - nsF cur (j + 1)) := Lib.hid (by omega)
            have hw : wrap64 (nsF cur 0 - nsF cur j + x) = nsF cur 0 - nsF cur j + x := by unfold wrap64; omega
            have i5 : (j : Int) < (n : Int) := by omega
            clear hx hst g1 g2 g3
            generalize nsF cur 0 - nsF cur j = dd at *
            go_wp2
            go_round
            case rel => exact ⟨j + 1, by omega, by go_num, by first | rw [hw, HE.out] | rw [HE.out]⟩
            case measure => simp [intOf]; omega
          · obtain rfl : j = n := by omega
            have e0 : nsF cur 0 - nsF cur j = nsF cur 0 := by rw [nsF_end _ j (by have := HX.out.2.1; omega)]; omega
            rw [e0]
            have g1 := HSM.out
            clear e0
            have KFx := Lib.hid (KF.out _ _ _ _ HTT.out HX.out.1 HX.out.2.1 HX.out.2.2)
            generalize nsF cur 0 = sm at *
            have c0 := Q0.out _ HTT.out
            have c1 := Q1.out _ HTT.out
            have c2 := Q2.out _ HTT.out
            have c3 := Q3.out _ HTT.out
            go_wp2_with (go_at_call 13; refine KFx.out.mono ?_; rintro e wf ⟨rfl, hbf⟩; refine Hid.out ?_)
            refine Lib.hid ?_
            have hTf := Below.trans HTT.out (Below.mono hbf HTT.out.size)
            clear c0 c1 c2 c3
            have c0 := Q0.out _ hTf
            have c1 := Q1.out _ hTf
            have c2 := Q2.out _ hTf
            have c3 := Q3.out _ hTf
            have g2 : ¬ b.seats + b.over < sm := by omega
            go_wp2_with (go_at_call 21; refine (KU.out _).mono ?_; rintro e wu ⟨rfl, hbu⟩)
            have HRR : Hid (IntR wu (.slice A5 j c5) cur ∧ cur.length = j ∧ fitB b cur = true) := Lib.hid ⟨RowL.more (RowL.more HX.out.1 hbf) hbu, HX.out.2⟩
            have HTU : Hid (SW w5 wu) := Lib.hid (hTf.trans (hbu.mono hTf.size))
            have i3 : i + 1 ≤ ln := by omega
            clear c0 c1 c2 c3 hbf hbu hTf
            go_roundw
            case rel => exact ⟨_, _, _, i + 1, rfl, by go_num, i3, HRR, HTU⟩
            case measure => simp [intOf]; omega
    go_upto_region 9 with fail
    clear p0 p1 h1
    have w9 : IntKind.i64.wrap (-q.2) = -q.2 := by rw [IntKind.wrap_i64]; omega
    have w10 : wrap64 (-q.2) = -q.2 := by unfold wrap64; omega
    clear hvx
    have hS0 := hS
    have e0 : ∀ W, SW wz W → _ := fun W h => f0 W (Below.trans hS0 (Below.mono h hS0.size))
    have e1 : ∀ W, SW wz W → _ := fun W h => f1 W (Below.trans hS0 (Below.mono h hS0.size))
    have e2 : ∀ W, SW wz W → _ := fun W h => f2 W (Below.trans hS0 (Below.mono h hS0.size))
    have e3 : ∀ W, SW wz W → _ := fun W h => f3 W (Below.trans hS0 (Below.mono h hS0.size))
    have e4 : ∀ W, SW wz W → _ := fun W h => f4 W (Below.trans hS0 (Below.mono h hS0.size))
    have e5 : ∀ W, SW wz W → _ := fun W h => f5 W (Below.trans hS0 (Below.mono h hS0.size))
    have hS : (SW wz) _ := SW.drew _
    refine wp_region_held_drew (S := SW wz) (by kernel_rfl) hS (fun _ => ?_)
    refine wpAnyH_take (i := 0) (v := ?vC0) rfl (by kernel_rfl) (by kernel_rfl) (by kernel_rfl) (fun _ _ _ h => h) (Or.inl ⟨by rfl, ?hyC0⟩) hS ?restC0
    case hyC0 =>
      intro w hSw
      have k0 := e0 w hSw; have k1 := e1 w hSw; have k2 := e2 w hSw; have k3 := e3 w hSw; have k4 := e4 w hSw; have k5 := e5 w hSw
      first | (go_simp; done) | (go_simp; with_reducible rfl)
    try simp only [Act.put, List.setIfInBounds_toArray, List.set_cons_zero, List.set_cons_succ]
    refine wpAnyH_take (i := 1) (v := ?vC1) rfl (by kernel_rfl) (by kernel_rfl) (by kernel_rfl) (fun _ _ _ h => h) (Or.inl ⟨by rfl, ?hyC1⟩) hS ?restC1
    case hyC1 =>
      intro w hSw
      first | (go_simp; done) | (go_simp; with_reducible rfl)
    try simp only [Act.put, List.setIfInBounds_toArray, List.set_cons_zero, List.set_cons_succ]
    refine wpAnyH_take (i := 2) (v := ?vC2) rfl (by kernel_rfl) (by kernel_rfl) (by kernel_rfl) (fun _ _ _ h => h) (Or.inl ⟨by rfl, ?hyC2⟩) hS ?restC2
    case hyC2 =>
      intro w hSw
      first | (go_simp; done) | (go_simp; with_reducible rfl)
    try simp only [Act.put, List.setIfInBounds_toArray, List.set_cons_zero, List.set_cons_succ]
    refine wpAnyH_take (i := 3) (v := ?vC3) rfl (by kernel_rfl) (by kernel_rfl) (by kernel_rfl) (fun _ _ _ h => h) (Or.inl ⟨by rfl, ?hyC3⟩) hS ?restC3
    case hyC3 =>
      intro w hSw
      first | (go_simp; done) | (go_simp; with_reducible rfl)
    try simp only [Act.put, List.setIfInBounds_toArray, List.set_cons_zero, List.set_cons_succ]
    refine wpAnyH_take (i := 4) (v := ?vC4) rfl (by kernel_rfl) (by kernel_rfl) (by kernel_rfl) (fun _ _ _ h => h) (Or.inl ⟨by rfl, ?hyC4⟩) hS ?restC4
    case hyC4 =>
      intro w hSw
      have k0 := e0 w hSw; have k1 := e1 w hSw; have k2 := e2 w hSw; have k3 := e3 w hSw; have k4 := e4 w hSw; have k5 := e5 w hSw
      first | (go_simp; done) | (go_simp; with_reducible rfl)
    try simp only [Act.put, List.setIfInBounds_toArray, List.set_cons_zero, List.set_cons_succ]
    refine wpAnyH_take (i := 5) (v := ?vC5) rfl (by kernel_rfl) (by kernel_rfl) (by kernel_rfl) (fun _ _ _ h => h) (Or.inl ⟨by rfl, ?hyC5⟩) hS ?restC5
    case hyC5 =>
      intro w hSw
      have k0 := e0 w hSw; have k1 := e1 w hSw; have k2 := e2 w hSw; have k3 := e3 w hSw; have k4 := e4 w hSw; have k5 := e5 w hSw
      first | (go_simp; done) | (go_simp; with_reducible rfl)
    try simp only [Act.put, List.setIfInBounds_toArray, List.set_cons_zero, List.set_cons_succ]
    refine wpAnyH_take (i := 6) (v := ?vC6) rfl (by kernel_rfl) (by kernel_rfl) (by kernel_rfl) (fun _ _ _ h => h) (Or.inl ⟨by rfl, ?hyC6⟩) hS ?restC6
    case hyC6 =>
      intro w hSw
      have k0 := e0 w hSw; have k1 := e1 w hSw; have k2 := e2 w hSw; have k3 := e3 w hSw; have k4 := e4 w hSw; have k5 := e5 w hSw
      first | (go_simp; done) | (go_simp; with_reducible rfl)
    try simp only [Act.put, List.setIfInBounds_toArray, List.set_cons_zero, List.set_cons_succ]
    refine wpAnyH_take (i := 7) (v := ?vC7) rfl (by kernel_rfl) (by kernel_rfl) (by kernel_rfl) (fun _ _ _ h => h) (Or.inl ⟨by rfl, ?hyC7⟩) hS ?restC7
    case hyC7 =>
      intro w hSw
      first | (go_simp; done) | (go_simp; with_reducible rfl)
    try simp only [Act.put, List.setIfInBounds_toArray, List.set_cons_zero, List.set_cons_succ]
    refine wpAnyH_take (i := 8) (v := ?vC8) rfl (by kernel_rfl) (by kernel_rfl) (by kernel_rfl) (fun _ _ _ h => h) (Or.inl ⟨by rfl, ?hyC8⟩) hS ?restC8
    case hyC8 =>
      intro w hSw
      first | (go_simp; done) | (go_simp; with_reducible rfl)
    try simp only [Act.put, List.setIfInBounds_toArray, List.set_cons_zero, List.set_cons_succ]
    refine wpAnyH_take (i := 9) (v := ?vC9) rfl (by kernel_rfl) (by kernel_rfl) (by kernel_rfl) (fun _ _ _ h => h) (Or.inl ⟨by rfl, ?hyC9⟩) hS ?restC9
    case hyC9 =>
      intro w hSw
      have k0 := e0 w hSw; have k1 := e1 w hSw; have k2 := e2 w hSw; have k3 := e3 w hSw; have k4 := e4 w hSw; have k5 := e5 w hSw
      first | (go_simp; done) | (go_simp; with_reducible rfl)
    try simp only [Act.put, List.setIfInBounds_toArray, List.set_cons_zero, List.set_cons_succ]
    refine wpAnyH_take (i := 10) (v := ?vC10) rfl (by kernel_rfl) (by kernel_rfl) (by kernel_rfl) (fun _ _ _ h => h) (Or.inl ⟨by rfl, ?hyC10⟩) hS ?restC10
    case hyC10 =>
      intro w hSw
      have k0 := e0 w hSw; have k1 := e1 w hSw; have k2 := e2 w hSw; have k3 := e3 w hSw; have k4 := e4 w hSw; have k5 := e5 w hSw
      first | (go_simp; done) | (go_simp; with_reducible rfl)
    try simp only [Act.put, List.setIfInBounds_toArray, List.set_cons_zero, List.set_cons_succ]
    refine wpAnyH_take (i := 11) (v := ?vC11) rfl (by kernel_rfl) (by kernel_rfl) (by kernel_rfl) (fun _ _ _ h => h) (Or.inl ⟨by rfl, ?hyC11⟩) hS ?restC11
    case hyC11 =>
      intro w hSw
      have k0 := e0 w hSw; have k1 := e1 w hSw; have k2 := e2 w hSw; have k3 := e3 w hSw; have k4 := e4 w hSw; have k5 := e5 w hSw
      first | (go_simp; done) | (go_simp; with_reducible rfl)
    try simp only [Act.put, List.setIfInBounds_toArray, List.set_cons_zero, List.set_cons_succ]
    refine wpAnyH_take (i := 12) (v := ?vC12) rfl (by kernel_rfl) (by kernel_rfl) (by kernel_rfl) (fun _ _ _ h => h) (Or.inl ⟨by rfl, ?hyC12⟩) hS ?restC12
    case hyC12 =>
      intro w hSw
      first | (go_simp; done) | (go_simp; with_reducible rfl)
    try simp only [Act.put, List.setIfInBounds_toArray, List.set_cons_zero, List.set_cons_succ]
    refine wpAnyH_ready (rs := [13]) (by kernel_rfl) (by simp) ?_
    refine AllReadyH.cons rfl (fun K hK => ?_) AllReadyH.nil
    go_simp
    go_wp2_with ((go_at_call 19; refine (KC.out _ _ _ _ _ _ (Below.trans HT0.out (Below.mono (Below.trans hS0 (Below.mono hS hS0.size)) HT0.out.size)) (RowL.more HC.out.1 (Below.trans hS0 (Below.mono hS hS0.size))) HC.out.2.1).mono ?_; rintro e wz2 ⟨vx, rfl, hvx, hb⟩; have hS := Below.trans hS (Below.mono hb hS.size)))
    refine hK.out _ _ hS (fun _ => ?_)
    clear hK K
    refine wpAnyH_take (i := 14) (v := ?vC14) rfl (by kernel_rfl) (by kernel_rfl) (by kernel_rfl) (fun _ _ _ h => h) (Or.inl ⟨by rfl, ?hyC14⟩) hS ?restC14
    case hyC14 =>
      intro w hSw
      first | (go_simp; done) | (go_simp; with_reducible rfl)
    try simp only [Act.put, List.setIfInBounds_toArray, List.set_cons_zero, List.set_cons_succ]
    refine wpAnyH_take (i := 15) (v := ?vC15) rfl (by kernel_rfl) (by kernel_rfl) (by kernel_rfl) (fun _ _ _ h => h) (Or.inl ⟨by rfl, ?hyC15⟩) hS ?restC15
    case hyC15 =>
      intro w hSw
      first | (go_simp; done) | (go_simp; with_reducible rfl)
    try simp only [Act.put, List.setIfInBounds_toArray, List.set_cons_zero, List.set_cons_succ]
    refine wpAnyH_take (i := 16) (v := ?vC16) rfl (by kernel_rfl) (by kernel_rfl) (by kernel_rfl) (fun _ _ _ h => h) (Or.inl ⟨by rfl, ?hyC16⟩) hS ?restC16
    case hyC16 =>
      intro w hSw
      first | (go_simp; done) | (go_simp; with_reducible rfl)
    try simp only [Act.put, List.setIfInBounds_toArray, List.set_cons_zero, List.set_cons_succ]
    refine wpAnyH_take (i := 17) (v := ?vC17) rfl (by kernel_rfl) (by kernel_rfl) (by kernel_rfl) (fun _ _ _ h => h) (Or.inl ⟨by rfl, ?hyC17⟩) hS ?restC17
    case hyC17 =>
      intro w hSw
      first | (go_simp; done) | (go_simp; with_reducible rfl)
    try simp only [Act.put, List.setIfInBounds_toArray, List.set_cons_zero, List.set_cons_succ]
    refine wpAnyH_take (i := 18) (v := ?vC18) rfl (by kernel_rfl) (by kernel_rfl) (by kernel_rfl) (fun _ _ _ h => h) (Or.inl ⟨by rfl, ?hyC18⟩) hS ?restC18
    case hyC18 =>
      intro w hSw
      first | (go_simp; done) | (go_simp; with_reducible rfl)
    try simp only [Act.put, List.setIfInBounds_toArray, List.set_cons_zero, List.set_cons_succ]
    refine wpAnyH_done (by kernel_rfl) ?_ _
    try simp only [List.getElem_toArray, List.getElem_cons_succ, List.getElem_cons_zero, List.set_cons_zero, List.set_cons_succ]
    try simp only [List.setIfInBounds_toArray, List.set_cons_zero, List.set_cons_succ]
    have hS := Below.trans hS0 (Below.mono hS hS0.size)
    have hTz : SW w5 wz2 := Below.trans HT0.out (Below.mono hS HT0.out.size)
    go_upto_region 10 with fail
    clear f0 f1 f2 f3 f4 f5 hS0 h2
    by_cases hE : canE b cur q.1 (-q.2) = 0
    · obtain ⟨hf2, hl2⟩ := fit_can HC.out.2.2 hE
      obtain ⟨A6, c6, e6, _⟩ := id hvx
      rw [hl2, HC.out.2.1] at e6
      subst e6
      have g7 : (canE b cur q.1 (-q.2) == 0) = true := by simpa using hE
      rw [hE]
      have HX := Lib.hid (show IntR wz2 (.slice A6 n c6) (canL b cur q.1 (-q.2)) ∧ (canL b cur q.1 (-q.2)).length = n ∧ fitB b (canL b cur q.1 (-q.2)) = true from ⟨hvx, (by rw [hl2]; exact HC.out.2.1), hf2⟩)
      have HTT : Hid (SW w5 wz2) := Lib.hid hTz
      have HSU : Hid (∀ j, 0 ≤ nsF (canL b cur q.1 (-q.2)) j ∧ nsF (canL b cur q.1 (-q.2)) j ≤ 300000) := Lib.hid (fun j => by
        obtain ⟨h1, h2⟩ := (fitB_iff b _).1 HX.out.2.2
        have := nsF_in _ (rgtB_yes h1).2 j
        rw [HX.out.2.1] at this
        omega)
      have HSM : Hid (nsF (canL b cur q.1 (-q.2)) 0 ≤ b.seats + b.over) := Lib.hid (sum_le HP.out HX.out.2.2)
      go_upto_region 14 with fail
      clear g7 hvx hf2 hl2 hTz
      go_loop [9, 10] (fun s9 s10 => ∃ j : Nat, j ≤ n ∧ s10 = .int .i64 j ∧ s9 = .int .i64 (nsF (canL b cur q.1 (-q.2)) 0 - nsF (canL b cur q.1 (-q.2)) j)) (fun _ s10 => n - (intOf s10).toNat)
      case atStart => exact ⟨0, Nat.zero_le _, rfl, by rw [Int.sub_self]⟩
      case round =>
        obtain ⟨j, hj, rfl, rfl⟩ := hrel
        by_cases hjn : j < n
        · obtain ⟨x, hx⟩ : ∃ x, (canL b cur q.1 (-q.2))[j]? = some x := ⟨_, List.getElem?_eq_getElem (by have := HX.out.2.1; omega)⟩
          obtain ⟨bs, os, e1, z1⟩ := int_at HX.out.1 hx
          subst e1
          have hst := nsF_step _ j x hx
          have g1 := HSU.out 0
          have g2 := HSU.out j
          have g3 := HSU.out (j + 1)
          have HE : Hid (nsF (canL b cur q.1 (-q.2)) 0 - nsF (canL b cur q.1 (-q.2)) j + x = nsF (canL b cur q.1 (-q.2)) 0 - nsF (canL b cur q.1 (-q.2)) (j + 1)) := Lib.hid (by omega)
          have hw : wrap64 (nsF (canL b cur q.1 (-q.2)) 0 - nsF (canL b cur q.1 (-q.2)) j + x) = nsF (canL b cur q.1 (-q.2)) 0 - nsF (canL b cur q.1 (-q.2)) j + x := by unfold wrap64; omega
          have i5 : (j : Int) < (n : Int) := by omega
          clear hx hst g1 g2 g3
          generalize nsF (canL b cur q.1 (-q.2)) 0 - nsF (canL b cur q.1 (-q.2)) j = dd at *
          go_wp2
          go_round
          case rel => exact ⟨j + 1, by omega, by go_num, by first | rw [hw, HE.out] | rw [HE.out]⟩
          case measure => simp [intOf]; omega
        · obtain rfl : j = n := by omega
          have e0 : nsF (canL b cur q.1 (-q.2)) 0 - nsF (canL b cur q.1 (-q.2)) j = nsF (canL b cur q.1 (-q.2)) 0 := by rw [nsF_end _ j (by have := HX.out.2.1; omega)]; omega
          rw [e0]
          have g1 := HSM.out
          clear e0
          have KFx := Lib.hid (KF.out _ _ _ _ HTT.out HX.out.1 HX.out.2.1 HX.out.2.2)
          generalize nsF (canL b cur q.1 (-q.2)) 0 = sm at *
          have c0 := Q0.out _ HTT.out
          have c1 := Q1.out _ HTT.out
          have c2 := Q2.out _ HTT.out
          have c3 := Q3.out _ HTT.out
          go_wp2_with (go_at_call 13; refine KFx.out.mono ?_; rintro e wf ⟨rfl, hbf⟩; refine Hid.out ?_)
          refine Lib.hid ?_
          have hTf := Below.trans HTT.out (Below.mono hbf HTT.out.size)
          clear c0 c1 c2 c3
          have c0 := Q0.out _ hTf
          have c1 := Q1.out _ hTf
          have c2 := Q2.out _ hTf
          have c3 := Q3.out _ hTf
          have g2 : ¬ b.seats + b.over < sm := by omega
          go_wp2_with (go_at_call 21; refine (KU.out _).mono ?_; rintro e wu ⟨rfl, hbu⟩)
          have HRR : Hid (IntR wu (.slice A6 j c6) (canL b cur q.1 (-q.2)) ∧ (canL b cur q.1 (-q.2)).length = j ∧ fitB b (canL b cur q.1 (-q.2)) = true) := Lib.hid ⟨RowL.more (RowL.more HX.out.1 hbf) hbu, HX.out.2⟩
          have HTU : Hid (SW w5 wu) := Lib.hid (hTf.trans (hbu.mono hTf.size))
          have i3 : i + 1 ≤ ln := by omega
          clear c0 c1 c2 c3 hbf hbu hTf
          go_roundw
          case rel => exact ⟨_, _, _, i + 1, rfl, by go_num, i3, HRR, HTU⟩
          case measure => simp [intOf]; omega
    · have g7 : (canE b cur q.1 (-q.2) == 0) = false := by simpa using hE
      have g8 : ¬ canE b cur q.1 (-q.2) = 0 := hE
      have hv5 := RowL.more HC.out.1 (hS)
      clear hE
      have HX := Lib.hid (show IntR wz2 (.slice A5 n c5) cur ∧ cur.length = n ∧ fitB b cur = true from ⟨hv5, HC.out.2.1, HC.out.2.2⟩)
      have HTT : Hid (SW w5 wz2) := Lib.hid hTz
      have HSU : Hid (∀ j, 0 ≤ nsF cur j ∧ nsF cur j ≤ 300000) := Lib.hid (fun j => by
        obtain ⟨h1, h2⟩ := (fitB_iff b _).1 HX.out.2.2
        have := nsF_in _ (rgtB_yes h1).2 j
        rw [HX.out.2.1] at this
        omega)
      have HSM : Hid (nsF cur 0 ≤ b.seats + b.over) := Lib.hid (sum_le HP.out HX.out.2.2)
      go_upto_region 14 with fail
      clear g7 g8 hv5 hvx hTz
      go_loop [9, 10] (fun s9 s10 => ∃ j : Nat, j ≤ n ∧ s10 = .int .i64 j ∧ s9 = .int .i64 (nsF cur 0 - nsF cur j)) (fun _ s10 => n - (intOf s10).toNat)
      case atStart => exact ⟨0, Nat.zero_le _, rfl, by rw [Int.sub_self]⟩
      case round =>
        obtain ⟨j, hj, rfl, rfl⟩ := hrel
        by_cases hjn : j < n
        · obtain ⟨x, hx⟩ : ∃ x, cur[j]? = some x := ⟨_, List.getElem?_eq_getElem (by have := HX.out.2.1; omega)⟩
          obtain ⟨bs, os, e1, z1⟩ := int_at HX.out.1 hx
          subst e1
          have hst := nsF_step _ j x hx
          have g1 := HSU.out 0
          have g2 := HSU.out j
          have g3 := HSU.out (j + 1)
          have HE : Hid (nsF cur 0 - nsF cur j + x = nsF cur 0 - nsF cur (j + 1)) := Lib.hid (by omega)
          have hw : wrap64 (nsF cur 0 - nsF cur j + x) = nsF cur 0 - nsF cur j + x := by unfold wrap64; omega
          have i5 : (j : Int) < (n : Int) := by omega
          clear hx hst g1 g2 g3
          generalize nsF cur 0 - nsF cur j = dd at *
          go_wp2
          go_round
          case rel => exact ⟨j + 1, by omega, by go_num, by first | rw [hw, HE.out] | rw [HE.out]⟩
          case measure => simp [intOf]; omega
        · obtain rfl : j = n := by omega
          have e0 : nsF cur 0 - nsF cur j = nsF cur 0 := by rw [nsF_end _ j (by have := HX.out.2.1; omega)]; omega
          rw [e0]
          have g1 := HSM.out
          clear e0
          have KFx := Lib.hid (KF.out _ _ _ _ HTT.out HX.out.1 HX.out.2.1 HX.out.2.2)
          generalize nsF cur 0 = sm at *
          have c0 := Q0.out _ HTT.out
          have c1 := Q1.out _ HTT.out
          have c2 := Q2.out _ HTT.out
          have c3 := Q3.out _ HTT.out
          go_wp2_with (go_at_call 13; refine KFx.out.mono ?_; rintro e wf ⟨rfl, hbf⟩; refine Hid.out ?_)
          refine Lib.hid ?_
          have hTf := Below.trans HTT.out (Below.mono hbf HTT.out.size)
          clear c0 c1 c2 c3
          have c0 := Q0.out _ hTf
          have c1 := Q1.out _ hTf
          have c2 := Q2.out _ hTf
          have c3 := Q3.out _ hTf
          have g2 : ¬ b.seats + b.over < sm := by omega
          go_wp2_with (go_at_call 21; refine (KU.out _).mono ?_; rintro e wu ⟨rfl, hbu⟩)
          have HRR : Hid (IntR wu (.slice A5 j c5) cur ∧ cur.length = j ∧ fitB b cur = true) := Lib.hid ⟨RowL.more (RowL.more HX.out.1 hbf) hbu, HX.out.2⟩
          have HTU : Hid (SW w5 wu) := Lib.hid (hTf.trans (hbu.mono hTf.size))
          have i3 : i + 1 ≤ ln := by omega
          clear c0 c1 c2 c3 hbf hbu hTf
          go_roundw
          case rel => exact ⟨_, _, _, i + 1, rfl, by go_num, i3, HRR, HTU⟩
          case measure => simp [intOf]; omega
end Go.Proofs.Ytnakdacnfbgpnaa
