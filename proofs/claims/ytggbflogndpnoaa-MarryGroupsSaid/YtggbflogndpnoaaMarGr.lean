/- MarryGroups: the walk. -/
import Derived.Test.YtggbflogndpnoaaMarQ
namespace Go.Proofs.Ytggbflogndpnoaa
open Go.RowKit Go.Shelf Go.Maps
set_option linter.unusedSimpArgs false
set_option linter.unusedVariables false

theorem rg_at {f t k : Nat} (h : k < t - f) : (rgP f t)[k]? = some ((f + k : Nat) : Int) := by
  unfold rgP tab
  rw [List.getElem?_map, List.getElem?_range h]
  rfl

set_option maxRecDepth 100000 in
set_option maxHeartbeats 16000000 in
theorem marryGroups_walk (A : Option Addr) (c : Nat) (l : List Int) (w : World) (hL : IntR w (.slice A l.length c) l) (hi : I64L l) (hh : l.length < 9223372036854775808) :
    Calls Try.prog 6 #[.slice A l.length c] w fun e w' => e = .returned (.bool true) ∧ Below w.heap.size w w' := by
  have KK := Lib.hid knows_any
  by_cases hg : 300 < l.length
  · have d0 : decide ((300 : Int) < (l.length : Int)) = true := decide_eq_true (by omega)
    have d0' : decide (300 < l.length) = true := decide_eq_true hg
    clear hL hi hh hg
    generalize l.length = n at *
    go_enter Try.func6, Try.ntmps6
    go_wp2_with (go_at_call 7; refine (KK.out _).mono ?_; rintro e w6 ⟨rfl, hb6⟩)
    go_ret
    exact ⟨rfl, hb6⟩
  have d0 : decide ((300 : Int) < (l.length : Int)) = false := decide_eq_false (by omega)
  have d0' : decide (300 < l.length) = false := decide_eq_false hg
  have hl : l.length ≤ 1000 := by omega
  have K1 := Lib.hid (groups_any A c l w hl hi hL)
  have K2 := Lib.hid (fun W (h : Below w.heap.size w W) => normal_any A c l W hl hi (hL.more h))
  have HL := Lib.hid hL
  have HLL := Lib.hid hl
  obtain ⟨ce, hce⟩ : ∃ ce, ce = chkP l := ⟨_, rfl⟩
  rw [← hce] at K1 K2
  obtain ⟨n, hn⟩ : ∃ n, n = l.length := ⟨_, rfl⟩
  have HN := Lib.hid hn
  rw [← hn] at K1 K2 hl d0 d0'
  rw [← hn]
  by_cases h0 : ce = 0
  rotate_left
  · have HG : Hid (grpP l = []) := Lib.hid (by unfold grpP; rw [if_neg (by rw [← hce]; exact h0)])
    have HNR : Hid (nrmP l = []) := Lib.hid (by unfold nrmP; rw [if_neg (by rw [← hce]; exact h0)])
    have g0 : (ce != 0) = true := by simpa using h0
    clear hL hi hh hg HL hce h0 hn
    go_enter Try.func6, Try.ntmps6
    go_upto_region 4 with (go_at_call 8; refine K1.out.mono ?_; rintro e w1 ⟨v1, xs, rfl, hx, hG, hb1⟩)
    go_upto_region 5 with (go_at_call 17; refine (K2.out _ hb1).mono ?_; rintro e w2 ⟨v2, rfl, hv2, hb2⟩)
    rw [HNR.out] at hv2
    rw [HG.out] at hx
    have hx0 : xs = [] := by simpa using hx
    subst hx0
    obtain ⟨r1, _⟩ := hG.gpV
    obtain ⟨A1, c1, rfl, _⟩ := id r1
    obtain ⟨A2, c2, rfl, _⟩ := id hv2
    have HB := Lib.hid (hb1.trans (hb2.mono hb1.size))
    clear r1 hv2 hG hb1 hb2 hx
    go_wp2_with (go_at_call 7; refine (KK.out _).mono ?_; rintro e w6 ⟨rfl, hb6⟩)
    go_ret
    exact ⟨rfl, HB.out.trans (hb6.mono HB.out.size)⟩
  · subst h0
    have hc := hce.symm
    obtain ⟨ys, hys⟩ := exists_runs l
    have HY := Lib.hid hys
    have HGR : Hid (grpP l = ys.map fun x => rgP x.1 x.2) := Lib.hid (by unfold grpP; rw [if_pos hc, hys.groups])
    have HGN := Lib.hid (nrm_groups hc)
    have HNT := Lib.hid (nrm_twice hc)
    have HOK := Lib.hid (nrm_ok hc)
    have HNL := Lib.hid (nrm_length hc)
    have HI2 := Lib.hid (nrm_i64 (l := l) (by have := HN.out; omega))
    have HCN := Lib.hid (fun (k : Nat) (hk : k < l.length) => (by
      obtain ⟨b, o, e, hc⟩ := int_at hL (atP_get hk)
      exact ⟨b, o, e, hc⟩ : ∃ b o, A = some ⟨b, o, none⟩ ∧ w.cell? ⟨b, o + k, none⟩ = some (.int .i64 (atP l k))))
    clear hL hi hh hg hce hc hys hn
    generalize nrmP l = M at *
    go_enter Try.func6, Try.ntmps6
    go_upto_region 4 with (go_at_call 8; refine K1.out.mono ?_; rintro e w1 ⟨v1, xs, rfl, hx, hG1, hb1⟩)
    go_upto_region 5 with (go_at_call 17; refine (K2.out _ hb1).mono ?_; rintro e w2 ⟨v2, rfl, hv2, hb2⟩)
    obtain ⟨A2, c2, rfl, _⟩ := id hv2
    have hB2 := hb1.trans (hb2.mono hb1.size)
    have HM1000 : Hid (M.length ≤ 1000) := Lib.hid (by have := HNL.out; have := HN.out; omega)
    have K3 := Lib.hid (fun W (h : Below w2.heap.size w2 W) => groups_any A2 c2 M W HM1000.out HI2.out (hv2.more h))
    have K4 := Lib.hid (fun W (h : Below w2.heap.size w2 W) => normal_any A2 c2 M W HM1000.out HI2.out (hv2.more h))
    rw [HOK.out, HGN.out] at K3
    rw [HOK.out, HNT.out] at K4
    have HV2 := Lib.hid hv2
    obtain ⟨mn, hmn⟩ : ∃ mn, mn = M.length := ⟨_, rfl⟩
    have HMN := Lib.hid hmn
    have HVM : Hid (IntR w2 (.slice A2 mn c2) M) := Lib.hid (by rw [hmn]; exact hv2)
    rw [← hmn] at K3 K4 ⊢
    have hS0 := Below.refl w2.heap.size w2
    clear hv2 hmn
    go_upto_region 9 with (first
      | (go_at_call 8; refine (K3.out _ hS0).mono ?_; rintro e w3 ⟨v3, zs, rfl, hz, hG3, hb3⟩)
      | (go_at_call 17; refine (K4.out _ hb3).mono ?_; rintro e w4 ⟨v4, rfl, hv4, hb4⟩))
    have hS4 := hb3.trans (hb4.mono hb3.size)
    have KS0 := Lib.hid (same_two hv4 (HVM.out.more hS4) HM1000.out)
    obtain ⟨r1, s1⟩ := hG1.gpV
    obtain ⟨r3, s3⟩ := hG3.gpV
    have R1 := Lib.hid ((r1.more hb2).more hS4)
    have R3 := Lib.hid (r3.more hb4)
    have S1 := Lib.hid (fun x hx => ((s1 x hx).more hb2).more hS4)
    have S3 := Lib.hid (fun x hx => (s3 x hx).more hb4)
    obtain ⟨Aq, cq, rfl, _⟩ := id r1
    obtain ⟨Az, cz, rfl, _⟩ := id r3
    obtain ⟨gn, hgn⟩ : ∃ gn, gn = xs.length := ⟨_, rfl⟩
    have hzl : zs.length = gn := by have := congrArg List.length (hx.trans hz.symm); rw [List.length_map, List.length_map] at this; omega
    have hyl : ys.length = gn := by have := congrArg List.length (hx.trans HGR.out); rw [List.length_map, List.length_map] at this; omega
    have HLN : Hid (gn = xs.length ∧ gn = zs.length ∧ gn = ys.length) := Lib.hid ⟨hgn, hzl.symm, hyl.symm⟩
    have HXY : Hid (∀ (k : Nat) (x : Nat × Nat), ys[k]? = some x → ∃ gx gz : Gp, xs[k]? = some gx ∧ zs[k]? = some gz ∧ gx.l = rgP x.1 x.2 ∧ gz.l = rgP x.1 x.2) := Lib.hid (fun k x hk => by
      have e1 := congrArg (fun q => q[k]?) (hx.trans HGR.out)
      have e3 := congrArg (fun q => q[k]?) (hz.trans HGR.out)
      simp only [List.getElem?_map, hk, Option.map_some] at e1 e3
      cases hq : xs[k]? with
      | none => rw [hq] at e1; cases e1
      | some gx =>
        cases hq3 : zs[k]? with
        | none => rw [hq3] at e3; cases e3
        | some gz =>
          rw [hq] at e1
          rw [hq3] at e3
          exact ⟨gx, gz, rfl, rfl, by simpa using e1, by simpa using e3⟩)
    have hgl : gn ≤ 1000 := by have := HY.out.len; have := HLL.out; omega
    rw [← hgn] at R1 ⊢
    rw [hzl] at R3 ⊢
    have HS4 := Lib.hid hS4
    have HB2 := Lib.hid hB2
    clear r1 r3 s1 s3 hG1 hG3 hx hz hgn hzl hyl hb1 hb2 hb3 hb4 hv4 hS0 hS4 hB2 K1 K2 K3 K4
    go_wp2_with (go_at_call 12; refine KS0.out.mono ?_; rintro e w5 ⟨rfl, hb5⟩)
    have HT0 : Hid (Below w4.heap.size w4 w5) := Lib.hid hb5
    clear hb5
    go_loopw [12, 11] (fun vi vn wr => ∃ a f : Nat, a ≤ gn ∧ vi = .int .i64 (a : Int) ∧ vn = .int .i64 (f : Int) ∧ Hid (Ch l (ys.take a) f) ∧ Hid (Below w4.heap.size w4 wr)) (fun vi _ _ => gn - (intOf vi).toNat)
    case atStart => exact ⟨0, 0, Nat.zero_le _, rfl, rfl, Lib.hid (by rw [List.take_zero]; exact .nil), HT0⟩
    case round =>
      clear HT0
      obtain ⟨a, f, ha, rfl, rfl, HC, HT⟩ := hrel
      by_cases hlt : a < gn
      · obtain ⟨x, hx⟩ : ∃ x, ys[a]? = some x := ⟨_, List.getElem?_eq_getElem (by have := HLN.out; omega)⟩
        obtain ⟨hc1, hE⟩ := HY.out.at hx
        have hf : f = x.1 := ch_end HC.out hc1
        obtain ⟨gx, gz, hgx, hgz, el1, el3⟩ := HXY.out a x hx
        obtain ⟨t, ht⟩ : ∃ t, t = x.2 := ⟨_, rfl⟩
        rw [← hf, ← ht] at hE el1 el3
        have HCN2 : Hid (Ch l (ys.take (a + 1)) t) := Lib.hid (by
          rw [List.take_add_one, hx, ht]
          have h9 := HC.out.snoc (t := x.2) (by rw [← ht]; exact hE)
          rw [hf] at h9
          exact h9)
        obtain ⟨m, hm⟩ : ∃ m, m = t - f := ⟨_, rfl⟩
        have hft := hE.lt
        have htl := hE.le
        have HTF : Hid (f + m = t ∧ t ≤ n ∧ 0 < m ∧ n ≤ 1000) := Lib.hid ⟨by omega, by have := HN.out; omega, by omega, by have := HN.out; have := HLL.out; omega⟩
        have HSM := Lib.hid (fun k (h1 : f ≤ k) (h2 : k < t) => hE.same k h1 h2)
        have HX1 := Lib.hid (S1.out gx (List.mem_of_getElem? hgx))
        have HX3 := Lib.hid (S3.out gz (List.mem_of_getElem? hgz))
        unfold slG at HX1 HX3
        rw [el1] at HX1
        rw [el3] at HX3
        rw [rgP_len, ← hm] at HX1 HX3
        obtain ⟨b1, o1, e1, _, hq1⟩ := row_get R1.out hgx
        obtain ⟨b3, o3, e3, _, hq3⟩ := row_get R3.out hgz
        have c1' := hq1 0 _ rfl
        have c3' := hq3 0 _ rfl
        rw [Nat.add_zero, Nat.mul_one, el1, rgP_len, ← hm] at c1'
        rw [Nat.add_zero, Nat.mul_one, el3, rgP_len, ← hm] at c3'
        have HRG := Lib.hid (fun k (hk : k < m) => rg_at (f := f) (t := t) (k := k) (by omega))
        have HRL : Hid ((rgP f t).length ≤ 1000) := Lib.hid (by rw [rgP_len]; have := HTF.out; omega)
        obtain ⟨xb, hxb⟩ : ∃ xb, xb = gx.b := ⟨_, rfl⟩
        obtain ⟨xc, hxc⟩ : ∃ xc, xc = gx.c := ⟨_, rfl⟩
        obtain ⟨zb, hzb⟩ : ∃ zb, zb = gz.b := ⟨_, rfl⟩
        obtain ⟨zc, hzc⟩ : ∃ zc, zc = gz.c := ⟨_, rfl⟩
        rw [← hxb, ← hxc] at c1' HX1
        rw [← hzb, ← hzc] at c3' HX3
        have hm1 : m ≤ 1000 := by have := HTF.out; omega
        have hm0 : 0 < m := HTF.out.2.2.1
        have hf1 : f ≤ 1000 := by have := HTF.out; omega
        clear hx hc1 hf hgx hgz el1 el3 ht hm hE hft htl hq1 hq3 hxb hxc hzb hzc
        subst e1 e3
        generalize rgP f t = R at *
        have i1 : (a : Int) < (gn : Int) := by omega
        have i2 : (0 : Int) ≤ (a : Int) := by omega
        have g1 := SW.cell (bel_cell HT.out c1')
        have g3 := SW.cell (bel_cell HT.out c3')
        have m0 : ((m : Int) == 0) = false := by rw [beq_eq_false_iff_ne]; omega
        have m0' : decide (m = 0) = false := decide_eq_false (by omega)
        have KS := Lib.hid (fun W (h : SW wr W) => same_two (HX1.out.more (HT.out.trans (Below.mono h HT.out.size))) (HX3.out.more (HT.out.trans (Below.mono h HT.out.size))) HRL.out)
        go_wp2
        have hNe : Nonempty (Wd (SW wr)) := ⟨⟨_, SW.drew _⟩⟩
        refine quietS (S := SW wr) (by kernel_rfl) (by kernel_rfl) (SW.drew _) ?_
        repeat (first | go_big_quiet_skip | (go_big_quiet_want; go_big_quiet_op; first | go_big_quiet_on | go_big_quiet_call (((go_at_call 12; exact quiet_S ((KS.out _ (Wd.ok _)).mono (by rintro e w' ⟨he, hb⟩; exact ⟨he, Below.trans (Wd.ok _) (Below.mono hb (Below.size (Wd.ok _)))⟩)))))))
        refine wpQuiet_nil ?_
        rintro W ⟨⟨_, hW⟩, rfl⟩
        have HTW := Lib.hid (HT.out.trans (Below.mono hW HT.out.size))
        obtain ⟨b, o, rfl, hc0⟩ := HCN.out f (by have := HTF.out; have := HN.out; omega)
        have HCA : Hid (∀ k, k < m → w.cell? ⟨b, o + (f + k), none⟩ = some (.int .i64 (atP l f))) := Lib.hid (fun k hk => by
          obtain ⟨b', o', e, hcc⟩ := HCN.out (f + k) (by have := HTF.out; have := HN.out; omega)
          cases e
          rw [HSM.out (f + k) (by omega) (by have := HTF.out; omega)] at hcc
          exact hcc)
        have HC0 := Lib.hid hc0
        generalize atP l f = x at *
        clear g1 g3 KS HT hW hc0
        go_wp2
        go_loopw [13, 11] (fun vk vn wr => ∃ k : Nat, k ≤ m ∧ vk = .int .i64 (k : Int) ∧ vn = .int .i64 ((f + k : Nat) : Int) ∧ Hid (Below w4.heap.size w4 wr)) (fun vk _ _ => m - (intOf vk).toNat)
        case atStart => exact ⟨0, Nat.zero_le _, rfl, rfl, HTW⟩
        case round =>
          clear HTW
          obtain ⟨k, hk, rfl, rfl, HT⟩ := hrel
          obtain ⟨nk, hnk⟩ : ∃ nk, nk = f + k := ⟨_, rfl⟩
          have HNK := Lib.hid hnk
          rw [← hnk]
          have g1 := bel_cell HT.out c1'
          by_cases hkt : k < m
          · have hR := HX1.out.more HT.out
            obtain ⟨bb, oo, e1, f0⟩ := int_at hR (HRG.out k hkt)
            cases e1
            obtain ⟨bb, oo, e1, f2⟩ := int_at hR (HRG.out 0 hm0)
            cases e1
            rw [Nat.zero_add] at f0
            rw [← hnk] at f0
            rw [Nat.zero_add, Nat.add_zero] at f2
            have hBw := HB2.out.trans ((HS4.out.trans (HT.out.mono HS4.out.size)).mono HB2.out.size)
            have f3 := HCA.out k hkt
            rw [← hnk] at f3
            have f4 := HC0.out
            have f3 : wr.cell? ⟨b, o + nk, none⟩ = some (.int .i64 x) := (hBw.cell (World.block_lt_of_cell? _ _ f3)).trans f3
            have f4 : wr.cell? ⟨b, o + f, none⟩ = some (.int .i64 x) := (hBw.cell (World.block_lt_of_cell? _ _ f4)).trans f4
            have j1 : (k : Int) < (m : Int) := by omega
            have j2 : (0 : Int) ≤ (k : Int) := by omega
            have j3 : (nk : Int) < (n : Int) := by have := HTF.out; omega
            have j4 : (0 : Int) ≤ (nk : Int) := by omega
            have j5 : (f : Int) < (n : Int) := by have := HTF.out; omega
            have j6 : (0 : Int) ≤ (f : Int) := by omega
            have j7 : (0 : Int) < (m : Int) := by omega
            have w5 : IntKind.i64.wrap ((nk : Int) + 1) = (nk : Int) + 1 := IntWalk.i64_in _ (by omega)
            have e5 : ((nk : Int) != (nk : Int)) = false := by simp
            have e6 : (x != x) = false := by simp
            clear hR hnk hBw
            go_wp2
            go_quiet (fail)
            go_wp2
            go_roundw
            case rel => exact ⟨k + 1, by omega, by go_num, by have := HNK.out; go_num, Lib.hid (below_drewN HT.out _)⟩
            case measure => simp [intOf]; omega
          · have j1 : ¬ (k : Int) < (m : Int) := by omega
            have hnt : nk = t := by have := HTF.out; omega
            rw [hnt]
            clear hkt hk hnk hnt
            go_wp2
            go_roundw
            case rel => exact ⟨a + 1, t, by omega, by go_num, rfl, HCN2, HT⟩
            case measure => simp [intOf]; omega
      · have i1 : ¬ (a : Int) < (gn : Int) := by omega
        have hfn : f = n := by
          have h2 := HC.out
          rw [List.take_of_length_le (by have := HLN.out; omega)] at h2
          rw [ch_end h2 HY.out, HN.out]
        have e0 : ((f : Int) == (n : Int)) = true := by rw [beq_iff_eq, hfn]
        clear hlt ha hfn
        go_wp2_with (go_at_call 7; refine (KK.out _).mono ?_; rintro e w6 ⟨rfl, hb6⟩)
        go_ret
        have q1 := HB2.out.trans (HS4.out.mono HB2.out.size)
        have q2 := q1.trans (HT.out.mono q1.size)
        exact ⟨rfl, q2.trans (hb6.mono q2.size)⟩
end Go.Proofs.Ytggbflogndpnoaa
