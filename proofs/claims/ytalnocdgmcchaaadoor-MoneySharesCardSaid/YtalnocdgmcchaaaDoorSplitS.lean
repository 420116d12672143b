/- The reference's Split, walked. -/
import Derived.Test.YtalnocdgmcchaaaDoorSplitR
namespace Go.Proofs.YtalnocdgmcchaaaDoor
open Go.RowKit Go.Sort
set_option linter.unusedSimpArgs false
set_option linter.unusedVariables false

set_option maxRecDepth 100000 in
set_option maxHeartbeats 2000000 in
theorem rsplit_err (v : Value) (a : Int) (ws : List Int) (w : World) (code : Int) (hv : IntL w v ws) (hn : ws.length ≤ 100) (hW : ∃ t, weighR ws = (t, code)) (hc : code ≠ 0) :
    Calls Tryd.prog 21 #[.int .i64 a, v] w (SplitErr code w) := by
  obtain ⟨t, hW⟩ := hW
  have CW := Lib.hid (fun w' (hb : Below w.heap.size w w') => rweigh_any v ws w' (hv.more hb) (by omega))
  rw [hW] at CW
  have hc2 : ((code : Int) != 0) = true := by simp [hc]
  clear hv hW hc
  go_enter Tryd.func21, Tryd.ntmps21
  go_wp2_with fail
  refine (CW.out _ (Below.refl _ _)).mono ?_
  rintro e w' ⟨rfl, n, rfl⟩
  go_wp2
  go_ret2
  exact ⟨rfl, below_drewN (Below.refl _ _) _⟩
set_option maxRecDepth 100000 in
set_option maxHeartbeats 2000000 in
theorem rsplit_over (v : Value) (a : Int) (ws : List Int) (w : World) (T : Int) (hv : IntL w v ws) (hn : ws.length ≤ 100) (hW : weighR ws = (T, 0)) (ha : amtB a = false) :
    Calls Tryd.prog 21 #[.int .i64 a, v] w (SplitErr 11 w) := by
  have CW := Lib.hid (fun w' (hb : Below w.heap.size w w') => rweigh_any v ws w' (hv.more hb) (by omega))
  rw [hW] at CW
  have CA := Lib.hid (fun w => ramount_any a w)
  rw [ha] at CA
  clear hv hW ha
  go_enter Tryd.func21, Tryd.ntmps21
  go_wp2_with fail
  refine (CW.out _ (Below.refl _ _)).mono ?_
  rintro e w' ⟨rfl, n, rfl⟩
  go_wp2_with fail
  refine (CA.out _).mono ?_
  rintro e w' ⟨rfl, rfl⟩
  go_wp2
  go_ret2
  exact ⟨rfl, below_drewN (Below.refl _ _) _⟩

set_option maxRecDepth 100000 in
set_option maxHeartbeats 8000000 in
theorem rsplit_ok (v : Value) (a : Int) (ws : List Int) (w : World) (T : Int) (hv : IntL w v ws) (hn : ws.length ≤ 100) (hW : weighR ws = (T, 0)) (ha : amtB a = true) :
    Calls Tryd.prog 21 #[.int .i64 a, v] w (SplitOut a ws w) := by
  obtain ⟨G, hT⟩ := good_of hW
  obtain ⟨a1, a2⟩ := amt_yes ha
  have HG := Lib.hid G
  have HV := Lib.hid hv
  have CW := Lib.hid (fun w' (hb : Below w.heap.size w w') => rweigh_any v ws w' (hv.more hb) (by omega))
  rw [hW] at CW
  have CA := Lib.hid (fun w => ramount_any a w)
  rw [ha] at CA
  have CZ := Lib.hid (fun w => rsize_any a w (by omega) (by omega))
  have hlen := G.len
  obtain ⟨ord, hord⟩ := ordered_ex (remL a ws) (by simp [remL, tab_len]; exact hlen)
  have HO := Lib.hid hord
  obtain ⟨A, cp, rfl, _⟩ := hv
  have HTT := Lib.hid hT
  have T1 : 0 < T := by have := G.tpos; omega
  have T2 : T ≤ 1099511627776 := by have := G.tle; omega
  obtain ⟨Z, hZ⟩ : ∃ Z : Int, Z = (a.natAbs : Int) := ⟨_, rfl⟩
  have HZ := Lib.hid hZ
  rw [← hZ] at CZ
  have z1 : 0 ≤ Z := by omega
  have z2 : Z ≤ 1099511627776 := by omega
  clear hW ha G hT hord hZ
  go_enter Tryd.func21, Tryd.ntmps21
  go_wp2_with fail
  refine (CW.out _ (Below.refl _ _)).mono ?_
  rintro e w' ⟨rfl, n, rfl⟩
  go_wp2_with fail
  refine (CA.out _).mono ?_
  rintro e w' ⟨rfl, rfl⟩
  go_wp2_with fail
  refine (CZ.out _).mono ?_
  rintro e w' ⟨rfl, rfl⟩
  have S0 : Hid (Two w (.slice none 0 0) (.slice none 0 0) (tab (fun i => (qN a ws i : Int)) 0) (tab (fun i => (rN a ws i : Int)) 0) (w.drewN n)) := Lib.hid ⟨IOwn.nil (Nat.le_refl _), IOwn.nil (Nat.le_refl _), Or.inl rfl, below_drewN (Below.refl _ _) n⟩
  go_wp2_with fail
  go_loopg [8, 9, 10, 11] ws.length (fun gh vs vr vl vk wr => ∃ k : Nat, k ≤ ws.length ∧ ws.length - k ≤ gh ∧ vk = .int .i64 k ∧ vl = .int .i64 (Z - (psum (qN a ws) k : Int)) ∧ Hid (Two w vs vr (tab (fun i => (qN a ws i : Int)) k) (tab (fun i => (rN a ws i : Int)) k) wr))
  case atStart => exact ⟨0, Nat.zero_le _, by omega, rfl, by simp [psum], S0⟩
  case round =>
    clear S0
    obtain ⟨k, hk, hgk, rfl, rfl, HS⟩ := hrel
    rename_i vs vr _
    by_cases hlt : k < ws.length
    · have hIL := HV.out.more HS.out.bel
      obtain ⟨b, o, rfl, _, hb, hcc⟩ := hIL.cells hlen
      have g1 := hcc k hlt
      rw [wN_get HG.out k hlt] at g1
      have i1 : (k : Int) < (ws.length : Int) := by omega
      clear hcc hIL
      have hq1 := q_le HG.out a k (by omega)
      have hq2 := qN_le HG.out a k hlt
      have hps1 : psum (qN a ws) (k + 1) = psum (qN a ws) k + qN a ws k := rfl
      have hq3 := q_le HG.out a (k + 1) (by omega)
      have CC := fun w => rshare_any a.natAbs (wN ws k) (tN ws) w (by omega) (wN_le HG.out k hlt) HG.out.tpos HG.out.tle
      rw [← HZ.out, ← HTT.out] at CC
      change ∀ w, Calls _ _ _ _ (fun e W' => e = .returned (.tuple #[.int .i64 ((qN a ws k : Nat) : Int), .int .i64 ((rN a ws k : Nat) : Int)]) ∧ w = W') at CC
      have HC := Lib.hid CC
      have hd1 : (0 : Int) ≤ Z - (psum (qN a ws) k : Int) := by have := HZ.out; omega
      have hqb : qN a ws k ≤ 1099511627776 := by omega
      have hd2 : Z - (psum (qN a ws) k : Int) ≤ 1099511627776 := by omega
      have HPS : Hid (Z - (psum (qN a ws) k : Int) - (qN a ws k : Int) = Z - (psum (qN a ws) (k + 1) : Int)) := Lib.hid (by rw [hps1]; omega)
      have S1 : Hid (tab (fun i => (qN a ws i : Int)) (k + 1) = tab (fun i => (qN a ws i : Int)) k ++ [(qN a ws k : Int)]) := Lib.hid (tab_snoc _ _)
      have S2 : Hid (tab (fun i => (rN a ws i : Int)) (k + 1) = tab (fun i => (rN a ws i : Int)) k ++ [(rN a ws k : Int)]) := Lib.hid (tab_snoc _ _)
      clear CC hq1 hq2 hps1 hq3
      generalize qN a ws k = qk at *
      generalize rN a ws k = rk at *
      generalize (psum (qN a ws) k : Int) = P at *
      go_wp2_with fail
      go_quiet (first | (go_at_call 33; exact Calls.quiet_of_same ((CZ.out _).mono fun _ _ ⟨h1, h2⟩ => ⟨h1, h2.symm⟩)) | (go_at_call 38; exact Calls.quiet_of_same ((HC.out _).mono fun _ _ ⟨h1, h2⟩ => ⟨h1, h2.symm⟩)))
      have S3 := Lib.hid (HS.out.drewN nq)
      clear HS
      generalize wr.drewN nq = w1 at S3 ⊢
      go_wp2_with (first
        | (at_builtin; refine wpList_iapp Tryd.underlying22 intT rfl _ _ rfl _ _ rfl ((S4.out.alloc _).hu) _ rk _ rfl (heap_alloc_new _ _) (by rw [tab_len]; omega) ?_; intro u' w3 ho3 hg3 hor3; have S5 := Lib.hid ((S4.out.alloc _).right _ hg3 ho3 hor3); clear ho3 hg3 hor3)
        | (at_builtin; refine wpList_iapp Tryd.underlying22 intT rfl _ _ rfl _ _ rfl ((S3.out.alloc _).hv) _ qk _ rfl (heap_alloc_new _ _) (by rw [tab_len]; omega) ?_; intro v' w2 ho hg hor; have S4 := Lib.hid ((S3.out.alloc _).left _ hg ho hor); clear ho hg hor))
      go_roundg (ws.length - (k + 1))
      case measure => omega
      case rel => exact ⟨k + 1, by omega, Nat.le_refl _, by go_num, by rw [← HPS.out], by rw [S1.out, S2.out]; exact S5⟩
    · obtain rfl : k = ws.length := by omega
      have hl := l_eq HG.out a
      have hlt2 := l_lt HG.out a
      have hlz : Z - (psum (qN a ws) ws.length : Int) = (lN a ws : Int) := by have := HZ.out; omega
      obtain ⟨g8, c8, hg8, hB8, ho8, hr8⟩ := HS.out.hv.row (by rw [tab_len]; exact hlen)
      obtain ⟨g9, c9, hg9, hB9, ho9, hr9⟩ := HS.out.hu.row (by rw [tab_len]; exact hlen)
      have hne : g8 ≠ g9 := fun e => by
        rcases HS.out.apart with h | h | h
        · rw [ho8] at h; cases h
        · rw [ho9] at h; cases h
        · exact h (by rw [ho8, ho9, e])
      rw [tab_len] at hg8 hg9
      have HB := Lib.hid HS.out.bel
      have R8 : Hid (Row wr g8 (tab (upN a ws ord 0) ws.length)) := Lib.hid (by
        rw [tab_congr (f := upN a ws ord 0) (g := fun i => (qN a ws i : Int)) (fun i _ => by simp [upN])]; exact hr8)
      have R9 : Hid (Row wr g9 (tab (leftF a ws ord 0) ws.length)) := Lib.hid (by
        rw [tab_congr (f := leftF a ws ord 0) (g := fun i => (rN a ws i : Int)) (fun i _ => by simp [leftF])]; exact hr9)
      obtain ⟨L, hL⟩ : ∃ L, L = lN a ws := ⟨_, rfl⟩
      have HLe := Lib.hid hL
      rw [← hL] at hlt2
      rw [hlz, ← hL]
      subst hg8 hg9
      have hol : ord.length = ws.length := by rw [HO.out.len]; simp [remL, tab_len]
      have hLo : L < ord.length := by omega
      have HOL := Lib.hid hol
      clear HS hr8 hr9 hl hlz hL ho8 ho9 hol
      go_wp2_with fail
      go_loopg [10] L (fun gh vl wr => ∃ j : Nat, j ≤ L ∧ L - j ≤ gh ∧ vl = .int .i64 ((L : Int) - (j : Int)) ∧ Hid (Row wr g8 (tab (upN a ws ord j) ws.length)) ∧ Hid (Row wr g9 (tab (leftF a ws ord j) ws.length)) ∧ Hid (RowKit.Below w.heap.size w wr))
      case atStart => exact ⟨0, Nat.zero_le _, by omega, by simp, R8, R9, HB⟩
      case round =>
        clear R8 R9 HB
        obtain ⟨j, hj, hgj, rfl, R8, R9, HB⟩ := hrel
        by_cases hlt3 : j < L
        · have j1 : (L : Int) - (j : Int) > 0 := by omega
          have hko : j < ord.length := by omega
          have hoi := ordered_lt HO.out j hko
          have hoi2 : ord[j] < ws.length := by simpa [remL, tab_len] using hoi
          have hnot : ord[j] ∉ ord.take j := fun hm => by
            obtain ⟨q, hq, hqe⟩ := List.mem_iff_getElem.1 hm
            rw [List.length_take] at hq
            rw [List.getElem_take] at hqe
            exact List.pairwise_iff_getElem.1 (ordered_nodup HO.out) q j (by omega) hko (by omega) hqe
          have hF := first_next HO.out j hko
          obtain ⟨p, hp⟩ : ∃ p, p = ord[j] := ⟨_, rfl⟩
          rw [← hp] at hoi2 hnot hF
          have hIL := R9.out.intL (c := c9)
          rw [tab_len] at hIL
          have CG := rgreatest_any _ _ wr hIL (by rw [tab_len]; omega) (by rw [tab_len]; exact hlen)
          have CG2 : Hid (Calls Tryd.prog 39 #[.slice (some ⟨g9, 0, none⟩) ws.length c9] wr fun e w' => e = .returned (.int .i64 (p : Int)) ∧ ∃ n, w' = wr.drewN n) := Lib.hid (CG.mono fun e w' ⟨k, hk, he, hw⟩ => by
            rw [first_one hk hF] at he; exact ⟨he, hw⟩)
          have hub := qN_le HG.out a p hoi2
          have hun : upN a ws ord j p = (qN a ws p : Int) := by simp [upN, hnot]
          have D8 := Lib.hid (fun n => R8.out.drewN n)
          have D9 := Lib.hid (fun n => R9.out.drewN n)
          have DB := Lib.hid (fun n => below_drewN HB.out n)
          have j2 : (p : Int) < (ws.length : Int) := by omega
          have HUN := Lib.hid hun
          have HNOT := Lib.hid hnot
          have HPo := Lib.hid hp
          have hqb : qN a ws p ≤ 1099511627776 := by omega
          clear hoi hF hIL CG hub hun hnot hp R8 R9 HB
          go_wp2_with fail
          refine CG2.out.mono ?_
          rintro e w' ⟨rfl, n2, rfl⟩
          have R8 := Lib.hid (D8.out n2)
          have R9 := Lib.hid (D9.out n2)
          have HB := Lib.hid (DB.out n2)
          clear D8 D9 DB CG2
          generalize wr.drewN n2 = w2 at R8 R9 HB ⊢
          have c1 := R8.out.cell p (by rw [tab_len]; exact hoi2)
          rw [tab_get, HUN.out] at c1
          have f1 := R8.out.froz p (by rw [tab_len]; exact hoi2)
          have S8 := Lib.hid ((R8.out.set p (by rw [tab_len]; exact hoi2) ((qN a ws p : Int) + 1)).other (b := g8) (c := g9) (by omega) p (.int .i64 (-1)))
          have S9a := Lib.hid (R9.out.other (b := g9) (c := g8) (by omega) p (.int .i64 ((qN a ws p : Int) + 1)))
          have S9 := Lib.hid (S9a.out.set p (by rw [tab_len]; exact hoi2) (-1))
          have SB : Hid (RowKit.Below w.heap.size w ((w2.setCell ⟨g8, p, none⟩ (.int .i64 ((qN a ws p : Int) + 1))).setCell ⟨g9, p, none⟩ (.int .i64 (-1)))) := Lib.hid ((HB.out.setCell (by simp; exact hB8) _).setCell (by simp; exact hB9) _)
          have c2 := S9a.out.cell p (by rw [tab_len]; exact hoi2)
          have f2 := S9a.out.froz p (by rw [tab_len]; exact hoi2)
          have N8 : Hid (Row ((w2.setCell ⟨g8, p, none⟩ (.int .i64 ((qN a ws p : Int) + 1))).setCell ⟨g9, p, none⟩ (.int .i64 (-1))) g8 (tab (upN a ws ord (j + 1)) ws.length)) := Lib.hid (by
            have h := S8.out
            rw [tab_set] at h
            rw [tab_congr (f := upN a ws ord (j + 1)) (g := fun i => if i = p then (qN a ws p : Int) + 1 else upN a ws ord j i) (fun i _ => by
              unfold upN
              rw [List.take_succ_eq_append_getElem hko, ← HPo.out]
              by_cases e : i = p
              · subst e; simp
              · simp [e])]
            exact h)
          have N9 : Hid (Row ((w2.setCell ⟨g8, p, none⟩ (.int .i64 ((qN a ws p : Int) + 1))).setCell ⟨g9, p, none⟩ (.int .i64 (-1))) g9 (tab (leftF a ws ord (j + 1)) ws.length)) := Lib.hid (by
            have h := S9.out
            rw [tab_set] at h
            rw [tab_congr (f := leftF a ws ord (j + 1)) (g := fun i => if i = p then -1 else leftF a ws ord j i) (fun i _ => by
              unfold leftF
              rw [List.take_succ_eq_append_getElem hko, ← HPo.out]
              by_cases e : i = p
              · subst e; simp
              · simp [e])]
            exact h)
          rw [tab_get] at c2
          clear R8 R9 HB S8 S9a S9 HUN HNOT
          generalize qN a ws p = qk at *
          generalize leftF a ws ord j p = lk at *
          go_wp2
          go_roundg (L - (j + 1))
          case measure => omega
          case rel => exact ⟨j + 1, by omega, Nat.le_refl _, by (first | (congr 1; omega) | (congr 1; simp; omega)), N8, N9, SB⟩
        · obtain rfl : j = L := by omega
          have j1 : ¬ (j : Int) - (j : Int) > 0 := by omega
          have T8 : Hid (Row wr g8 (tab (fun i => if i < 0 then shareF a ws ord i else upN a ws ord (lN a ws) i) ws.length)) := Lib.hid (by
            rw [tab_congr (f := fun i => if i < 0 then shareF a ws ord i else upN a ws ord (lN a ws) i) (g := upN a ws ord j) (fun i _ => by rw [if_neg (by omega), ← HLe.out])]
            exact R8.out)
          clear R8 R9
          go_wp2_with fail
          go_loopg [15] ws.length (fun gh vk wr => ∃ k : Nat, k ≤ ws.length ∧ ws.length - k ≤ gh ∧ vk = .int .i64 k ∧ Hid (Row wr g8 (tab (fun i => if i < k then shareF a ws ord i else upN a ws ord (lN a ws) i) ws.length)) ∧ Hid (RowKit.Below w.heap.size w wr))
          case atStart => exact ⟨0, Nat.zero_le _, by omega, rfl, T8, HB⟩
          case round =>
            clear T8 HB
            obtain ⟨k3, hk3, hgk3, rfl, R8, HB⟩ := hrel
            by_cases hlt4 : k3 < ws.length
            · have j2 : (k3 : Int) < (ws.length : Int) := by omega
              have c1 := R8.out.cell k3 (by rw [tab_len]; exact hlt4)
              rw [tab_get, if_neg (by omega)] at c1
              have f1 := R8.out.froz k3 (by rw [tab_len]; exact hlt4)
              have hub := qN_le HG.out a k3 hlt4
              have hux : 0 ≤ upN a ws ord (lN a ws) k3 ∧ upN a ws ord (lN a ws) k3 ≤ 1099511627777 := by
                unfold upN
                split <;> omega
              obtain ⟨hu1, hu2⟩ := hux
              have cong : ∀ i, i < ws.length → (if i < k3 + 1 then shareF a ws ord i else upN a ws ord (lN a ws) i) = (if i = k3 then shareF a ws ord k3 else if i < k3 then shareF a ws ord i else upN a ws ord (lN a ws) i) := fun i _ => by
                by_cases e : i = k3
                · subst e; rw [if_pos (by omega), if_pos rfl]
                · rw [if_neg e]
                  by_cases e2 : i < k3
                  · rw [if_pos (by omega), if_pos e2]
                  · rw [if_neg (by omega), if_neg e2]
              by_cases sa : a < 0
              · have hsg : shareF a ws ord k3 = -(upN a ws ord (lN a ws) k3) := by simp [shareF, sg, sa]
                have S5 : Hid (Row (wr.setCell ⟨g8, k3, none⟩ (.int .i64 (-(upN a ws ord (lN a ws) k3)))) g8 (tab (fun i => if i < k3 + 1 then shareF a ws ord i else upN a ws ord (lN a ws) i) ws.length)) := Lib.hid (by
                  have h := R8.out.set k3 (by rw [tab_len]; exact hlt4) (-(upN a ws ord (lN a ws) k3))
                  rw [tab_set, ← hsg] at h
                  rw [tab_congr cong, ← hsg]
                  exact h)
                have SB := Lib.hid (HB.out.setCell (p := ⟨g8, k3, none⟩) (by simp; exact hB8) (.int .i64 (-(upN a ws ord (lN a ws) k3))))
                clear hsg R8 HB cong hub
                generalize upN a ws ord (lN a ws) k3 = x at *
                go_wp2
                go_roundg (ws.length - (k3 + 1))
                case measure => omega
                case rel => exact ⟨k3 + 1, by omega, Nat.le_refl _, by go_num, S5, SB⟩
              · have hsg : shareF a ws ord k3 = upN a ws ord (lN a ws) k3 := by simp [shareF, sg, sa]
                have S5 : Hid (Row wr g8 (tab (fun i => if i < k3 + 1 then shareF a ws ord i else upN a ws ord (lN a ws) i) ws.length)) := Lib.hid (by
                  rw [tab_congr (f := fun i => if i < k3 + 1 then shareF a ws ord i else upN a ws ord (lN a ws) i) (g := fun i => if i < k3 then shareF a ws ord i else upN a ws ord (lN a ws) i) (fun i hi => by
                    rw [cong i hi]
                    by_cases e : i = k3
                    · subst e; rw [if_pos rfl, if_neg (by omega), hsg]
                    · rw [if_neg e])]
                  exact R8.out)
                clear hsg R8 cong hub c1 f1 hu1 hu2
                go_wp2
                go_roundg (ws.length - (k3 + 1))
                case measure => omega
                case rel => exact ⟨k3 + 1, by omega, Nat.le_refl _, by go_num, S5, HB⟩
            · obtain rfl : k3 = ws.length := by omega
              go_wp2
              go_ret2
              refine ⟨_, ord, rfl, HO.out, ?_, HB.out⟩
              have h := R8.out.intL (c := c8)
              rw [tab_len, tab_congr (f := fun i => if i < ws.length then shareF a ws ord i else upN a ws ord (lN a ws) i) (g := shareF a ws ord) (fun i hi => by rw [if_pos hi])] at h
              exact h
end Go.Proofs.YtalnocdgmcchaaaDoor
