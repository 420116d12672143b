/- Walk of shortest. -/
import Derived.Test.YtjokpfeiganigaaDoorPlaS
namespace Go.Proofs.YtjokpfeiganigaaDoor
open Go.RowKit Go.Shelf
set_option linter.unusedSimpArgs false
set_option linter.unusedVariables false

set_option maxRecDepth 100000 in
set_option maxHeartbeats 8000000 in
theorem short_any (A : Option Addr) (c : Nat) (ds : List Dst) (a to : ByteArray) (w : World) (hl : ds.length ≤ 60) (hL : DstL w A ds) (hok : ∀ d ∈ ds, OkD d) (ha : a.size ≤ maxLen) :
    Calls Tryd.prog 42 #[.slice A ds.length c, .string a, .string to] w fun e w' => e = .returned (shortR (disO (edgs ds) a to)) ∧ Below w.heap.size w w' ∧ ∀ n, disO (edgs ds) a to = some n → n ≤ 2420000 := by
  have hmm := @run_makeMap Tryd.prog
  have CN := Lib.hid (neigh_any A c ds w hl hL hok)
  have hE : (edgs ds).length ≤ 120 := Nat.le_trans (edgs_len ds) (by omega)
  have hES : Hid (∀ b c w, (b, c, w) ∈ edgs ds → c.size ≤ maxLen ∧ w ≤ 20000) := Lib.hid (fun b c w h => ⟨by
    simp only [edgs, List.mem_flatMap] at h
    obtain ⟨d, hm, hd⟩ := h
    have := hok d hm
    unfold edg at hd
    split at hd
    · simp at hd
      rcases hd with ⟨_, rfl, _⟩ | ⟨_, rfl, _⟩
      · exact this.t
      · exact this.f
    · simp at hd, edgs_le h⟩)
  clear hL hok
  generalize edgs ds = E at *
  go_enter Tryd.func42, Tryd.ntmps42
  go_wp2_with (go_at_call 75; refine CN.out.mono ?_; rintro e w1 ⟨b, n0, V, rfl, hN, hb1⟩; refine Hid.out ?_)
  have HN := Lib.hid hN
  have hI := Sch.init E a to w1 hE ha
  have hb2 := hI.bel
  clear hN CN
  refine Lib.hid ?_
  go_wp2
  rw [show (((w1.alloc (.map #[] 0)).alloc (.cells #[.string a, .int .i64 0] stopT)).alloc (.cells #[.slice (some ⟨w1.heap.size + 1, 0, none⟩) 1 1] queueT)) = W3 w1 a from rfl]
  generalize W3 w1 a = w3 at *
  obtain ⟨Q, hQ⟩ : ∃ Q, Q = w1.heap.size + 1 + 1 := ⟨_, rfl⟩
  have hQ2 : w1.heap.size + 1 < Q := by omega
  rw [← hQ] at hI ⊢
  clear hQ
  go_loopg [11] (1 + E.length) (fun kx s11 wr => ∃ (r cap n : Nat) (cur : Array Value) (l : List Stp) (R : ByteArray → Bool), Hid (Sch E a to w1 wr Q r cap cur l n R kx))
  case atStart => exact ⟨_, _, _, _, _, _, Lib.hid hI⟩
  case round =>
    obtain ⟨r, cap, n, cur, l, R, HI⟩ := hrel
    have hq0 := box_cell HI.out.hq
    have CL := Lib.hid (fun W => qlen_any (some ⟨r, 0, none⟩) l.length cap W)
    have hlow := HI.out.low
    have hbw : Below w1.heap.size w1 wr := HI.out.bel
    by_cases hl0 : l.length = 0
    · have HR : Hid (disO E a to = none) := Lib.hid (by
        have hd := HI.out.dij
        rw [List.eq_nil_of_length_eq_zero hl0] at hd
        exact hd.none)
      rw [hl0] at hq0 CL
      go_wp2_with (go_at_call 76; refine (CL.out _).mono ?_; rintro e w' ⟨rfl, rfl⟩)
      exact bodyPost_ret (results_tmp2 rfl _ _ _) rfl ⟨by rw [HR.out]; rfl, hb1.trans (hbw.mono hb1.size), fun n h => by rw [HR.out] at h; cases h⟩
    obtain ⟨n1, hn1⟩ : ∃ n1, l.length = n1 + 1 := ⟨l.length - 1, by omega⟩
    have htot := HI.out.tot
    have hkle := HI.out.kle
    have CP := Lib.hid (hpop_any Q r cap cur l n1 wr HI.out.hq hn1 (by omega) HI.out.heap)
    rw [hn1] at hq0 CL
    go_wp2_with (first
      | (go_at_call 76; refine (CL.out _).mono ?_; rintro e w' ⟨rfl, rfl⟩)
      | (go_at_call 77; refine CP.out.mono ?_; rintro e w4 ⟨x, l', cur', rfl, hq4, hp, hmin, hh, hbut⟩; have ta := assert_stop x.1 (x.2 : Int) w4; refine Hid.out ?_))
    have hxm : x ∈ l := hp.mem_iff.2 (by simp)
    have hxs := HI.out.str x hxm
    have hxb := HI.out.mi x hxm
    have hll : l.length = l'.length + 1 := by have := hp.length_eq; simpa using this
    have hQw := HI.out.hq.lt.1
    have hb4 : Below w1.heap.size w1 w4 := hbw.trans (hbut.below hbw.size (fun k hk => by omega))
    have hm4 : MapS w4 w1.heap.size n (gR R) := HI.out.map.same (hbut.block _ HI.out.map.lt (by omega))
    have hsz4 := hbut.size
    obtain ⟨N, hN⟩ : ∃ N, N = w4.heap.size := ⟨_, rfl⟩
    have z0 := cells_new w4 #[.string x.1, .int .i64 (x.2 : Int)] stopT 0
    have z1 := cells_new w4 #[.string x.1, .int .i64 (x.2 : Int)] stopT 1
    simp only [List.getElem?_toArray, List.getElem?_cons_zero, List.getElem?_cons_succ] at z0 z1
    have hbN := bel_alloc w4 (.cells #[.string x.1, .int .i64 (x.2 : Int)] stopT)
    have hq5 := hq4.more hbN
    have hm5 := hm4.more hbN
    have hb5 := hb4.trans (hbN.mono hb4.size)
    have hr4 := hq4.lt.2
    have lk := lookB hm5 x.1 hxs
    rw [gR_get] at lk
    by_cases he : x.1 = to
    · have HR : Hid (disO E a to = some x.2) := Lib.hid (HI.out.dij.found (m := x.2) (q' := l') (by rw [← he]; exact hp) hmin)
      have heq : (x.1.toList == to.toList) = true := (eqS_iff x.1 to).2 he
      clear lk he
      refine Lib.hid ?_
      go_wp2
      exact bodyPost_ret (results_tmp2 rfl _ _ _) rfl ⟨by rw [HR.out]; rfl, hb1.trans (hb5.mono hb1.size), fun n h => by rw [HR.out] at h; cases h; omega⟩
    have heq : (x.1.toList == to.toList) = false := by
      cases h : (x.1.toList == to.toList) with
      | false => rfl
      | true => exact absurd ((eqS_iff x.1 to).1 h) he
    cases hr : R x.1
    · rw [hr] at lk
      obtain ⟨A2, cap2, hV, hrow⟩ := HN.out.form x.1
      have lkV := Lib.hid (fun W hW => (show (Instr.lookup 114 (.map (some b)) (.string x.1) false).run Tryd.prog W = .ok (.slice A2 (adj E x.1).length cap2) W by rw [(HN.out.more (w' := W) hW).look x.1 hxs, hV]))
      have hrem := rem_grow E R (fun y => R y || decide (y = x.1)) x.1 hr (fun _ => rfl)
      have hnum := HI.out.num
      have HG := Lib.hid (fun q'' hq => HI.out.dij.grow (m := x.2) (q' := l') (q'' := q'') hp hmin (by simp [hr]) he hq)
      have HMI : Hid (∀ y, y ∈ l' → y.2 + 20000 * gk ≤ 2420000 ∧ y.1.size ≤ maxLen) := Lib.hid (fun y hy => ⟨HI.out.mi y (hp.mem_iff.2 (by simp [hy])), HI.out.str y (hp.mem_iff.2 (by simp [hy]))⟩)
      obtain ⟨kk, hkk⟩ : ∃ kk, kk = gk - 1 := ⟨_, rfl⟩
      have hgk : kk < gk := by omega
      have hkk2 : gk = kk + 1 := by omega
      have HKK := Lib.hid hgk
      have HT : Hid (l'.length + rem E R = kk) := Lib.hid (by omega)
      have HMK : Hid (∀ y, y ∈ l' → y.2 + 20000 * (kk + 1) ≤ 2420000 ∧ y.1.size ≤ maxLen) := Lib.hid (by rw [← hkk2]; exact HMI.out)
      have hxk : x.2 + 20000 * (kk + 1) ≤ 2420000 := by rw [← hkk2]; exact hxb
      have hkk121 : kk ≤ 120 := by omega
      have hnk : n + 1 + kk ≤ 121 := by omega
      have hN1 : w4.heap.size ≠ w1.heap.size := by have := hm4.lt; omega
      have hNr : w4.heap.size ≠ r := by omega
      have hNQ : w4.heap.size ≠ Q := by omega
      have hQ1 : Q ≠ w1.heap.size := by omega
      have hr1 : r ≠ w1.heap.size := by omega
      obtain ⟨len, hlen⟩ : ∃ len, len = (adj E x.1).length := ⟨_, rfl⟩
      have hlr : len ≤ 121 := by omega
      have hl' : l'.length + len ≤ 121 := by omega
      rw [← hlen] at hrem lkV
      have HLEN := Lib.hid hlen
      have HREM := Lib.hid hrem
      have hrow' : Hid (∀ k, k < len → ∃ g, A2 = some ⟨g, 0, none⟩ ∧ g < w1.heap.size ∧ w1.cell? ⟨g, k * 2, none⟩ = some (.string (el (adj E x.1) k).1) ∧ w1.cell? ⟨g, k * 2 + 1, none⟩ = some (.int .i64 ((el (adj E x.1) k).2 : Int))) := Lib.hid (by rw [hlen]; exact hrow)
      clear hlen hrem hrow hV he hr HI hp hmin CP hkk hl0 hn1 htot hb2
      have HQ5 := Lib.hid hq5
      refine Lib.hid ?_
      go_wp2_with (at_mapUpdate; refine wpList_put rfl _ _ _ 104 rfl strK str_inj Tryd.underlying104 rfl hm5 (by unfold maxLen; omega) x.1 _ rfl (str_key x.1 hxs) ?_; intro w6 hm6 hg6; have z06 := hg6.cell z0 (fun e => hN1 (Option.some.inj e)); have z16 := hg6.cell z1 (fun e => hN1 (Option.some.inj e)); have hb6 := hb5.grown hg6 (Nat.le_trans hb5.size (Nat.le_refl _)) (fun k hk => by cases hk; exact Nat.le_refl _); have lk6 := lkV.out w6 hb6)
      have HI6 : Hid (Inn w1 w6 Q w4.heap.size r cap cur' l' (l' ++ ((adj E x.1).take 0).map (fun y => (y.1, x.2 + y.2))) (n + 1) (fun y => R y || decide (y = x.1)) x) :=
        Lib.hid ⟨HQ5.out.grown hg6 (fun e => hQ1 (Option.some.inj e)) (fun e => hr1 (Option.some.inj e)), hh, by simp, by rw [← gR_put]; exact hm6, hb6, hlow, hNr, z06, z16⟩
      clear lk lk6 hm6 hg6 z06 z16 hb6 hm4 hm5 hq4 hq5 z0 z1 hbN hbut hb4 hb5 heq ta hh hbw CL hq0
      go_loopg [48] len (fun kq s48 W => ∃ (k r2 cap3 : Nat) (cur2 : Array Value) (lq : List Stp), s48 = .int .i64 k ∧ k ≤ len ∧ k + kq = len ∧ Hid (Inn w1 W Q w4.heap.size r2 cap3 cur2 lq (l' ++ ((adj E x.1).take k).map (fun y => (y.1, x.2 + y.2))) (n + 1) (fun y => R y || decide (y = x.1)) x))
      case atStart => exact ⟨0, _, _, _, _, rfl, Nat.zero_le _, by omega, HI6⟩
      case round =>
        obtain ⟨k, r2, cap3, cur2, lq, rfl, hkl, hkq, J⟩ := hrel
        have hJ0 := J.out.c0
        have hJ1 := J.out.c1
        by_cases hlt : k < len
        · obtain ⟨g2, rfl, hg2l, e0, e1⟩ := hrow'.out k hlt
          have hadjk : k < (adj E x.1).length := by rw [← HLEN.out]; exact hlt
          have f0 := bel_cell J.out.bel e0
          have f1 := bel_cell J.out.bel e1
          have hmem : (x.1, (el (adj E x.1) k).1, (el (adj E x.1) k).2) ∈ E := adj_mem.1 (el_mem hadjk)
          obtain ⟨hys, hyw⟩ := hES.out _ _ _ hmem
          have hlq : lq.length = l'.length + k := by
            have := J.out.perm.length_eq
            rw [List.length_append, List.length_map, List.length_take] at this
            omega
          have hstep : Hid ((l' ++ ((adj E x.1).take k).map (fun y => (y.1, x.2 + y.2))) ++ [((el (adj E x.1) k).1, x.2 + (el (adj E x.1) k).2)] = l' ++ ((adj E x.1).take (k + 1)).map (fun y => (y.1, x.2 + y.2))) := Lib.hid (by
            rw [List.take_add_one, el_some hadjk]
            simp)
          have i2 : (k : Int) < (len : Int) := by omega
          generalize (el (adj E x.1) k) = y at *
          obtain ⟨ys, yw⟩ := y
          dsimp only at f0 f1 hys hyw
          have hbM := bel_alloc wr (.cells #[.string ys, .int .i64 (yw : Int)] stopT)
          have CPs := Lib.hid (hpush_any Q r2 cap3 cur2 lq (ys, x.2 + yw) _ (J.out.hq.more hbM) (by omega) J.out.heap)
          dsimp only at CPs
          rw [Int.natCast_add] at CPs
          have f2 := bel_cell hbM hJ0
          have f3 := bel_cell hbM hJ1
          clear e0 e1 hadjk hmem
          go_wp2_with (go_at_call 78; refine CPs.out.mono ?_; rintro e w7 ⟨rfl, g3, cap4, cur3, lq', hq7, hp7, hh7, hb7, hg7⟩)
          have hNl : w4.heap.size < (wr.alloc (.cells #[.string ys, .int .i64 (yw : Int)] stopT)).heap.size := World.block_lt_of_cell? _ _ f2
          have hr2l := (J.out.hq.more hbM).lt.2
          have hml := (J.out.map.more hbM).lt
          have hlw := J.out.low
          have hnr2 := J.out.nr
          go_roundg (len - (k + 1))
          case measure => omega
          case rel =>
            refine ⟨k + 1, g3, cap4, cur3, lq', by go_num, by omega, by omega, Lib.hid ⟨hq7, hh7, ?_, ?_, ?_, ?_, ?_, ?_, ?_⟩⟩
            · rw [← hstep.out]
              exact hp7.trans (J.out.perm.append_right _)
            · exact (J.out.map.more hbM).same (hb7.block _ hml (by omega))
            · exact (J.out.bel.trans (hbM.mono J.out.bel.size)).trans (hb7.below (Nat.le_trans J.out.bel.size hbM.size) (fun k hk => by omega))
            · rcases hg7 with e | e <;> omega
            · rcases hg7 with e | e <;> omega
            · exact (World.cell?_of_block (a := ⟨w4.heap.size, 0, none⟩) (hb7.block w4.heap.size hNl (show ¬ (w4.heap.size = Q ∨ w4.heap.size = r2) by omega))).trans f2
            · exact (World.cell?_of_block (a := ⟨w4.heap.size, 1, none⟩) (hb7.block w4.heap.size hNl (show ¬ (w4.heap.size = Q ∨ w4.heap.size = r2) by omega))).trans f3
        · have hkk3 : k = len := by omega
          have HS : Hid (Sch E a to w1 wr Q r2 cap3 cur2 lq (n + 1) (fun y => R y || decide (y = x.1)) kk) := Lib.hid (by
            have hp2 := J.out.perm
            rw [List.take_of_length_le (by rw [hkk3]; exact Nat.le_of_eq HLEN.out.symm)] at hp2
            have hlq := hp2.length_eq
            rw [List.length_append, List.length_map, ← HLEN.out] at hlq
            refine ⟨J.out.hq, J.out.heap, ?_, J.out.map, J.out.bel, J.out.low, ?_, by omega, by omega, ?_, ?_⟩
            · have := HG.out lq hp2
              simpa using this
            · have := HREM.out
              have := HT.out
              omega
            · intro y hy
              rcases List.mem_append.1 (hp2.mem_iff.1 hy) with h | h
              · have := (HMK.out y h).1
                omega
              · obtain ⟨⟨ys, yw⟩, hz, rfl⟩ := List.mem_map.1 h
                have := (hES.out _ _ _ (adj_mem.1 hz)).2
                dsimp only
                omega
            · intro y hy
              rcases List.mem_append.1 (hp2.mem_iff.1 hy) with h | h
              · exact (HMK.out y h).2
              · obtain ⟨⟨ys, yw⟩, hz, rfl⟩ := List.mem_map.1 h
                exact (hES.out _ _ _ (adj_mem.1 hz)).1)
          go_wp2
          go_roundg kk
          case measure => exact HKK.out
          case rel => exact ⟨_, _, _, _, _, _, HS⟩
    · rw [hr] at lk
      have HS : Hid (Sch E a to w1 (w4.alloc (.cells #[.string x.1, .int .i64 (x.2 : Int)] stopT)) Q r cap cur' l' n R (gk - 1)) := Lib.hid ⟨hq5, hh, HI.out.dij.skip hp hr, hm5, hb5, hlow, by omega, by omega, by have := HI.out.num; omega, fun y hy => by
          have := HI.out.mi y (hp.mem_iff.2 (by simp [hy])); omega, fun y hy => HI.out.str y (hp.mem_iff.2 (by simp [hy]))⟩
      have hgk : gk - 1 < gk := by omega
      clear he hr
      refine Lib.hid ?_
      go_wp2
      go_roundg (gk - 1)
      case measure => exact hgk
      case rel => exact ⟨_, _, _, _, _, _, HS⟩

end Go.Proofs.YtjokpfeiganigaaDoor
