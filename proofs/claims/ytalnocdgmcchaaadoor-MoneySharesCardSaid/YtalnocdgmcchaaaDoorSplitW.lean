/- Split, walked. -/
import Derived.Test.YtalnocdgmcchaaaDoorSplitP
import Derived.Deep.CutRange
import Derived.Deep.RegionHeld3
namespace Go.Proofs.YtalnocdgmcchaaaDoor
open Go.RowKit Go.Sort
set_option linter.unusedSimpArgs false
set_option linter.unusedVariables false

def SplitErr (code : Int) (w : World) (e : Ending) (w' : World) : Prop := e = .returned (.tuple #[.slice none 0 0, .int .i64 code]) ∧ Below w.heap.size w w'
def SplitOut (a : Int) (ws : List Int) (w : World) (e : Ending) (w' : World) : Prop :=
  ∃ v ord, e = .returned (.tuple #[v, .int .i64 0]) ∧ Ordered (remL a ws) ord ∧ IntL w' v (tab (shareF a ws ord) ws.length) ∧ Below w.heap.size w w'

set_option maxRecDepth 100000 in
set_option maxHeartbeats 2000000 in
theorem split_err (v : Value) (a : Int) (ws : List Int) (w : World) (code : Int) (hv : IntL w v ws) (hn : ws.length ≤ 100) (hW : ∃ t, weighR ws = (t, code)) (hc : code ≠ 0) :
    Calls Tryd.prog 20 #[.int .i64 a, v] w (SplitErr code w) := by
  obtain ⟨t, hW⟩ := hW
  have CW := Lib.hid (fun w' (hb : Below w.heap.size w w') => weigh_any v ws w' (hv.more hb) (by omega))
  rw [hW] at CW
  have hc2 : ((code : Int) != 0) = true := by simp [hc]
  clear hv hW hc
  go_enter Tryd.func20, Tryd.ntmps20
  go_wp2_with fail
  refine (CW.out _ ((Below.refl _ _).alloc (Nat.le_refl _) _)).mono ?_
  rintro e w' ⟨rfl, rfl⟩
  go_wp2
  go_ret2
  exact ⟨rfl, ((Below.refl _ _).alloc (Nat.le_refl _) _).alloc (by simp) _⟩
set_option maxRecDepth 100000 in
set_option maxHeartbeats 2000000 in
theorem split_over (v : Value) (a : Int) (ws : List Int) (w : World) (T : Int) (hv : IntL w v ws) (hn : ws.length ≤ 100) (hW : weighR ws = (T, 0)) (ha : amtB a = false) :
    Calls Tryd.prog 20 #[.int .i64 a, v] w (SplitErr 11 w) := by
  have CW := Lib.hid (fun w' (hb : Below w.heap.size w w') => weigh_any v ws w' (hv.more hb) (by omega))
  rw [hW] at CW
  have CA := Lib.hid (fun w => isAmount_any a w)
  rw [ha] at CA
  clear hv hW ha
  go_enter Tryd.func20, Tryd.ntmps20
  go_wp2_with fail
  refine (CW.out _ ((Below.refl _ _).alloc (Nat.le_refl _) _)).mono ?_
  rintro e w' ⟨rfl, rfl⟩
  go_wp2_with fail
  refine (CA.out _).mono ?_
  rintro e w' ⟨rfl, rfl⟩
  go_wp2
  go_ret2
  exact ⟨rfl, ((Below.refl _ _).alloc (Nat.le_refl _) _).alloc (by simp) _⟩

set_option maxRecDepth 100000 in
theorem slice_to (g n L : Nat) (W : World) (h0 : 0 < n) (hL : L ≤ n) : (Instr.slice 22 (.slice (some ⟨g, 0, none⟩) n n) none (some (.int .i64 (L : Int))) none).run Tryd.prog W = .ok (.slice (some ⟨g, 0, none⟩) L n) W := by
  have hu : Tryd.prog.underlying 22 = some (.slice (Tryd.prog.elem 22)) := Tryd.underlying22
  have e : Tryd.prog.elem 22 = 3 := by kernel_rfl
  have hne : ¬ n = 0 := by omega
  rw [run_slice_h _ _ _ _ _ hu _ _ (by omega) (by omega), e, Tryd.sizeOf3]
  simp [sliced, hne, Result.andThen, Addr.add]
def OrdAt (n : Nat) (rem : List Int) (w : World) (e : Ending) (w' : World) : Prop :=
  ∃ g ord, e = .returned (.slice (some ⟨g, 0, none⟩) n n) ∧ Row w' g (ord.map (fun j : Nat => (j : Int))) ∧ Ordered rem ord ∧ w.heap.size ≤ g ∧ Below w.heap.size w w'
theorem Row.one (w : World) (a : Int) (e : TypeId) : Row (w.alloc (.cells #[.int .i64 a] e)) w.heap.size [a] := by
  have hb : (w.alloc (.cells #[.int .i64 a] e)).heap[w.heap.size]? = some (.cells #[.int .i64 a] e (0, 0)) := heap_alloc_new w _
  refine ⟨fun j hj => ?_, fun j hj => ?_, by simp⟩
  · obtain rfl : j = 0 := by simpa using hj
    rw [cell_of_row _ w.heap.size 0 _ e (0, 0) hb]
    rfl
  · unfold World.frozen?
    simp only [hb]
    simp
theorem tab_zero (n : Nat) (f : Nat → Int) : tab (fun j => if j < 0 then f j else 0) n = List.replicate n 0 := by
  apply List.ext_getElem
  · simp [tab]
  · intro i h1 h2; simp [tab]
theorem step_if (f : Nat → Int) (k i : Nat) : (if i < k + 1 then f i else 0) = if i = k then f k else if i < k then f i else 0 := by
  by_cases h : i = k
  · subst h; rw [if_pos (by omega), if_pos rfl]
  · rw [if_neg h]
    by_cases h2 : i < k
    · rw [if_pos (by omega), if_pos h2]
    · rw [if_neg (by omega), if_neg h2]
theorem spw_start (w : World) (a T r : Int) (n : Nat) : SpW w w.heap.size (w.heap.size + 1) (w.heap.size + 1 + 1) (w.heap.size + 1 + 1 + 1) (w.heap.size + 1 + 1 + 1 + 1) a T r (tab (fun j => if j < 0 then (qN 0 [] j : Int) else 0) n) (tab (fun j => if j < 0 then (qN 0 [] j : Int) else 0) n)
    (((((w.alloc (.cells #[.int .i64 a] 3)).alloc (.cells #[.int .i64 T] 3)).alloc (.cells #[.int .i64 r] 3)).alloc (.cells (madeCells #[.int .i64 0] n) 3)).alloc (.cells (madeCells #[.int .i64 0] n) 3)) := by
  rw [tab_zero]
  have h1 := Row.one w a 3
  have h2 := Row.one (w.alloc (.cells #[.int .i64 a] 3)) T 3
  have h3 := Row.one ((w.alloc (.cells #[.int .i64 a] 3)).alloc (.cells #[.int .i64 T] 3)) r 3
  have h4 := Row.made (((w.alloc (.cells #[.int .i64 a] 3)).alloc (.cells #[.int .i64 T] 3)).alloc (.cells #[.int .i64 r] 3)) n 3
  have h5 := Row.made ((((w.alloc (.cells #[.int .i64 a] 3)).alloc (.cells #[.int .i64 T] 3)).alloc (.cells #[.int .i64 r] 3)).alloc (.cells (madeCells #[.int .i64 0] n) 3)) n 3
  have s1 : ∀ (W : World) (o : Obj), (W.alloc o).heap.size = W.heap.size + 1 := fun W o => by simp
  rw [s1] at h2
  rw [s1, s1] at h3
  rw [s1, s1, s1] at h4
  rw [s1, s1, s1, s1] at h5
  exact ⟨(((h1.alloc _).alloc _).alloc _).alloc _, ((h2.alloc _).alloc _).alloc _, (h3.alloc _).alloc _, h4.alloc _, h5,
    (((((Below.refl _ _).alloc (Nat.le_refl _) _).alloc (by simp) _).alloc (by simp only [s1]; omega) _).alloc (by simp only [s1]; omega) _).alloc (by simp only [s1]; omega) _⟩

set_option maxRecDepth 100000 in
set_option maxHeartbeats 8000000 in
theorem split_ok (v : Value) (a : Int) (ws : List Int) (w : World) (T : Int) (hv : IntL w v ws) (hn : ws.length ≤ 100) (hW : weighR ws = (T, 0)) (ha : amtB a = true) :
    Calls Tryd.prog 20 #[.int .i64 a, v] w (SplitOut a ws w) := by
  obtain ⟨G, hT⟩ := good_of hW
  obtain ⟨a1, a2⟩ := amt_yes ha
  have HG := Lib.hid G
  have HV := Lib.hid hv
  have CW := Lib.hid (fun w' (hb : Below w.heap.size w w') => weigh_any v ws w' (hv.more hb) (by omega))
  rw [hW] at CW
  have CA := Lib.hid (fun w => isAmount_any a w)
  rw [ha] at CA
  have CZ := Lib.hid (fun w => size_any a w (by omega) (by omega))
  obtain ⟨i0, hi, hz0, hz1, hz2⟩ := info_parts intT
  have HI := Lib.hid hi
  have HZ0 := Lib.hid hz0
  have HZ1 := Lib.hid hz1
  have HZ2 := Lib.hid hz2
  obtain ⟨A, cp, rfl, _⟩ := hv
  have hlen := G.len
  have HTT := Lib.hid hT
  have T1 : 0 < T := by have := G.tpos; omega
  have T2 : T ≤ 1099511627776 := by have := G.tle; omega
  clear hi hz0 hz1 hz2 hW ha G hT
  go_enter Tryd.func20, Tryd.ntmps20
  go_wp2_with fail
  refine (CW.out _ ((Below.refl _ _).alloc (Nat.le_refl _) _)).mono ?_
  rintro e w' ⟨rfl, rfl⟩
  go_wp2_with fail
  refine (CA.out _).mono ?_
  rintro e w' ⟨rfl, rfl⟩
  go_wp2_with fail
  refine (CZ.out _).mono ?_
  rintro e w' ⟨rfl, rfl⟩
  go_wp2_with (at_make; refine wpList_make_row _ rfl _ _ 22 rfl 3 i0 (.int .i64 0) Tryd.underlying22 HI.out HZ0.out HZ1.out rfl _ _ ws.length rfl rfl (by rw [HZ2.out]; omega) (by omega) ?_)
  -- the memory so far
  have hS := spw_start w a T (a.natAbs : Int) ws.length
  obtain ⟨rest0, hrest0⟩ : ∃ z : Int, z = (a.natAbs : Int) := ⟨_, rfl⟩
  have HR0 := Lib.hid hrest0
  rw [← hrest0] at hS ⊢
  have S0 := Lib.hid hS
  clear hS hrest0
  generalize (((((w.alloc (.cells #[.int .i64 a] 3)).alloc (.cells #[.int .i64 T] 3)).alloc (.cells #[.int .i64 rest0] 3)).alloc (.cells (madeCells #[.int .i64 0] ws.length) 3)).alloc (.cells (madeCells #[.int .i64 0] ws.length) 3)) = W1 at S0 ⊢
  obtain ⟨pm, hpm⟩ : ∃ p, p = w.heap.size + 1 + 1 + 1 + 1 := ⟨_, rfl⟩
  obtain ⟨ps, hps⟩ : ∃ p, p = w.heap.size + 1 + 1 + 1 := ⟨_, rfl⟩
  obtain ⟨pr, hpr⟩ : ∃ p, p = w.heap.size + 1 + 1 := ⟨_, rfl⟩
  obtain ⟨pw, hpw⟩ : ∃ p, p = w.heap.size + 1 := ⟨_, rfl⟩
  obtain ⟨pa, hpa⟩ : ∃ p, p = w.heap.size := ⟨_, rfl⟩
  have AP : Hid (Apart w pa pw pr ps pm) := Lib.hid ⟨by omega, by omega, by omega, by omega, by omega⟩
  rw [← hpm, ← hps, ← hpr, ← hpw] at S0 ⊢
  rw [← hpa] at S0 ⊢
  clear hpm hps hpr hpw hpa CW CA CZ
  go_loopg [40] ws.length (fun gh vk wr => ∃ k : Nat, k ≤ ws.length ∧ ws.length - k ≤ gh ∧ vk = .int .i64 k ∧ Hid (SpW w pa pw pr ps pm a T (rest0 - (psum (qN a ws) k : Int)) (tab (fun j => if j < k then (qN a ws j : Int) else 0) ws.length) (tab (fun j => if j < k then (rN a ws j : Int) else 0) ws.length) wr))
  case atStart => exact ⟨0, Nat.zero_le _, by omega, rfl, Lib.hid (by simpa [psum] using S0.out)⟩
  case round =>
    clear S0
    obtain ⟨k, hk, hgk, rfl, HS⟩ := hrel
    by_cases hlt : k < ws.length
    · have hIL := HV.out.more HS.out.bel
      obtain ⟨b, o, rfl, _, hb, hcc⟩ := hIL.cells hlen
      have g1 := hcc k hlt
      rw [wN_get HG.out k hlt] at g1
      have i1 : (k : Int) < (ws.length : Int) := by omega
      clear hcc hIL
      have hq1 := q_le HG.out a k (by omega)
      have hq2 := qN_le HG.out a k hlt
      have hw1 := wN_le HG.out k hlt
      have hps1 : psum (qN a ws) (k + 1) = psum (qN a ws) k + qN a ws k := rfl
      have hq3 := q_le HG.out a (k + 1) (by omega)
      have CC := cut_any (wN ws k) (tN ws) a (rest0 - (psum (qN a ws) k : Int)) pa pw pr wr (HS.out.ra.cell 0 (by simp)) (by rw [← HTT.out]; exact HS.out.rt.cell 0 (by simp)) (HS.out.rr.cell 0 (by simp)) (HS.out.rr.froz 0 (by simp)) a1 a2 HG.out.tpos HG.out.tle hw1
        (by have := HR0.out; omega) (by have := HR0.out; omega)
      change Calls _ _ _ _ (fun e W' => e = .returned (.tuple #[.int .i64 ((qN a ws k : Nat) : Int), .int .i64 ((rN a ws k : Nat) : Int)]) ∧ ∃ n, W' = (wr.drewN n).setCell ⟨pr, 0, none⟩ (.int .i64 (rest0 - (psum (qN a ws) k : Int) - ((qN a ws k : Nat) : Int)))) at CC
      have HC := Lib.hid CC
      have HSs := Lib.hid (fun n => ((HS.out.drewN n).setRest AP.out (rest0 - (psum (qN a ws) k : Int) - ((qN a ws k : Nat) : Int))))
      have HPS := Lib.hid hps1
      clear CC hq1 hq2 hw1 hps1 hq3 HS
      go_wp2_with fail
      refine HC.out.mono ?_
      rintro e w' ⟨rfl, n, rfl⟩
      have S2 := Lib.hid (HSs.out n)
      clear HSs HC
      generalize (wr.drewN n).setCell ⟨pr, 0, none⟩ (.int .i64 (rest0 - (psum (qN a ws) k : Int) - ((qN a ws k : Nat) : Int))) = w2 at S2 ⊢
      have S3 := Lib.hid (S2.out.setShare AP.out k (by rw [tab_len]; exact hlt) (qN a ws k : Int))
      have S4 := Lib.hid (S3.out.setRem AP.out k (by rw [tab_len]; exact hlt) (rN a ws k : Int))
      have c1 := S2.out.rs.cell k (by rw [tab_len]; exact hlt)
      have f1 := S2.out.rs.froz k (by rw [tab_len]; exact hlt)
      have c2 := S3.out.rm.cell k (by rw [tab_len]; exact hlt)
      have f2 := S3.out.rm.froz k (by rw [tab_len]; exact hlt)
      rw [tab_get] at c1 c2
      have S5 : Hid (SpW w pa pw pr ps pm a T (rest0 - (psum (qN a ws) (k + 1) : Int)) (tab (fun j => if j < k + 1 then (qN a ws j : Int) else 0) ws.length) (tab (fun j => if j < k + 1 then (rN a ws j : Int) else 0) ws.length) ((w2.setCell ⟨ps, k, none⟩ (.int .i64 (qN a ws k : Int))).setCell ⟨pm, k, none⟩ (.int .i64 (rN a ws k : Int)))) := Lib.hid (by
        have h := S4.out
        rw [tab_set, tab_set] at h
        rw [tab_congr (f := fun j => if j < k + 1 then (qN a ws j : Int) else 0) (g := fun i => if i = k then (qN a ws k : Int) else if i < k then (qN a ws i : Int) else 0) (fun i _ => step_if (fun j => (qN a ws j : Int)) k i),
          tab_congr (f := fun j => if j < k + 1 then (rN a ws j : Int) else 0) (g := fun i => if i = k then (rN a ws k : Int) else if i < k then (rN a ws i : Int) else 0) (fun i _ => step_if (fun j => (rN a ws j : Int)) k i), HPS.out]
        rw [show rest0 - ((psum (qN a ws) k + qN a ws k : Nat) : Int) = rest0 - (psum (qN a ws) k : Int) - (qN a ws k : Int) by omega]
        exact h)
      clear S2 S3 S4
      generalize qN a ws k = qk at *
      generalize rN a ws k = rk at *
      go_wp2
      go_roundg (ws.length - (k + 1))
      case measure => omega
      case rel => exact ⟨k + 1, by omega, Nat.le_refl _, by go_num, S5⟩
    · obtain rfl : k = ws.length := by omega
      have hl := l_eq HG.out a
      have hlt2 := l_lt HG.out a
      have S1 : Hid (SpW w pa pw pr ps pm a T (lN a ws : Int) (tab (upN a ws [] 0) ws.length) (remL a ws) wr) := Lib.hid (by
        have h := HS.out
        rw [show rest0 - (psum (qN a ws) ws.length : Int) = (lN a ws : Int) by have := HR0.out; omega] at h
        rw [tab_congr (f := fun j => if j < ws.length then (qN a ws j : Int) else 0) (g := upN a ws [] 0) (fun i hi => by rw [if_pos hi]; simp [upN]),
          tab_congr (f := fun j => if j < ws.length then (rN a ws j : Int) else 0) (g := fun i => (rN a ws i : Int)) (fun i hi => by rw [if_pos hi])] at h
        exact h)
      have hrl : (remL a ws).length = ws.length := by simp [remL, tab_len]
      have CO := greatestFirst_any (.slice (some ⟨pm, 0, none⟩) ws.length ws.length) (remL a ws)
      rw [hrl] at CO
      have hIL : ∀ W, RowKit.Below wr.heap.size wr W → IntL W (.slice (some ⟨pm, 0, none⟩) ws.length ws.length) (remL a ws) := fun W hb => by
        have h := (S1.out.rm.more hb).intL (c := ws.length)
        rw [hrl] at h
        exact h
      have HCO : Hid (∀ W, RowKit.Below wr.heap.size wr W → Calls Tryd.prog 36 #[.slice (some ⟨pm, 0, none⟩) ws.length ws.length] W (OrdAt ws.length (remL a ws) W)) := Lib.hid (fun W hb => (CO W hlen (by omega) (hIL W hb)).mono fun e w' ⟨g, ord, he, hr⟩ => ⟨g, ord, by rw [he, hrl], hr⟩)
      have c8 : wr.cell? ⟨pr, 0, none⟩ = some (.int .i64 (lN a ws : Int)) := S1.out.rr.cell 0 (by simp)
      have HL := Lib.hid hlt2
      obtain ⟨L, hL⟩ : ∃ L, L = lN a ws := ⟨_, rfl⟩
      have HLe := Lib.hid hL
      rw [← hL] at c8 hlt2
      have i1 : (L : Int) ≤ (ws.length : Int) := by omega
      have i2 : (0 : Int) ≤ (L : Int) := by omega
      have i3 : L ≤ ws.length := by omega
      have hne : ¬ ws.length = 0 := by omega
      have hne2 : ¬ ws = [] := by rintro rfl; simp at hlen
      have hsl : ∀ (g : Nat) (W : World), (Instr.slice 22 (.slice (some ⟨g, 0, none⟩) ws.length ws.length) none (some (.int .i64 (L : Int))) none).run Tryd.prog W = .ok (.slice (some ⟨g, 0, none⟩) L ws.length) W := fun g W => slice_to g ws.length L W hlen (by omega)
      clear CO hIL hrl HS hl hL
      go_wp2_with fail
      have hprlt : pr < wr.heap.size := S1.out.rr.lt
      go_region_held3 (fun W => W.cell? ⟨pr, 0, none⟩ = some (.int .i64 (L : Int)) ∧ RowKit.Below wr.heap.size wr W) (first | exact ⟨c8, below_drewN (Below.refl _ _) 1⟩ | (exact ⟨c8, (Below.refl _ _).drew⟩) | (exact ⟨(hbw.cell (p := ⟨pr, 0, none⟩) hprlt).trans c8, ((Below.refl _ _).drew).trans hbw⟩)) ((go_at_call 36; refine (HCO.out _ (Below.refl _ _).drew).mono ?_; rintro e w2 ⟨g, ord, rfl, hro, hor, hge, hbw⟩))
      have HO := Lib.hid hor
      have hpsg : ps < g := Nat.lt_of_lt_of_le S1.out.rs.lt hge
      have HRO := Lib.hid hro
      have S2 : Hid (SpW w pa pw pr ps pm a T (lN a ws : Int) (tab (upN a ws ord 0) ws.length) (remL a ws) w2) := Lib.hid (by
        have h := S1.out.more (((Below.refl _ _).drew).trans hbw) S1.out.bel.size
        rw [tab_congr (f := upN a ws [] 0) (g := upN a ws ord 0) (fun i _ => by simp [upN])] at h
        exact h)
      have hge2 : w.heap.size ≤ g := Nat.le_trans S1.out.bel.size hge
      have hol : ord.length = ws.length := by rw [hor.len]; simp [remL, tab_len]
      have HOL := Lib.hid hol
      have hLo : L < ord.length := by omega
      clear hor hro hge hbw HCO S1 c8 hsl hol
      go_wp2_with fail
      go_loopg [63] L (fun gh vk wq => ∃ k : Nat, k ≤ L ∧ L - k ≤ gh ∧ vk = .int .i64 k ∧ Hid (SpW w pa pw pr ps pm a T (lN a ws : Int) (tab (upN a ws ord k) ws.length) (remL a ws) wq) ∧ Hid (Row wq g (ord.map (fun j : Nat => (j : Int)))))
      case atStart => exact ⟨0, Nat.zero_le _, by omega, rfl, S2, HRO⟩
      case round =>
        clear S2 HRO
        obtain ⟨k, hk, hgk2, rfl, HS, HRO⟩ := hrel
        by_cases hlt3 : k < L
        · have j1 : (k : Int) < (L : Int) := by omega
          have hko : k < ord.length := by omega
          have g1 := HRO.out.cell k (by rw [List.length_map]; exact hko)
          rw [List.getElem_map] at g1
          have hoi := ordered_lt HO.out k hko
          have hoi2 : ord[k] < ws.length := by simpa [remL, tab_len] using hoi
          have hnot : ord[k] ∉ ord.take k := fun hm => by
            obtain ⟨j, hj, hje⟩ := List.mem_iff_getElem.1 hm
            rw [List.length_take] at hj
            rw [List.getElem_take] at hje
            exact List.pairwise_iff_getElem.1 (ordered_nodup HO.out) j k (by omega) hko (by omega) hje
          obtain ⟨p, hp⟩ : ∃ p, p = ord[k] := ⟨_, rfl⟩
          rw [← hp] at g1 hoi2 hnot
          have hub := qN_le HG.out a p hoi2
          have hun : upN a ws ord k p = (qN a ws p : Int) := by simp [upN, hnot]
          have c1 := HS.out.rs.cell p (by rw [tab_len]; exact hoi2)
          rw [tab_get, hun] at c1
          have f1 := HS.out.rs.froz p (by rw [tab_len]; exact hoi2)
          have j2 : (p : Int) < (ws.length : Int) := by omega
          have S5 : Hid (SpW w pa pw pr ps pm a T (lN a ws : Int) (tab (upN a ws ord (k + 1)) ws.length) (remL a ws) (wr.setCell ⟨ps, p, none⟩ (.int .i64 ((qN a ws p : Int) + 1)))) := Lib.hid (by
            have h := HS.out.setShare AP.out p (by rw [tab_len]; exact hoi2) ((qN a ws p : Int) + 1)
            rw [tab_set] at h
            rw [tab_congr (f := upN a ws ord (k + 1)) (g := fun i => if i = p then (qN a ws p : Int) + 1 else upN a ws ord k i) (fun i _ => by
              unfold upN
              rw [List.take_succ_eq_append_getElem hko, ← hp]
              by_cases e : i = p
              · subst e; simp
              · simp [e])]
            exact h)
          have HRO2 : Hid (Row (wr.setCell ⟨ps, p, none⟩ (.int .i64 ((qN a ws p : Int) + 1))) g (ord.map (fun j : Nat => (j : Int)))) := Lib.hid (HRO.out.other (by omega) _ _)
          have hqb : qN a ws p ≤ 1099511627776 := by omega
          clear hoi hnot hun hub HS HRO hp
          generalize qN a ws p = qk at *
          go_wp2
          go_roundg (L - (k + 1))
          case measure => omega
          case rel => exact ⟨k + 1, by omega, Nat.le_refl _, by go_num, S5, HRO2⟩
        · obtain rfl : k = L := by omega
          have S3 : Hid (SpW w pa pw pr ps pm a T (lN a ws : Int) (tab (fun i => if i < 0 then shareF a ws ord i else upN a ws ord (lN a ws) i) ws.length) (remL a ws) wr) := Lib.hid (by
            have h := HS.out
            rw [tab_congr (f := fun i => if i < 0 then shareF a ws ord i else upN a ws ord (lN a ws) i) (g := upN a ws ord k) (fun i _ => by rw [if_neg (by omega), ← HLe.out])]
            exact h)
          clear HS HRO
          go_wp2_with fail
          go_loopg [76] ws.length (fun gh vk wq => ∃ k : Nat, k ≤ ws.length ∧ ws.length - k ≤ gh ∧ vk = .int .i64 k ∧ Hid (SpW w pa pw pr ps pm a T (lN a ws : Int) (tab (fun i => if i < k then shareF a ws ord i else upN a ws ord (lN a ws) i) ws.length) (remL a ws) wq))
          case atStart => exact ⟨0, Nat.zero_le _, by omega, rfl, S3⟩
          case round =>
            clear S3
            obtain ⟨k3, hk3, hgk3, rfl, HS⟩ := hrel
            by_cases hlt4 : k3 < ws.length
            · have j1 : (k3 : Int) < (ws.length : Int) := by omega
              have c1 := HS.out.rs.cell k3 (by rw [tab_len]; exact hlt4)
              rw [tab_get, if_neg (by omega)] at c1
              have f1 := HS.out.rs.froz k3 (by rw [tab_len]; exact hlt4)
              have ca := HS.out.ra.cell 0 (by simp)
              have hub := qN_le HG.out a k3 hlt4
              have hux : 0 ≤ upN a ws ord (lN a ws) k3 ∧ upN a ws ord (lN a ws) k3 ≤ 1099511627777 := by
                unfold upN
                split <;> omega
              obtain ⟨hu1, hu2⟩ := hux
              have hsg : shareF a ws ord k3 = if decide (a < 0) then -(upN a ws ord (lN a ws) k3) else upN a ws ord (lN a ws) k3 := by simp [shareF, sg]
              obtain ⟨x, hx⟩ : ∃ x, x = upN a ws ord (lN a ws) k3 := ⟨_, rfl⟩
              rw [← hx] at c1 hu1 hu2 hsg
              have CSG := Lib.hid (fun w => signed_any x (decide (a < 0)) w (by omega) (by omega))
              rw [← hsg] at CSG
              have S5 : Hid (SpW w pa pw pr ps pm a T (lN a ws : Int) (tab (fun i => if i < k3 + 1 then shareF a ws ord i else upN a ws ord (lN a ws) i) ws.length) (remL a ws) (wr.setCell ⟨ps, k3, none⟩ (.int .i64 (shareF a ws ord k3)))) := Lib.hid (by
                have h := HS.out.setShare AP.out k3 (by rw [tab_len]; exact hlt4) (shareF a ws ord k3)
                rw [tab_set] at h
                rw [tab_congr (f := fun i => if i < k3 + 1 then shareF a ws ord i else upN a ws ord (lN a ws) i) (g := fun i => if i = k3 then shareF a ws ord k3 else if i < k3 then shareF a ws ord i else upN a ws ord (lN a ws) i) (fun i _ => by
                  by_cases e : i = k3
                  · subst e; rw [if_pos (by omega), if_pos rfl]
                  · rw [if_neg e]
                    by_cases e2 : i < k3
                    · rw [if_pos (by omega), if_pos e2]
                    · rw [if_neg (by omega), if_neg e2])]
                exact h)
              clear hx hsg HS hub
              generalize shareF a ws ord k3 = y at *
              go_wp2_with fail
              refine (CSG.out _).mono ?_
              rintro e w' ⟨rfl, rfl⟩
              go_wp2
              go_roundg (ws.length - (k3 + 1))
              case measure => omega
              case rel => exact ⟨k3 + 1, by omega, Nat.le_refl _, by go_num, S5⟩
            · obtain rfl : k3 = ws.length := by omega
              go_wp2
              go_ret2
              refine ⟨_, ord, rfl, HO.out, ?_, HS.out.bel⟩
              have h := HS.out.rs.intL (c := ws.length)
              rw [tab_len, tab_congr (f := fun i => if i < ws.length then shareF a ws ord i else upN a ws ord (lN a ws) i) (g := shareF a ws ord) (fun i hi => by rw [if_pos hi])] at h
              exact h
end Go.Proofs.YtalnocdgmcchaaaDoor
