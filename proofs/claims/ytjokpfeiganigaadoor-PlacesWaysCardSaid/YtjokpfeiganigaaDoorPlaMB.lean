/- Walk of the reference's Miles. -/
import Derived.Test.YtjokpfeiganigaaDoorPlaMA
import Derived.Test.YtjokpfeiganigaaDoorPlaV
namespace Go.Proofs.YtjokpfeiganigaaDoor
open Go.RowKit Go.Shelf
set_option linter.unusedSimpArgs false
set_option linter.unusedVariables false

/-- what the search keeps: ag: something has become shorter since l0 -/
structure RS (E : List Edg) (a : ByteArray) (m0 : Nat) (l0 : List Stp) (ag : Bool) (l : List Stp) : Prop where
  rel : Rel E a l
  cap : capL l
  up : ag = true → meas l < m0
  same : ag = false → l = l0
theorem RS.put {E : List Edg} {a : ByteArray} {m0 : Nat} {l0 : List Stp} {ag : Bool} {l : List Stp} (R : RS E a m0 l0 ag l) (hm : m0 = meas l0) (hE : E.length ≤ 120) {b c : ByteArray} {n w : Nat} (hw : Wy E a b n) (he : (b, c, w) ∈ E) (hk : n + w ≤ 20000 * l.length) :
    RS E a m0 l0 (ag || newL l c (n + w)) (putL l c (n + w)) := by
  have hlen := R.rel.len
  have hle : meas l ≤ m0 := by
    cases ag with
    | true => exact Nat.le_of_lt (R.up rfl)
    | false => rw [R.same rfl, hm]; exact Nat.le_refl _
  refine ⟨R.rel.put' hw he, R.cap.put' hk, fun h => ?_, fun h => ?_⟩
  · cases hz : newL l c (n + w) with
    | true => exact Nat.lt_of_lt_of_le (meas_put hz (by omega) (by omega)) hle
    | false =>
      rw [putL_same l c _ hz]
      rw [hz, Bool.or_false] at h
      exact R.up h
  · rw [Bool.or_eq_false_iff] at h
    rw [putL_same l c _ h.2]
    exact R.same h.1
/-- nothing becomes shorter along these distances -/
def Rx (F : List Edg) (l : List Stp) : Prop := ∀ b c w n, (b, c, w) ∈ F → (b, n) ∈ l → ∃ m, (c, m) ∈ l ∧ m ≤ n + w
theorem Rx.snoc {F : List Edg} {l : List Stp} (h : Rx F l) (h1 : l.Pairwise fun x y => x.1 ≠ y.1) {d : Dst} {mm : Nat} (hu : edg d = [(d.f, d.t, mm), (d.t, d.f, mm)]) (hx : ∀ n, atL l d.f = some n → newL l d.t (n + mm) = false) (hy : ∀ n, atL l d.t = some n → newL l d.f (n + mm) = false) : Rx (F ++ edg d) l := by
  intro b c w n he hb
  rcases List.mem_append.1 he with h0 | h0
  · exact h b c w n h0 hb
  · rw [hu] at h0
    simp only [List.mem_cons, Prod.mk.injEq, List.not_mem_nil, or_false] at h0
    rcases h0 with ⟨rfl, rfl, rfl⟩ | ⟨rfl, rfl, rfl⟩
    · exact putL_has l _ _ (hx n ((atL_mem h1).2 hb))
    · exact putL_has l _ _ (hy n ((atL_mem h1).2 hb))
theorem atI_some {l : List Stp} {c : ByteArray} {n : Nat} (h : atL l c = some n) : atI l c = (n : Int) := by unfold atI; rw [h]
theorem atI_none {l : List Stp} {c : ByteArray} (h : atL l c = none) : atI l c = -1 := by unfold atI; rw [h]

set_option maxRecDepth 100000 in
set_option maxHeartbeats 16000000 in
theorem rmiles_any (p : PV) (a b : ByteArray) (w : World) (hp : OkP p) (hL : PlL w p) :
    Calls Tryd.prog 23 #[encP p, .string a, .string b] w fun e w' => e = .returned (.tuple #[.int .i64 (milesP p.l (edgs p.ds) a b).1, .int .i64 (milesP p.l (edgs p.ds) a b).2]) ∧ Below w.heap.size w w' := by
  obtain ⟨hA, hD, hla, hld⟩ := hp
  obtain ⟨hLa, hLd⟩ := hL
  obtain ⟨A, ca, l, D, cd, ds⟩ := p
  dsimp only at *
  have hb0 := bel_alloc w (.cells #[.slice A l.length ca, .slice D ds.length cd] placesT)
  have p0 := cells_new w #[.slice A l.length ca, .slice D ds.length cd] placesT 0
  have p1 := cells_new w #[.slice A l.length ca, .slice D ds.length cd] placesT 1
  simp only [List.getElem?_toArray, List.getElem?_cons_zero, List.getElem?_cons_succ] at p0 p1
  have hLa5 := hLa.more hb0
  have hLd5 := hLd.more hb0
  go_enter Tryd.func23, Tryd.ntmps23
  go_wp2
  generalize hw5 : w.alloc (.cells #[.slice A l.length ca, .slice D ds.length cd] placesT) = w5 at *
  have f0 := SW.cell p0
  have f1 := SW.cell p1
  have g0 := bel_get p0
  have g1 := bel_get p1
  have KA : Hid (∀ W, SW w5 W → Calls Tryd.prog 19 #[encP ⟨A, ca, l, D, cd, ds⟩, .string a] W fun e w' => e = .returned (.string (cityP l a)) ∧ SW w5 w') := Lib.hid (SW.call (w5 := w5) (fun W h => rcity_any ⟨A, ca, l, D, cd, ds⟩ a W hla (hLa5.more h)))
  have KB : Hid (∀ W, SW w5 W → Calls Tryd.prog 19 #[encP ⟨A, ca, l, D, cd, ds⟩, .string b] W fun e w' => e = .returned (.string (cityP l b)) ∧ SW w5 w') := Lib.hid (SW.call (w5 := w5) (fun W h => rcity_any ⟨A, ca, l, D, cd, ds⟩ b W hla (hLa5.more h)))
  have HM : Hid (milesP l (edgs ds) a b = if cityP l a = noB ∨ cityP l b = noB then ((0 : Int), (14 : Int)) else match disO (edgs ds) (cityP l a) (cityP l b) with
    | some n => ((n : Int), (0 : Int))
    | none => ((0 : Int), (7 : Int))) := Lib.hid rfl
  generalize cityP l a = sa at *
  generalize cityP l b = sb at *
  have HLD := Lib.hid hLd5
  clear hla hLa hLa5 hA hLd hw5 p0 p1 hLd5
  have hNe : Nonempty (Wd (SW w5)) := ⟨⟨_, SW.drew _⟩⟩
  refine quietS (S := SW w5) (by kernel_rfl) (by kernel_rfl) (SW.drew _) ?_
  repeat (first | go_big_quiet_skip | (go_big_quiet_want; go_big_quiet_op; first | go_big_quiet_on | go_big_quiet_call (((go_at_call 19; first | (with_reducible exact quiet_S (KA.out _ (Wd.ok _))) | (with_reducible exact quiet_S (KB.out _ (Wd.ok _))))))))
  refine wpQuiet_nil ?_
  rintro W ⟨⟨_, hW⟩, rfl⟩
  by_cases h1 : sa = noB
  · have e1 := empty_yes h1
    have HR : Hid (milesP l (edgs ds) a b = (0, 14)) := Lib.hid (by rw [HM.out, if_pos (.inl h1)])
    clear h1
    go_wp2
    exact bodyPost_ret (results_tmp2 rfl _ _ _) rfl ⟨by rw [HR.out]; rfl, hb0.trans (Below.mono hW hb0.size)⟩
  have e1 := empty_no h1
  by_cases h2 : sb = noB
  · have e2 := empty_yes h2
    have HR : Hid (milesP l (edgs ds) a b = (0, 14)) := Lib.hid (by rw [HM.out, if_pos (.inr h2)])
    clear h1 h2
    go_wp2
    exact bodyPost_ret (results_tmp2 rfl _ _ _) rfl ⟨by rw [HR.out]; rfl, hb0.trans (Below.mono hW hb0.size)⟩
  have e2 := empty_no h2
  rw [if_neg (fun h => h.elim h1 h2)] at HM
  have hE : (edgs ds).length ≤ 120 := Nat.le_trans (edgs_len ds) (by omega)
  have hO0 : SpO W.heap.size (W.alloc (.cells #[.string sa, .int .i64 0] spotT)) (.slice (some ⟨W.heap.size, 0, none⟩) 1 1) [(sa, 0)] := ROwn.new (Nat.le_refl _) [(sa, 0)] rtS.len rfl (by simp)
  have r0 : Rel (edgs ds) sa [(sa, 0)] := ⟨fun c m hm => by simp at hm; obtain ⟨rfl, rfl⟩ := hm; exact .here, by simp, by simp⟩
  have c0 : capL [(sa, 0)] := fun c m hm => by simp at hm; obtain ⟨rfl, rfl⟩ := hm; simp
  have hb1 := bel_alloc W (.cells #[.string sa, .int .i64 0] spotT)
  obtain ⟨B, hB⟩ : ∃ B, B = W.heap.size := ⟨_, rfl⟩
  have HI0 : Hid (SpO B (W.alloc (.cells #[.string sa, .int .i64 0] spotT)) (.slice (some ⟨W.heap.size, 0, none⟩) 1 1) [(sa, 0)] ∧ Rel (edgs ds) sa [(sa, 0)] ∧ capL [(sa, 0)] ∧ Below w5.heap.size w5 (W.alloc (.cells #[.string sa, .int .i64 0] spotT)) ∧ ((true = false) → Rx (edgs ds) [(sa, 0)])) := Lib.hid ⟨by rw [hB]; exact hO0, r0, c0, Below.trans hW (hb1.mono hW.size), fun h => by cases h⟩
  have HB0 := Lib.hid hb0
  have HBW : Hid (w5.heap.size ≤ B) := Lib.hid (by rw [hB]; exact hW.size)
  clear h1 h2 hO0 r0 c0 hb1 hW hb0
  go_wp2
  clear hB
  go_loopg [10, 11] (meas [(sa, 0)] + 1) (fun kx v10 v11 wr => ∃ (v : Value) (lx : List Stp) (ag : Bool), v = v10 ∧ v11 = .bool ag ∧ Hid (SpO B wr v lx ∧ Rel (edgs ds) sa lx ∧ capL lx ∧ Below w5.heap.size w5 wr ∧ (ag = false → Rx (edgs ds) lx) ∧ kx = (if ag then meas lx + 1 else 0)))
  case atStart => exact ⟨_, _, true, rfl, rfl, Lib.hid ⟨HI0.out.1, HI0.out.2.1, HI0.out.2.2.1, HI0.out.2.2.2.1, fun h => (by cases h), rfl⟩⟩
  case round =>
    obtain ⟨v, lx, ag, rfl, rfl, HH⟩ := hrel
    clear HI0
    cases ag with
    | false =>
      have HD := Lib.hid (HH.out.2.1.done (HH.out.2.2.2.2.1 rfl) sb)
      have hlx : lx.length ≤ 1000 := by have := HH.out.2.1.len; omega
      have CR := Lib.hid (reached_any B _ lx sb wr HH.out.1 hlx)
      have HBr := Lib.hid (HH.out.2.2.2.1)
      cases hd : atL lx sb with
      | none =>
        have HR : Hid (milesP l (edgs ds) a b = (0, 7)) := Lib.hid (by rw [HM.out, HD.out, hd])
        rw [atI_none hd] at CR
        clear hd HM HD hlx HH KA KB
        go_wp2_with (go_at_call 44; refine CR.out.mono ?_; rintro e w7 ⟨rfl, hb7⟩)
        exact bodyPost_ret (results_tmp2 rfl _ _ _) rfl ⟨by rw [HR.out]; rfl, HB0.out.trans ((HBr.out.trans (hb7.mono HBr.out.size)).mono HB0.out.size)⟩
      | some n =>
        have HR : Hid (milesP l (edgs ds) a b = ((n : Int), 0)) := Lib.hid (by rw [HM.out, HD.out, hd])
        rw [atI_some hd] at CR
        clear hd HM HD hlx HH KA KB
        go_wp2_with (go_at_call 44; refine CR.out.mono ?_; rintro e w7 ⟨rfl, hb7⟩)
        exact bodyPost_ret (results_tmp2 rfl _ _ _) rfl ⟨by rw [HR.out]; rfl, HB0.out.trans ((HBr.out.trans (hb7.mono HBr.out.size)).mono HB0.out.size)⟩
    | true =>
      obtain ⟨m0, hm0⟩ : ∃ m0, m0 = meas lx := ⟨_, rfl⟩
      have HM0 := Lib.hid hm0
      have HKX : Hid (gk = m0 + 1) := Lib.hid (by have := HH.out.2.2.2.2.2; rw [if_pos rfl, ← hm0] at this; exact this)
      have HJ0 : Hid (SpO B wr v lx ∧ RS (edgs ds) sa m0 lx false lx ∧ Below w5.heap.size w5 wr ∧ Rx (edgs (ds.take 0)) lx) := Lib.hid ⟨HH.out.1, ⟨HH.out.2.1, HH.out.2.2.1, fun h => (by cases h), fun _ => rfl⟩, HH.out.2.2.2.1, fun b c w n h => by simp [edgs] at h⟩
      clear HH hm0
      go_wp2
      go_loopg [10, 11, 12] ds.length (fun kq v10 v11 v12 wi => ∃ (v2 : Value) (i : Nat) (ly : List Stp) (ag : Bool), v2 = v10 ∧ v11 = .bool ag ∧ v12 = .int .i64 i ∧ i + kq = ds.length ∧ Hid (SpO B wi v2 ly ∧ RS (edgs ds) sa m0 lx ag ly ∧ Below w5.heap.size w5 wi ∧ (ag = false → Rx (edgs (ds.take i)) ly)))
      case atStart => exact ⟨_, 0, _, false, rfl, rfl, rfl, by omega, Lib.hid ⟨HJ0.out.1, HJ0.out.2.1, HJ0.out.2.2.1, fun _ => HJ0.out.2.2.2⟩⟩
      case round =>
        obtain ⟨v2, i, ly, ag, rfl, rfl, rfl, hik, HJ⟩ := hrel
        clear HJ0
        have HIK := Lib.hid hik
        have hds : ds.length ≤ 60 := hld
        have x1 := g1 _ HJ.out.2.2.1
        by_cases hlt : i < ds.length
        · clear hik
          obtain ⟨bb, off, d, rfl, hgl, hkd, hd⟩ := (HLD.out.more HJ.out.2.2.1).at hlt
          obtain ⟨z0, z1, z2⟩ := hd
          have i2 : (i : Int) < (ds.length : Int) := by omega
          have hT := Lib.hid (show edgs (ds.take (i + 1)) = edgs (ds.take i) ++ edg d by rw [List.take_add_one, hkd]; exact edgs_snoc _ _)
          have HME : Hid (∀ x, x ∈ edg d → x ∈ edgs ds) := Lib.hid (fun x hx => by
            simp only [edgs, List.mem_flatMap]
            exact ⟨d, List.mem_of_getElem? hkd, hx⟩)
          obtain ⟨f, t, m⟩ := d
          dsimp only at z0 z1 z2
          have CU := Lib.hid (fun W => rusable_any ⟨f, t, m⟩ W)
          have hbB := bel_alloc wr (.cells #[.string f, .string t, .int .i64 m] dstT)
          have q0 := cells_new wr #[.string f, .string t, .int .i64 m] dstT 0
          have q1 := cells_new wr #[.string f, .string t, .int .i64 m] dstT 1
          have q2 := cells_new wr #[.string f, .string t, .int .i64 m] dstT 2
          simp only [List.getElem?_toArray, List.getElem?_cons_zero, List.getElem?_cons_succ] at q0 q1 q2
          clear hkd
          cases hu : useB ⟨f, t, m⟩
          · rw [hu] at CU
            have HT2 : Hid (edgs (ds.take (i + 1)) = edgs (ds.take i)) := Lib.hid (by rw [hT.out]; unfold edg; rw [hu]; simp)
            clear hu hT q0 q1 q2 HME
            go_wp2_with (go_at_call 43; refine (CU.out _).mono ?_; rintro e w' ⟨rfl, hb'⟩)
            go_roundg (ds.length - (i + 1))
            case measure => have := HIK.out; omega
            case rel =>
              have hbn := hbB.trans (Below.mono hb' hbB.size)
              exact ⟨_, i + 1, ly, ag, rfl, rfl, by go_num, by omega, Lib.hid ⟨HJ.out.1.more hbn, HJ.out.2.1, HJ.out.2.2.1.trans (hbn.mono HJ.out.2.2.1.size), by rw [HT2.out]; exact HJ.out.2.2.2⟩⟩
          · rw [hu] at CU
            have hm := (useB_iff _).1 hu
            dsimp only at hm
            obtain ⟨mm, rfl⟩ : ∃ mm : Nat, m = (mm : Int) := ⟨m.toNat, by omega⟩
            have hmm : mm ≤ 20000 := by omega
            have HEd : Hid (edg ⟨f, t, (mm : Int)⟩ = [(f, t, mm), (t, f, mm)]) := Lib.hid (by unfold edg; rw [hu]; simp)
            have he1 : (f, t, mm) ∈ edgs ds := HME.out _ (by rw [HEd.out]; simp)
            have he2 : (t, f, mm) ∈ edgs ds := HME.out _ (by rw [HEd.out]; simp)
            clear hu hm HME
            go_wp2_with (go_at_call 43; refine (CU.out _).mono ?_; rintro e w6 ⟨rfl, hb6⟩; refine Hid.out ?_)
            have hbn := hbB.trans (Below.mono hb6 hbB.size)
            have hO6 := HJ.out.1.more hbn
            have hb56 := HJ.out.2.2.1.trans (hbn.mono HJ.out.2.2.1.size)
            have s0 := bel_cell hb6 q0
            have s1 := bel_cell hb6 q1
            have s2 := bel_cell hb6 q2
            have hly : ly.length ≤ 121 := by have := HJ.out.2.1.rel.len; omega
            have hNv : v2.ownBlock ≠ some wr.heap.size := fun h => by have := (HJ.out.1.low h).2; omega
            obtain ⟨N, hN⟩ : ∃ N, N = wr.heap.size := ⟨_, rfl⟩
            rw [← hN] at s0 s1 s2 hNv ⊢
            have KR1 : Hid (∀ W, SW w6 W → Calls Tryd.prog 44 #[v2, .string f] W fun e w' => e = .returned (.int .i64 (atI ly f)) ∧ SW w6 w') := Lib.hid (SW.call (w5 := w6) (fun W h => reached_any _ v2 ly f W (hO6.more h) (by omega)))
            have KR2 : Hid (∀ W, SW w6 W → Calls Tryd.prog 44 #[v2, .string t] W fun e w' => e = .returned (.int .i64 (atI ly t)) ∧ SW w6 w') := Lib.hid (SW.call (w5 := w6) (fun W h => reached_any _ v2 ly t W (hO6.more h) (by omega)))
            have f0 := SW.cell s0
            have f1 := SW.cell s1
            have f2 := SW.cell s2
            have k0 := bel_get s0
            have k1 := bel_get s1
            have k2 := bel_get s2
            have HO6 := Lib.hid hO6
            have hNE := Lib.hid hNv
            have HB56 := Lib.hid hb56
            have HX := Lib.hid HJ.out.2.1
            have HRX := Lib.hid HJ.out.2.2.2
            clear q0 q1 q2 s0 s1 s2 hO6 hNv hb56 HJ hbn hb6 hbB CU hN z0 z1 z2
            cases hx : atL ly f with
            | none =>
              rw [atI_none hx] at KR1
              cases hy : atL ly t with
              | none =>
                rw [atI_none hy] at KR2
                have HRx : Hid (ag = false → Rx (edgs (ds.take (i + 1))) ly) := Lib.hid (fun ha => by
                  rw [hT.out]
                  exact (HRX.out ha).snoc HX.out.rel.one HEd.out (fun n1 h1 => by rw [hx] at h1; cases h1) (fun n1 h1 => by rw [hy] at h1; cases h1))
                clear hx hy HM
                cases ag with
                | true =>
                  refine Lib.hid ?_
                  go_wp2
                  have hNe : Nonempty (Wd (SW w6)) := ⟨⟨_, SW.drew _⟩⟩
                  refine quietS (S := SW w6) (by kernel_rfl) (by kernel_rfl) (SW.drew _) ?_
                  repeat (first | go_big_quiet_skip | (go_big_quiet_want; go_big_quiet_op; first | go_big_quiet_on | go_big_quiet_call (((go_at_call 44; first | (with_reducible exact quiet_S (KR1.out _ (Wd.ok _))) | (with_reducible exact quiet_S (KR2.out _ (Wd.ok _))))))))
                  refine wpQuiet_nil ?_
                  rintro W ⟨⟨_, hW⟩, rfl⟩
                  have hO := HO6.out.more hW
                  have y0 := k0 _ hW
                  have y1 := k1 _ hW
                  have y2 := k2 _ hW
                  go_wp2
                  go_roundg (ds.length - (i + 1))
                  case measure => have := HIK.out; omega
                  case rel =>
                    have hbz := HB56.out.trans (Below.mono hW HB56.out.size)
                    exact ⟨_, i + 1, ly, true, rfl, rfl, by go_num, by have := HIK.out; omega, Lib.hid ⟨hO, by have h := HX.out; simpa only [Bool.true_or, Bool.false_or] using h, hbz, fun h => by cases h⟩⟩
                | false =>
                  refine Lib.hid ?_
                  go_wp2
                  have hNe : Nonempty (Wd (SW w6)) := ⟨⟨_, SW.drew _⟩⟩
                  refine quietS (S := SW w6) (by kernel_rfl) (by kernel_rfl) (SW.drew _) ?_
                  repeat (first | go_big_quiet_skip | (go_big_quiet_want; go_big_quiet_op; first | go_big_quiet_on | go_big_quiet_call (((go_at_call 44; first | (with_reducible exact quiet_S (KR1.out _ (Wd.ok _))) | (with_reducible exact quiet_S (KR2.out _ (Wd.ok _))))))))
                  refine wpQuiet_nil ?_
                  rintro W ⟨⟨_, hW⟩, rfl⟩
                  have hO := HO6.out.more hW
                  have y0 := k0 _ hW
                  have y1 := k1 _ hW
                  have y2 := k2 _ hW
                  go_wp2
                  go_roundg (ds.length - (i + 1))
                  case measure => have := HIK.out; omega
                  case rel =>
                    have hbz := HB56.out.trans (Below.mono hW HB56.out.size)
                    exact ⟨_, i + 1, ly, false, rfl, rfl, by go_num, by have := HIK.out; omega, Lib.hid ⟨hO, by have h := HX.out; simpa only [Bool.true_or, Bool.false_or] using h, hbz, fun h => HRx.out (by trivial)⟩⟩
              | some k =>
                rw [atI_some hy] at KR2
                have hym := (atL_mem HX.out.rel.one).1 hy
                have hyc := HX.out.cap t k hym
                have hkb : k ≤ 2420000 := by omega
                have R2 := Lib.hid (HX.out.put HM0.out hE (HX.out.rel.way t k hym) he2 (show k + mm ≤ 20000 * ly.length by omega))
                have K2F : Hid (∀ v7 W7, SpO B W7 v7 ly → Calls Tryd.prog 45 #[v7, .string f, .int .i64 ((k : Int) + (mm : Int))] W7 fun e w' => ∃ v', e = .returned (.tuple #[v', .bool (newL ly f (k + mm))]) ∧ SpO B w' v' (putL ly f (k + mm)) ∧ Chg W7 w' v7 v') := Lib.hid (fun v7 W7 h => by have := reach_any B v7 ly f (k + mm) W7 h (by omega); rwa [Int.natCast_add] at this)
                have HRx : Hid (ag = false → newL ly f (k + mm) = false → Rx (edgs (ds.take (i + 1))) (putL ly f (k + mm))) := Lib.hid (fun ha e2 => by
                  rw [putL_same ly f _ e2]
                  rw [hT.out]
                  exact (HRX.out ha).snoc HX.out.rel.one HEd.out (fun n1 h1 => by rw [hx] at h1; cases h1) (fun n1 h1 => by rw [hy] at h1; cases h1; exact e2))
                clear hx hy hym hyc HM
                cases ag with
                | true =>
                  refine Lib.hid ?_
                  go_wp2
                  have hNe : Nonempty (Wd (SW w6)) := ⟨⟨_, SW.drew _⟩⟩
                  refine quietS (S := SW w6) (by kernel_rfl) (by kernel_rfl) (SW.drew _) ?_
                  repeat (first | go_big_quiet_skip | (go_big_quiet_want; go_big_quiet_op; first | go_big_quiet_on | go_big_quiet_call (((go_at_call 44; first | (with_reducible exact quiet_S (KR1.out _ (Wd.ok _))) | (with_reducible exact quiet_S (KR2.out _ (Wd.ok _))))))))
                  refine wpQuiet_nil ?_
                  rintro W ⟨⟨_, hW⟩, rfl⟩
                  have hO := HO6.out.more hW
                  have y0 := k0 _ hW
                  have y1 := k1 _ hW
                  have y2 := k2 _ hW
                  have K2 := Lib.hid (K2F.out _ _ hO)
                  go_wp2_with ((go_at_call 45; refine K2.out.mono ?_; rintro e w8 ⟨v8, rfl, hO8, hC8⟩))
                  go_roundg (ds.length - (i + 1))
                  case measure => have := HIK.out; omega
                  case rel =>
                    have hbz := HB56.out.trans (Below.mono hW HB56.out.size)
                    have hbz := hbz.trans ((hC8.below hO).mono HBW.out)
                    exact ⟨_, i + 1, (putL ly f (k + mm)), true, rfl, rfl, by go_num, by have := HIK.out; omega, Lib.hid ⟨hO8, by have h := R2.out; simpa only [Bool.true_or, Bool.false_or] using h, hbz, fun h => by cases h⟩⟩
                | false =>
                  refine Lib.hid ?_
                  go_wp2
                  have hNe : Nonempty (Wd (SW w6)) := ⟨⟨_, SW.drew _⟩⟩
                  refine quietS (S := SW w6) (by kernel_rfl) (by kernel_rfl) (SW.drew _) ?_
                  repeat (first | go_big_quiet_skip | (go_big_quiet_want; go_big_quiet_op; first | go_big_quiet_on | go_big_quiet_call (((go_at_call 44; first | (with_reducible exact quiet_S (KR1.out _ (Wd.ok _))) | (with_reducible exact quiet_S (KR2.out _ (Wd.ok _))))))))
                  refine wpQuiet_nil ?_
                  rintro W ⟨⟨_, hW⟩, rfl⟩
                  have hO := HO6.out.more hW
                  have y0 := k0 _ hW
                  have y1 := k1 _ hW
                  have y2 := k2 _ hW
                  have K2 := Lib.hid (K2F.out _ _ hO)
                  go_wp2_with ((go_at_call 45; refine K2.out.mono ?_; rintro e w8 ⟨v8, rfl, hO8, hC8⟩))
                  go_roundg (ds.length - (i + 1))
                  case measure => have := HIK.out; omega
                  case rel =>
                    have hbz := HB56.out.trans (Below.mono hW HB56.out.size)
                    have hbz := hbz.trans ((hC8.below hO).mono HBW.out)
                    exact ⟨_, i + 1, (putL ly f (k + mm)), newL ly f (k + mm), rfl, rfl, by go_num, by have := HIK.out; omega, Lib.hid ⟨hO8, by have h := R2.out; simpa only [Bool.true_or, Bool.false_or] using h, hbz, fun h => HRx.out (by trivial) h⟩⟩
            | some n =>
              rw [atI_some hx] at KR1
              have hxm := (atL_mem HX.out.rel.one).1 hx
              have hxc := HX.out.cap f n hxm
              have hnb : n ≤ 2420000 := by omega
              have R1 := Lib.hid (HX.out.put HM0.out hE (HX.out.rel.way f n hxm) he1 (show n + mm ≤ 20000 * ly.length by omega))
              have hl1 : (putL ly t (n + mm)).length ≤ 121 := by have := R1.out.rel.len; omega
              have hlm := putL_len ly t (n + mm)
              cases hy : atL ly t with
              | none =>
                rw [atI_none hy] at KR2
                have HRx : Hid (ag = false → newL ly t (n + mm) = false → Rx (edgs (ds.take (i + 1))) (putL ly t (n + mm))) := Lib.hid (fun ha e1 => by
                  rw [putL_same ly t _ e1]
                  rw [hT.out]
                  exact (HRX.out ha).snoc HX.out.rel.one HEd.out (fun n1 h1 => by rw [hx] at h1; cases h1; exact e1) (fun n1 h1 => by rw [hy] at h1; cases h1))
                clear hx hy hxm hxc HM
                cases ag with
                | true =>
                  refine Lib.hid ?_
                  go_wp2
                  have hNe : Nonempty (Wd (SW w6)) := ⟨⟨_, SW.drew _⟩⟩
                  refine quietS (S := SW w6) (by kernel_rfl) (by kernel_rfl) (SW.drew _) ?_
                  repeat (first | go_big_quiet_skip | (go_big_quiet_want; go_big_quiet_op; first | go_big_quiet_on | go_big_quiet_call (((go_at_call 44; first | (with_reducible exact quiet_S (KR1.out _ (Wd.ok _))) | (with_reducible exact quiet_S (KR2.out _ (Wd.ok _))))))))
                  refine wpQuiet_nil ?_
                  rintro W ⟨⟨_, hW⟩, rfl⟩
                  have hO := HO6.out.more hW
                  have y0 := k0 _ hW
                  have y1 := k1 _ hW
                  have y2 := k2 _ hW
                  have K1 := Lib.hid (reach_any B v2 ly t (n + mm) W hO (by omega))
                  rw [Int.natCast_add] at K1
                  go_wp2_with ((go_at_call 45; refine K1.out.mono ?_; rintro e w7 ⟨v7, rfl, hO7, hC7⟩; have y0 := hC7.cell y0 hNE.out; have y1 := hC7.cell y1 hNE.out; have y2 := hC7.cell y2 hNE.out))
                  go_roundg (ds.length - (i + 1))
                  case measure => have := HIK.out; omega
                  case rel =>
                    have hbz := HB56.out.trans (Below.mono hW HB56.out.size)
                    have hbz := hbz.trans ((hC7.below hO).mono HBW.out)
                    exact ⟨_, i + 1, (putL ly t (n + mm)), true, rfl, rfl, by go_num, by have := HIK.out; omega, Lib.hid ⟨hO7, by have h := R1.out; simpa only [Bool.true_or, Bool.false_or] using h, hbz, fun h => by cases h⟩⟩
                | false =>
                  refine Lib.hid ?_
                  go_wp2
                  have hNe : Nonempty (Wd (SW w6)) := ⟨⟨_, SW.drew _⟩⟩
                  refine quietS (S := SW w6) (by kernel_rfl) (by kernel_rfl) (SW.drew _) ?_
                  repeat (first | go_big_quiet_skip | (go_big_quiet_want; go_big_quiet_op; first | go_big_quiet_on | go_big_quiet_call (((go_at_call 44; first | (with_reducible exact quiet_S (KR1.out _ (Wd.ok _))) | (with_reducible exact quiet_S (KR2.out _ (Wd.ok _))))))))
                  refine wpQuiet_nil ?_
                  rintro W ⟨⟨_, hW⟩, rfl⟩
                  have hO := HO6.out.more hW
                  have y0 := k0 _ hW
                  have y1 := k1 _ hW
                  have y2 := k2 _ hW
                  have K1 := Lib.hid (reach_any B v2 ly t (n + mm) W hO (by omega))
                  rw [Int.natCast_add] at K1
                  go_wp2_with ((go_at_call 45; refine K1.out.mono ?_; rintro e w7 ⟨v7, rfl, hO7, hC7⟩; have y0 := hC7.cell y0 hNE.out; have y1 := hC7.cell y1 hNE.out; have y2 := hC7.cell y2 hNE.out))
                  go_roundg (ds.length - (i + 1))
                  case measure => have := HIK.out; omega
                  case rel =>
                    have hbz := HB56.out.trans (Below.mono hW HB56.out.size)
                    have hbz := hbz.trans ((hC7.below hO).mono HBW.out)
                    exact ⟨_, i + 1, (putL ly t (n + mm)), newL ly t (n + mm), rfl, rfl, by go_num, by have := HIK.out; omega, Lib.hid ⟨hO7, by have h := R1.out; simpa only [Bool.true_or, Bool.false_or] using h, hbz, fun h => HRx.out (by trivial) h⟩⟩
              | some k =>
                rw [atI_some hy] at KR2
                have hym := (atL_mem HX.out.rel.one).1 hy
                have hyc := HX.out.cap t k hym
                have hkb : k ≤ 2420000 := by omega
                have R2 := Lib.hid (R1.out.put HM0.out hE (HX.out.rel.way t k hym) he2 (show k + mm ≤ 20000 * (putL ly t (n + mm)).length by omega))
                have K2F : Hid (∀ v7 W7, SpO B W7 v7 (putL ly t (n + mm)) → Calls Tryd.prog 45 #[v7, .string f, .int .i64 ((k : Int) + (mm : Int))] W7 fun e w' => ∃ v', e = .returned (.tuple #[v', .bool (newL (putL ly t (n + mm)) f (k + mm))]) ∧ SpO B w' v' (putL (putL ly t (n + mm)) f (k + mm)) ∧ Chg W7 w' v7 v') := Lib.hid (fun v7 W7 h => by have := reach_any B v7 (putL ly t (n + mm)) f (k + mm) W7 h (by omega); rwa [Int.natCast_add] at this)
                have HRx : Hid (ag = false → newL ly t (n + mm) = false → newL (putL ly t (n + mm)) f (k + mm) = false → Rx (edgs (ds.take (i + 1))) (putL (putL ly t (n + mm)) f (k + mm))) := Lib.hid (fun ha e1 e2 => by
                  rw [putL_same ly t _ e1] at e2 ⊢
                  rw [putL_same ly f _ e2]
                  rw [hT.out]
                  exact (HRX.out ha).snoc HX.out.rel.one HEd.out (fun n1 h1 => by rw [hx] at h1; cases h1; exact e1) (fun n1 h1 => by rw [hy] at h1; cases h1; exact e2))
                clear hx hy hxm hxc hym hyc HM
                cases ag with
                | true =>
                  refine Lib.hid ?_
                  go_wp2
                  have hNe : Nonempty (Wd (SW w6)) := ⟨⟨_, SW.drew _⟩⟩
                  refine quietS (S := SW w6) (by kernel_rfl) (by kernel_rfl) (SW.drew _) ?_
                  repeat (first | go_big_quiet_skip | (go_big_quiet_want; go_big_quiet_op; first | go_big_quiet_on | go_big_quiet_call (((go_at_call 44; first | (with_reducible exact quiet_S (KR1.out _ (Wd.ok _))) | (with_reducible exact quiet_S (KR2.out _ (Wd.ok _))))))))
                  refine wpQuiet_nil ?_
                  rintro W ⟨⟨_, hW⟩, rfl⟩
                  have hO := HO6.out.more hW
                  have y0 := k0 _ hW
                  have y1 := k1 _ hW
                  have y2 := k2 _ hW
                  have K1 := Lib.hid (reach_any B v2 ly t (n + mm) W hO (by omega))
                  rw [Int.natCast_add] at K1
                  go_wp2_with (first | (go_at_call 45; refine K2.out.mono ?_; rintro e w8 ⟨v8, rfl, hO8, hC8⟩) | (go_at_call 45; refine K1.out.mono ?_; rintro e w7 ⟨v7, rfl, hO7, hC7⟩; have y0 := hC7.cell y0 hNE.out; have y1 := hC7.cell y1 hNE.out; have y2 := hC7.cell y2 hNE.out; have K2 := Lib.hid (K2F.out _ _ hO7)))
                  go_roundg (ds.length - (i + 1))
                  case measure => have := HIK.out; omega
                  case rel =>
                    have hbz := HB56.out.trans (Below.mono hW HB56.out.size)
                    have hbz := hbz.trans ((hC7.below hO).mono HBW.out)
                    have hbz := hbz.trans ((hC8.below hO7).mono HBW.out)
                    exact ⟨_, i + 1, (putL (putL ly t (n + mm)) f (k + mm)), true, rfl, rfl, by go_num, by have := HIK.out; omega, Lib.hid ⟨hO8, by have h := R2.out; simpa only [Bool.true_or, Bool.false_or] using h, hbz, fun h => by cases h⟩⟩
                | false =>
                  cases hn1 : newL ly t (n + mm) with
                  | true =>
                    refine Lib.hid ?_
                    go_wp2
                    have hNe : Nonempty (Wd (SW w6)) := ⟨⟨_, SW.drew _⟩⟩
                    refine quietS (S := SW w6) (by kernel_rfl) (by kernel_rfl) (SW.drew _) ?_
                    repeat (first | go_big_quiet_skip | (go_big_quiet_want; go_big_quiet_op; first | go_big_quiet_on | go_big_quiet_call (((go_at_call 44; first | (with_reducible exact quiet_S (KR1.out _ (Wd.ok _))) | (with_reducible exact quiet_S (KR2.out _ (Wd.ok _))))))))
                    refine wpQuiet_nil ?_
                    rintro W ⟨⟨_, hW⟩, rfl⟩
                    have hO := HO6.out.more hW
                    have y0 := k0 _ hW
                    have y1 := k1 _ hW
                    have y2 := k2 _ hW
                    have K1 := Lib.hid (reach_any B v2 ly t (n + mm) W hO (by omega))
                    rw [Int.natCast_add, hn1] at K1
                    go_wp2_with (first | (go_at_call 45; refine K2.out.mono ?_; rintro e w8 ⟨v8, rfl, hO8, hC8⟩) | (go_at_call 45; refine K1.out.mono ?_; rintro e w7 ⟨v7, rfl, hO7, hC7⟩; have y0 := hC7.cell y0 hNE.out; have y1 := hC7.cell y1 hNE.out; have y2 := hC7.cell y2 hNE.out; have K2 := Lib.hid (K2F.out _ _ hO7)))
                    go_roundg (ds.length - (i + 1))
                    case measure => have := HIK.out; omega
                    case rel =>
                      have hbz := HB56.out.trans (Below.mono hW HB56.out.size)
                      have hbz := hbz.trans ((hC7.below hO).mono HBW.out)
                      have hbz := hbz.trans ((hC8.below hO7).mono HBW.out)
                      exact ⟨_, i + 1, (putL (putL ly t (n + mm)) f (k + mm)), true, rfl, rfl, by go_num, by have := HIK.out; omega, Lib.hid ⟨hO8, by have h := R2.out; simpa only [Bool.true_or, Bool.false_or, hn1] using h, hbz, fun h => by cases h⟩⟩
                  | false =>
                    refine Lib.hid ?_
                    go_wp2
                    have hNe : Nonempty (Wd (SW w6)) := ⟨⟨_, SW.drew _⟩⟩
                    refine quietS (S := SW w6) (by kernel_rfl) (by kernel_rfl) (SW.drew _) ?_
                    repeat (first | go_big_quiet_skip | (go_big_quiet_want; go_big_quiet_op; first | go_big_quiet_on | go_big_quiet_call (((go_at_call 44; first | (with_reducible exact quiet_S (KR1.out _ (Wd.ok _))) | (with_reducible exact quiet_S (KR2.out _ (Wd.ok _))))))))
                    refine wpQuiet_nil ?_
                    rintro W ⟨⟨_, hW⟩, rfl⟩
                    have hO := HO6.out.more hW
                    have y0 := k0 _ hW
                    have y1 := k1 _ hW
                    have y2 := k2 _ hW
                    have K1 := Lib.hid (reach_any B v2 ly t (n + mm) W hO (by omega))
                    rw [Int.natCast_add, hn1] at K1
                    go_wp2_with (first | (go_at_call 45; refine K2.out.mono ?_; rintro e w8 ⟨v8, rfl, hO8, hC8⟩) | (go_at_call 45; refine K1.out.mono ?_; rintro e w7 ⟨v7, rfl, hO7, hC7⟩; have y0 := hC7.cell y0 hNE.out; have y1 := hC7.cell y1 hNE.out; have y2 := hC7.cell y2 hNE.out; have K2 := Lib.hid (K2F.out _ _ hO7)))
                    go_roundg (ds.length - (i + 1))
                    case measure => have := HIK.out; omega
                    case rel =>
                      have hbz := HB56.out.trans (Below.mono hW HB56.out.size)
                      have hbz := hbz.trans ((hC7.below hO).mono HBW.out)
                      have hbz := hbz.trans ((hC8.below hO7).mono HBW.out)
                      exact ⟨_, i + 1, (putL (putL ly t (n + mm)) f (k + mm)), newL (putL ly t (n + mm)) f (k + mm), rfl, rfl, by go_num, by have := HIK.out; omega, Lib.hid ⟨hO8, by have h := R2.out; simpa only [Bool.true_or, Bool.false_or, hn1] using h, hbz, fun h => HRx.out (by trivial) hn1 h⟩⟩
        · have hi : i = ds.length := by omega
          have HF : Hid (SpO B wr v2 ly ∧ Rel (edgs ds) sa ly ∧ capL ly ∧ Below w5.heap.size w5 wr ∧ (ag = false → Rx (edgs ds) ly)) := Lib.hid ⟨HJ.out.1, HJ.out.2.1.rel, HJ.out.2.1.cap, HJ.out.2.2.1, by have := HJ.out.2.2.2; rwa [hi, List.take_of_length_le (Nat.le_refl _)] at this⟩
          have HUP := Lib.hid HJ.out.2.1.up
          clear hi hik HJ
          go_wp2
          go_roundg (if ag then meas ly + 1 else 0)
          case measure =>
            cases ag with
            | true => have := HUP.out rfl; have := HKX.out; simp; omega
            | false => have := HKX.out; simp; omega
          case rel => exact ⟨_, ly, ag, rfl, rfl, Lib.hid ⟨HF.out.1, HF.out.2.1, HF.out.2.2.1, HF.out.2.2.2.1, HF.out.2.2.2.2, rfl⟩⟩
end Go.Proofs.YtjokpfeiganigaaDoor
