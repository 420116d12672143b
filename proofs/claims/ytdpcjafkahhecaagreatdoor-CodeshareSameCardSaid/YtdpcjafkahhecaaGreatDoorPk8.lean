/- Words and walks that the laws below ask: BgR. -/
import Derived.Test.YtdpcjafkahhecaaGreatDoorPk7
/- The reference's Check of places of many airports and distances. -/
namespace Go.Proofs.YtdpcjafkahhecaaGreatDoor
open Go.RowKit Go.Shelf
set_option linter.unusedSimpArgs false
set_option linter.unusedVariables false

structure OkPB (p : PV) : Prop where
  air : ∀ a ∈ p.l, OkA a
  dst : ∀ d ∈ p.ds, OkD d
  la : p.l.length ≤ 2000000
  ld : p.ds.length ≤ 2000000
theorem decA_sizeB (k : Nat) (h : k < 10000000) : (decA k).size ≤ 21 := by
  have := Lib.itoa_length_le (k : Int) (by omega) (by omega)
  show (Lib.itoa (k : Int)).toArray.size ≤ 21
  simpa using this
theorem rdec_smallB (k : Nat) (h : k < 10000000) (w : World) : Calls Tryz.prog 42 #[.int .i64 (k : Int)] w fun e w' => e = .returned (.string (decA k)) ∧ Below w.heap.size w w' :=
  (rdecimal_any (k : Int) w (by omega) (by omega)).mono (by rintro e w' ⟨rfl, n, rfl⟩; exact ⟨rfl, below_drewN (Below.refl _ _) n⟩)
set_option maxRecDepth 100000 in
set_option maxHeartbeats 4000000 in
theorem rtown_anyB (p : PV) (s : ByteArray) (w : World) (hl : p.l.length ≤ 2000000) (hL : AirL w p.A p.l) :
    Calls Tryz.prog 87 #[encP p, .string s] w fun e w' => e = .returned (.tuple #[encA ((findT p.l s).getD airZ), .bool (findT p.l s).isSome]) ∧ Below w.heap.size w w' := by
  obtain ⟨A, ca, l, D, cd, ds⟩ := p
  dsimp only at *
  have hb1 := bel_alloc w (.cells #[.slice A l.length ca, .slice D ds.length cd] placesT)
  have hb0 : Below w.heap.size w ((w.alloc (.cells #[.slice A l.length ca, .slice D ds.length cd] placesT)).alloc (.cells #[.string noB, .string noB, .string noB, .int .i64 0, .slice none 0 0] airT)) := hb1.alloc hb1.size _
  have hb2 := bel_alloc (w.alloc (.cells #[.slice A l.length ca, .slice D ds.length cd] placesT)) (.cells #[.string noB, .string noB, .string noB, .int .i64 0, .slice none 0 0] airT)
  have p0 := bel_cell hb2 ((cells_new w #[.slice A l.length ca, .slice D ds.length cd] placesT 0).trans (show _ = some _ from rfl))
  have p1 := bel_cell hb2 ((cells_new w #[.slice A l.length ca, .slice D ds.length cd] placesT 1).trans (show _ = some _ from rfl))
  have hN := heap_alloc_new (w.alloc (.cells #[.slice A l.length ca, .slice D ds.length cd] placesT)) (.cells #[.string noB, .string noB, .string noB, .int .i64 0, .slice none 0 0] airT)
  simp only [World.size_alloc] at hN
  have hL5 := hL.more hb0
  go_enter Tryz.func87, Tryz.ntmps87
  generalize hw5 : (w.alloc (.cells #[.slice A l.length ca, .slice D ds.length cd] placesT)).alloc (.cells #[.string noB, .string noB, .string noB, .int .i64 0, .slice none 0 0] airT) = w5 at *
  have hNl : w.heap.size + 1 < w5.heap.size := (Array.getElem?_eq_some_iff.1 hN).1
  have n0 := (cell_of_row w5 _ 0 _ _ (0, 0) hN).trans (show _ = some _ from rfl)
  have n1 := (cell_of_row w5 _ 1 _ _ (0, 0) hN).trans (show _ = some _ from rfl)
  have n2 := (cell_of_row w5 _ 2 _ _ (0, 0) hN).trans (show _ = some _ from rfl)
  have n3 := (cell_of_row w5 _ 3 _ _ (0, 0) hN).trans (show _ = some _ from rfl)
  have n4 := (cell_of_row w5 _ 4 _ _ (0, 0) hN).trans (show _ = some _ from rfl)
  have z0 := frozen_of_row w5 _ 0 _ _ hN
  have z1 := frozen_of_row w5 _ 1 _ _ hN
  have z2 := frozen_of_row w5 _ 2 _ _ hN
  have z3 := frozen_of_row w5 _ 3 _ _ hN
  have z4 := frozen_of_row w5 _ 4 _ _ hN
  have HN := Lib.hid hN
  have HB := Lib.hid hb0
  clear hb1 hb2 hN hb0 hL
  go_wp2
  go_loop [6] (fun vi => ∃ k : Nat, k ≤ l.length ∧ vi = .int .i64 k ∧ Hid ((l.take k).find? (fun a => eqS a.city s) = none)) (fun vi => l.length - (intOf vi).toNat)
  case atStart => exact ⟨0, Nat.zero_le _, rfl, Lib.hid rfl⟩
  case round =>
    obtain ⟨k, hk, rfl, HK⟩ := hrel
    by_cases hlt : k < l.length
    · obtain ⟨b, o, a, rfl, hgl, hka, ha⟩ := hL5.at hlt
      have i2 : (k : Int) < (l.length : Int) := by omega
      obtain ⟨a0, a1, a2, a3, a4, ash⟩ := ha
      have hf := Lib.hid (find_at HK.out hka)
      cases he : (a.city.toList == s.toList)
      · have HX := Lib.hid (hf.out.2 he)
        clear hka ash
        go_wp2
        go_round
        case rel => exact ⟨k + 1, by omega, by go_num, HX⟩
        case measure => simp [intOf]; omega
      · have HR : Hid (findT l s = some a) := Lib.hid (hf.out.1 he)
        clear hka ash hL5
        go_wp2
        have hx := S5.heap HN.out (.string a.code) (.string a.city) (.string a.land) (.int .i64 a.off) (.slice a.A a.shs.length a.c)
        have hbt := S5.but w5 (w.heap.size + 1) (.string a.code) (.string a.city) (.string a.land) (.int .i64 a.off) (.slice a.A a.shs.length a.c)
        have c0 := (cell_of_row _ _ 0 _ _ (0, 0) hx).trans (show _ = some _ from rfl)
        have c1 := (cell_of_row _ _ 1 _ _ (0, 0) hx).trans (show _ = some _ from rfl)
        have c2 := (cell_of_row _ _ 2 _ _ (0, 0) hx).trans (show _ = some _ from rfl)
        have c3 := (cell_of_row _ _ 3 _ _ (0, 0) hx).trans (show _ = some _ from rfl)
        have c4 := (cell_of_row _ _ 4 _ _ (0, 0) hx).trans (show _ = some _ from rfl)
        have hbw : Below w.heap.size w (S5 w5 (w.heap.size + 1) (.string a.code) (.string a.city) (.string a.land) (.int .i64 a.off) (.slice a.A a.shs.length a.c)) := HB.out.trans (hbt.below HB.out.size (fun k hk => by omega))
        refine bodyPost_ret (v := .tuple #[encA a, .bool true]) ?_ rfl ⟨by rw [HR.out]; rfl, hbw⟩
        change (results _ _).run Tryz.prog (S5 w5 (w.heap.size + 1) (.string a.code) (.string a.city) (.string a.land) (.int .i64 a.off) (.slice a.A a.shs.length a.c)) = .ok _ (S5 w5 (w.heap.size + 1) (.string a.code) (.string a.city) (.string a.land) (.int .i64 a.off) (.slice a.A a.shs.length a.c))
        generalize S5 w5 (w.heap.size + 1) (.string a.code) (.string a.city) (.string a.land) (.int .i64 a.off) (.slice a.A a.shs.length a.c) = W at c0 c1 c2 c3 c4 ⊢
        simp [results, Tryz.results87, go_sem, c0, c1, c2, c3, c4]
    · have HR : Hid (findT l s = none) := Lib.hid (by have h := HK.out; rwa [List.take_of_length_le (by omega)] at h)
      clear hL5
      go_wp2
      have hx := S5.heap HN.out (.string noB) (.string noB) (.string noB) (.int .i64 0) (.slice none 0 0)
      have hbt := S5.but w5 (w.heap.size + 1) (.string noB) (.string noB) (.string noB) (.int .i64 0) (.slice none 0 0)
      have c0 := (cell_of_row _ _ 0 _ _ (0, 0) hx).trans (show _ = some _ from rfl)
      have c1 := (cell_of_row _ _ 1 _ _ (0, 0) hx).trans (show _ = some _ from rfl)
      have c2 := (cell_of_row _ _ 2 _ _ (0, 0) hx).trans (show _ = some _ from rfl)
      have c3 := (cell_of_row _ _ 3 _ _ (0, 0) hx).trans (show _ = some _ from rfl)
      have c4 := (cell_of_row _ _ 4 _ _ (0, 0) hx).trans (show _ = some _ from rfl)
      have hbw : Below w.heap.size w (S5 w5 (w.heap.size + 1) (.string noB) (.string noB) (.string noB) (.int .i64 0) (.slice none 0 0)) := HB.out.trans (hbt.below HB.out.size (fun k hk => by omega))
      refine bodyPost_ret (v := .tuple #[encA airZ, .bool false]) ?_ rfl ⟨by rw [HR.out]; rfl, hbw⟩
      change (results _ _).run Tryz.prog (S5 w5 (w.heap.size + 1) (.string noB) (.string noB) (.string noB) (.int .i64 0) (.slice none 0 0)) = .ok _ (S5 w5 (w.heap.size + 1) (.string noB) (.string noB) (.string noB) (.int .i64 0) (.slice none 0 0))
      generalize S5 w5 (w.heap.size + 1) (.string noB) (.string noB) (.string noB) (.int .i64 0) (.slice none 0 0) = W at c0 c1 c2 c3 c4 ⊢
      simp [results, Tryz.results87, go_sem, c0, c1, c2, c3, c4, airZ]
set_option maxRecDepth 100000 in
set_option maxHeartbeats 8000000 in
theorem rairport_anyB (p : PV) (i : Nat) (a : Air) (w : World) (hp : OkPB p) (hL : PlL w p) (hi : p.l[i]? = some a) :
    Calls Tryz.prog 56 #[encP p, .int .i64 (i : Int)] w fun e w' => ∃ v', e = .returned v' ∧ EOwn w.heap.size w' v' (okE (airE (p.l.take i) a)) ∧ Below w.heap.size w w' := by
  obtain ⟨A, ca, l, D, cd, ds⟩ := p
  obtain ⟨hA, hD, hla, hld⟩ := hp
  obtain ⟨hLa, hLd⟩ := hL
  dsimp only at *
  have hil := (List.getElem?_eq_some_iff.1 hi).1
  obtain ⟨bb, off, a', rfl, hgl, hka, ha⟩ := hLa.at hil
  rw [hi] at hka
  obtain rfl := Option.some.inj hka
  obtain ⟨s1, s2, s3, s4, s5⟩ := hA a (List.mem_of_getElem? hi)
  have hb1 := bel_alloc w (.cells #[.slice (some ⟨bb, off, none⟩) l.length ca, .slice D ds.length cd] placesT)
  have hb2 := bel_alloc (w.alloc (.cells #[.slice (some ⟨bb, off, none⟩) l.length ca, .slice D ds.length cd] placesT)) (.cells #[.string a.code, .string a.city, .string a.land, .int .i64 a.off, .slice a.A a.shs.length a.c] airT)
  have p0 := bel_cell hb2 ((cells_new w #[.slice (some ⟨bb, off, none⟩) l.length ca, .slice D ds.length cd] placesT 0).trans (show _ = some _ from rfl))
  have p1 := bel_cell hb2 ((cells_new w #[.slice (some ⟨bb, off, none⟩) l.length ca, .slice D ds.length cd] placesT 1).trans (show _ = some _ from rfl))
  have q0 := (cells_new (w.alloc (.cells #[.slice (some ⟨bb, off, none⟩) l.length ca, .slice D ds.length cd] placesT)) #[.string a.code, .string a.city, .string a.land, .int .i64 a.off, .slice a.A a.shs.length a.c] airT 0).trans (show _ = some _ from rfl)
  have q1 := (cells_new (w.alloc (.cells #[.slice (some ⟨bb, off, none⟩) l.length ca, .slice D ds.length cd] placesT)) #[.string a.code, .string a.city, .string a.land, .int .i64 a.off, .slice a.A a.shs.length a.c] airT 1).trans (show _ = some _ from rfl)
  have q2 := (cells_new (w.alloc (.cells #[.slice (some ⟨bb, off, none⟩) l.length ca, .slice D ds.length cd] placesT)) #[.string a.code, .string a.city, .string a.land, .int .i64 a.off, .slice a.A a.shs.length a.c] airT 2).trans (show _ = some _ from rfl)
  have q3 := (cells_new (w.alloc (.cells #[.slice (some ⟨bb, off, none⟩) l.length ca, .slice D ds.length cd] placesT)) #[.string a.code, .string a.city, .string a.land, .int .i64 a.off, .slice a.A a.shs.length a.c] airT 3).trans (show _ = some _ from rfl)
  have q4 := (cells_new (w.alloc (.cells #[.slice (some ⟨bb, off, none⟩) l.length ca, .slice D ds.length cd] placesT)) #[.string a.code, .string a.city, .string a.land, .int .i64 a.off, .slice a.A a.shs.length a.c] airT 4).trans (show _ = some _ from rfl)
  rw [World.size_alloc] at q0 q1 q2 q3 q4
  have hb0 := hb1.trans (hb2.mono hb1.size)
  have hLa5 := hLa.more hb0
  have hsh5 := ha.sh.more hb0
  have i1 : (i : Int) < (l.length : Int) := by omega
  have C1 := Lib.hid (fun w => rairp_any a.code w s1)
  have C2 := Lib.hid (fun w => rairp_any a.city w s2)
  have C3 := Lib.hid (fun w => rland_any a.land w s3)
  have HB : Hid (codesB a = (capsB a.code 3 && capsB a.city 3 && capsB a.land 2)) := Lib.hid rfl
  have HAE : Hid (airE (l.take i) a = [if codesB a then 0 else 5, if (l.take i).any (fun b => decide (b.code = a.code)) then 6 else 0, if (l.take i).any (fun b => decide (b.city = a.city) && !decide (b.land = a.land)) then 8 else 0, errZ a.off a.shs]) := Lib.hid rfl
  obtain ⟨a0, a1, a2, a3, a4, ash⟩ := ha
  go_enter Tryz.func56, Tryz.ntmps56
  go_upto_region 3 with fail
  clear a0 a1 a2 a3 a4 ash hLa hLd hgl hb1 hb2
  generalize hw5 : (w.alloc (.cells #[.slice (some ⟨bb, off, none⟩) l.length ca, .slice D ds.length cd] placesT)).alloc (.cells #[.string a.code, .string a.city, .string a.land, .int .i64 a.off, .slice a.A a.shs.length a.c] airT) = w5 at *
  clear hw5
  go_cut [31] from 16 (fun v wx => v = .bool (!codesB a) ∧ wx = w5)
  case first =>
    cases b1 : capsB a.code 3
    · rw [b1] at C1 HB
      go_wp2_with (go_at_call 84; refine (C1.out _).mono ?_; rintro e w' ⟨rfl, rfl⟩)
      go_meet
      exact ⟨by rw [HB.out]; rfl, rfl⟩
    rw [b1] at C1 HB
    cases b2 : capsB a.city 3
    · rw [b2] at C2 HB
      go_wp2_with (first | (go_at_call 84; with_reducible refine (C1.out _).mono ?_; rintro e w' ⟨rfl, rfl⟩) | (go_at_call 84; with_reducible refine (C2.out _).mono ?_; rintro e w' ⟨rfl, rfl⟩))
      all_goals
        go_meet
        exact ⟨by rw [HB.out]; rfl, rfl⟩
    rw [b2] at C2 HB
    cases b3 : capsB a.land 2 <;> rw [b3] at C3 HB <;>
    · go_wp2_with (first | (go_at_call 85; refine (C3.out _).mono ?_; rintro e w' ⟨rfl, rfl⟩) | (go_at_call 84; with_reducible refine (C1.out _).mono ?_; rintro e w' ⟨rfl, rfl⟩) | (go_at_call 84; with_reducible refine (C2.out _).mono ?_; rintro e w' ⟨rfl, rfl⟩))
      go_meet
      exact ⟨by rw [HB.out]; rfl, rfl⟩
  case rest =>
    obtain ⟨rfl, hwc⟩ := hcut
    obtain rfl := hwc.symm
    clear C1 C2 C3 HB
    have hBw := hb0.size
    go_upto_if 31 with fail
    go_cut [5] from 16 (fun v wx => Hid (EOwn w5.heap.size wx v (okE [if codesB a then 0 else 5]) ∧ SW w5 wx))
    case first =>
      cases hcb : codesB a with
      | true =>
        go_wp2
        go_meet
        exact Lib.hid ⟨by rw [hcb]; exact ROwn.nil (Nat.le_refl _), Below.refl _ _⟩
      | false =>
        have hN : EOwn w5.heap.size w5 (.slice none 0 0) [] := ROwn.nil (Nat.le_refl _)
        go_wp2_with (at_builtin; refine wpList_rapp rtE rfl _ _ rfl hN rfl (bel_alloc _ _) _ 5 _ rfl (cs := #[.int .i64 5]) rfl (heap_alloc_new _ _) (by simp) ?_; intro v' w' hO hC)
        go_meet
        exact Lib.hid ⟨by rw [hcb]; exact hO, hC.but.below (Nat.le_refl _) (fun k hk hv => by cases hv)⟩
    case rest =>
      have HC := Lib.hid hcut.out.1
      have hS0 : SW w5 wc := hcut.out.2
      generalize (if codesB a then (0 : Int) else 5) = x0 at *
      clear hcut
      have f0 := bel_get p0
      have g0 := bel_get q0
      have g1 := bel_get q1
      have g2 := bel_get q2
      have g3 := bel_get q3
      have g4 := bel_get q4
      go_wp2
      go_loopw [7, 8, 9] (fun v7 v8 vi wr => ∃ (k : Nat) (tw mv : Bool), k ≤ i ∧ vi = .int .i64 k ∧ v7 = .bool tw ∧ v8 = .bool mv ∧ Hid (tw = (l.take k).any (fun b => decide (b.code = a.code))) ∧ Hid (mv = (l.take k).any (fun b => decide (b.city = a.city) && !decide (b.land = a.land))) ∧ SW wc wr) (fun _ _ vi _ => i - (intOf vi).toNat)
      case atStart => exact ⟨0, false, false, Nat.zero_le _, rfl, rfl, rfl, Lib.hid rfl, Lib.hid rfl, Below.refl _ _⟩
      case round =>
        obtain ⟨k, tw, mv, hk, rfl, rfl, rfl, HT, HM, hS⟩ := hrel
        have hSr : SW w5 wr := Below.trans hS0 (Below.mono hS hS0.size)
        by_cases hlt : k < i
        · obtain ⟨bb', off', b, e, hgl', hkb, hb⟩ := (hLa5.more hSr).at (show k < l.length by omega)
          cases e
          have HT2 := Lib.hid (any_take (fun b => decide (b.code = a.code)) l k b hkb)
          have HM2 := Lib.hid (any_take (fun b => decide (b.city = a.city) && !decide (b.land = a.land)) l k b hkb)
          have i2 : (k : Int) < (i : Int) := by omega
          have i3 : (k : Int) < (l.length : Int) := by omega
          have e1 := eqB b.code a.code
          have e2 := eqB b.city a.city
          have e3 := eqB b.land a.land
          have k0 := SW.cell (f0 _ hSr)
          have k1 := SW.cell (g0 _ hSr)
          have k2 := SW.cell (g1 _ hSr)
          have k3 := SW.cell (g2 _ hSr)
          have k4 := SW.cell hb.c0
          have k5 := SW.cell hb.c1
          have k6 := SW.cell hb.c2
          clear hkb hb
          cases tw with
          | true =>
            have HT3 : Hid (true = (l.take (k + 1)).any (fun b => decide (b.code = a.code))) := Lib.hid (by rw [HT2.out, ← HT.out]; simp)
            cases mv with
            | true =>
              have HM3 : Hid (true = (l.take (k + 1)).any (fun b => decide (b.city = a.city) && !decide (b.land = a.land))) := Lib.hid (by rw [HM2.out, ← HM.out]; simp)
              clear HT2 HM2
              clear e1 e3
              go_wp2
              have hNe : Nonempty (Wd (SW wr)) := ⟨⟨_, SW.drew _⟩⟩
              refine quietS (S := SW wr) (by kernel_rfl) (by kernel_rfl) (SW.drew _) ?_
              repeat (first | go_big_quiet_skip | (go_big_quiet_want; go_big_quiet_op; first | go_big_quiet_on | go_big_quiet_call ((fail))))
              refine wpQuiet_nil ?_
              rintro W ⟨⟨_, hW⟩, rfl⟩
              go_wp2
              have hNe : Nonempty (Wd (SW wr)) := ⟨⟨_, (Below.drew hW)⟩⟩
              refine quietS (S := SW wr) (by kernel_rfl) (by kernel_rfl) ((Below.drew hW)) ?_
              repeat (first | go_big_quiet_skip | (go_big_quiet_want; go_big_quiet_op; first | go_big_quiet_on | go_big_quiet_call ((fail))))
              refine wpQuiet_nil ?_
              rintro W ⟨⟨_, hW⟩, rfl⟩
              go_wp2
              go_roundw
              case rel => exact ⟨k + 1, true, true, by omega, by go_num, rfl, rfl, HT3, HM3, Below.trans hS (Below.mono hW hS.size)⟩
              case measure => simp [intOf]; omega
            | false =>
              cases hce : decide (b.city = a.city) with
              | true =>
                rw [hce] at e2
                have HM3 : Hid ((!(b.land.toList == a.land.toList)) = (l.take (k + 1)).any (fun b => decide (b.city = a.city) && !decide (b.land = a.land))) := Lib.hid (by rw [HM2.out, ← HM.out, hce, e3]; simp)
                clear HT2 HM2 hce
                clear e1 e3
                go_wp2
                have hNe : Nonempty (Wd (SW wr)) := ⟨⟨_, SW.drew _⟩⟩
                refine quietS (S := SW wr) (by kernel_rfl) (by kernel_rfl) (SW.drew _) ?_
                repeat (first | go_big_quiet_skip | (go_big_quiet_want; go_big_quiet_op; first | go_big_quiet_on | go_big_quiet_call ((fail))))
                refine wpQuiet_nil ?_
                rintro W ⟨⟨_, hW⟩, rfl⟩
                go_wp2
                have hNe : Nonempty (Wd (SW wr)) := ⟨⟨_, (Below.drew hW)⟩⟩
                refine quietS (S := SW wr) (by kernel_rfl) (by kernel_rfl) ((Below.drew hW)) ?_
                repeat (first | go_big_quiet_skip | (go_big_quiet_want; go_big_quiet_op; first | go_big_quiet_on | go_big_quiet_call ((fail))))
                refine wpQuiet_nil ?_
                rintro W ⟨⟨_, hW⟩, rfl⟩
                go_wp2
                go_roundw
                case rel => exact ⟨k + 1, true, (!(b.land.toList == a.land.toList)), by omega, by go_num, rfl, rfl, HT3, HM3, Below.trans hS (Below.mono hW hS.size)⟩
                case measure => simp [intOf]; omega
              | false =>
                rw [hce] at e2
                have HM3 : Hid (false = (l.take (k + 1)).any (fun b => decide (b.city = a.city) && !decide (b.land = a.land))) := Lib.hid (by rw [HM2.out, ← HM.out, hce]; simp)
                clear HT2 HM2 hce
                clear e1 e3
                go_wp2
                have hNe : Nonempty (Wd (SW wr)) := ⟨⟨_, SW.drew _⟩⟩
                refine quietS (S := SW wr) (by kernel_rfl) (by kernel_rfl) (SW.drew _) ?_
                repeat (first | go_big_quiet_skip | (go_big_quiet_want; go_big_quiet_op; first | go_big_quiet_on | go_big_quiet_call ((fail))))
                refine wpQuiet_nil ?_
                rintro W ⟨⟨_, hW⟩, rfl⟩
                go_wp2
                have hNe : Nonempty (Wd (SW wr)) := ⟨⟨_, (Below.drew hW)⟩⟩
                refine quietS (S := SW wr) (by kernel_rfl) (by kernel_rfl) ((Below.drew hW)) ?_
                repeat (first | go_big_quiet_skip | (go_big_quiet_want; go_big_quiet_op; first | go_big_quiet_on | go_big_quiet_call ((fail))))
                refine wpQuiet_nil ?_
                rintro W ⟨⟨_, hW⟩, rfl⟩
                go_wp2
                go_roundw
                case rel => exact ⟨k + 1, true, false, by omega, by go_num, rfl, rfl, HT3, HM3, Below.trans hS (Below.mono hW hS.size)⟩
                case measure => simp [intOf]; omega
          | false =>
            have HT3 : Hid ((b.code.toList == a.code.toList) = (l.take (k + 1)).any (fun b => decide (b.code = a.code))) := Lib.hid (by rw [HT2.out, ← HT.out, e1]; simp)
            cases mv with
            | true =>
              have HM3 : Hid (true = (l.take (k + 1)).any (fun b => decide (b.city = a.city) && !decide (b.land = a.land))) := Lib.hid (by rw [HM2.out, ← HM.out]; simp)
              clear HT2 HM2
              clear e1 e3
              go_wp2
              have hNe : Nonempty (Wd (SW wr)) := ⟨⟨_, SW.drew _⟩⟩
              refine quietS (S := SW wr) (by kernel_rfl) (by kernel_rfl) (SW.drew _) ?_
              repeat (first | go_big_quiet_skip | (go_big_quiet_want; go_big_quiet_op; first | go_big_quiet_on | go_big_quiet_call ((fail))))
              refine wpQuiet_nil ?_
              rintro W ⟨⟨_, hW⟩, rfl⟩
              go_wp2
              have hNe : Nonempty (Wd (SW wr)) := ⟨⟨_, (Below.drew hW)⟩⟩
              refine quietS (S := SW wr) (by kernel_rfl) (by kernel_rfl) ((Below.drew hW)) ?_
              repeat (first | go_big_quiet_skip | (go_big_quiet_want; go_big_quiet_op; first | go_big_quiet_on | go_big_quiet_call ((fail))))
              refine wpQuiet_nil ?_
              rintro W ⟨⟨_, hW⟩, rfl⟩
              go_wp2
              go_roundw
              case rel => exact ⟨k + 1, (b.code.toList == a.code.toList), true, by omega, by go_num, rfl, rfl, HT3, HM3, Below.trans hS (Below.mono hW hS.size)⟩
              case measure => simp [intOf]; omega
            | false =>
              cases hce : decide (b.city = a.city) with
              | true =>
                rw [hce] at e2
                have HM3 : Hid ((!(b.land.toList == a.land.toList)) = (l.take (k + 1)).any (fun b => decide (b.city = a.city) && !decide (b.land = a.land))) := Lib.hid (by rw [HM2.out, ← HM.out, hce, e3]; simp)
                clear HT2 HM2 hce
                clear e1 e3
                go_wp2
                have hNe : Nonempty (Wd (SW wr)) := ⟨⟨_, SW.drew _⟩⟩
                refine quietS (S := SW wr) (by kernel_rfl) (by kernel_rfl) (SW.drew _) ?_
                repeat (first | go_big_quiet_skip | (go_big_quiet_want; go_big_quiet_op; first | go_big_quiet_on | go_big_quiet_call ((fail))))
                refine wpQuiet_nil ?_
                rintro W ⟨⟨_, hW⟩, rfl⟩
                go_wp2
                have hNe : Nonempty (Wd (SW wr)) := ⟨⟨_, (Below.drew hW)⟩⟩
                refine quietS (S := SW wr) (by kernel_rfl) (by kernel_rfl) ((Below.drew hW)) ?_
                repeat (first | go_big_quiet_skip | (go_big_quiet_want; go_big_quiet_op; first | go_big_quiet_on | go_big_quiet_call ((fail))))
                refine wpQuiet_nil ?_
                rintro W ⟨⟨_, hW⟩, rfl⟩
                go_wp2
                go_roundw
                case rel => exact ⟨k + 1, (b.code.toList == a.code.toList), (!(b.land.toList == a.land.toList)), by omega, by go_num, rfl, rfl, HT3, HM3, Below.trans hS (Below.mono hW hS.size)⟩
                case measure => simp [intOf]; omega
              | false =>
                rw [hce] at e2
                have HM3 : Hid (false = (l.take (k + 1)).any (fun b => decide (b.city = a.city) && !decide (b.land = a.land))) := Lib.hid (by rw [HM2.out, ← HM.out, hce]; simp)
                clear HT2 HM2 hce
                clear e1 e3
                go_wp2
                have hNe : Nonempty (Wd (SW wr)) := ⟨⟨_, SW.drew _⟩⟩
                refine quietS (S := SW wr) (by kernel_rfl) (by kernel_rfl) (SW.drew _) ?_
                repeat (first | go_big_quiet_skip | (go_big_quiet_want; go_big_quiet_op; first | go_big_quiet_on | go_big_quiet_call ((fail))))
                refine wpQuiet_nil ?_
                rintro W ⟨⟨_, hW⟩, rfl⟩
                go_wp2
                have hNe : Nonempty (Wd (SW wr)) := ⟨⟨_, (Below.drew hW)⟩⟩
                refine quietS (S := SW wr) (by kernel_rfl) (by kernel_rfl) ((Below.drew hW)) ?_
                repeat (first | go_big_quiet_skip | (go_big_quiet_want; go_big_quiet_op; first | go_big_quiet_on | go_big_quiet_call ((fail))))
                refine wpQuiet_nil ?_
                rintro W ⟨⟨_, hW⟩, rfl⟩
                go_wp2
                go_roundw
                case rel => exact ⟨k + 1, (b.code.toList == a.code.toList), false, by omega, by go_num, rfl, rfl, HT3, HM3, Below.trans hS (Below.mono hW hS.size)⟩
                case measure => simp [intOf]; omega
        · have hki : k = i := by omega
          subst hki
          have hO := HC.out.more hS
          have HLn : Hid ((okE [x0]).length ≤ 1) := Lib.hid (by unfold okE; exact List.length_filter_le _ _)
          have KZ : Hid (∀ W, SW w5 W → Calls Tryz.prog 86 #[.agg #[.int .i64 a.off, .slice a.A a.shs.length a.c]] W fun e w' => e = .returned (.int .i64 (errZ a.off a.shs)) ∧ Below W.heap.size W w') := Lib.hid (fun W hW => rcheck_any a.off a.A a.c a.shs W s4 (hsh5.more hW) s5)
          rw [← HT.out, ← HM.out] at HAE
          clear HT HM HC hLa5 hsh5
          generalize errZ a.off a.shs = ez at *
          have HE3 : Hid (okE (airE (l.take k) a) = okE [x0] ++ okE [if tw = true then 6 else 0] ++ okE [if mv = true then 8 else 0] ++ okE [ez]) := Lib.hid (by rw [HAE.out, ← okE_app, ← okE_app, ← okE_app]; rfl)
          clear HAE
          cases tw with
          | true =>
            cases mv with
            | true =>
              by_cases hez : ez = 0
              · subst hez
                have HF : Hid (okE (airE (l.take k) a) = okE [x0] ++ [6] ++ [8]) := Lib.hid (by rw [HE3.out]; simp [okE])
                clear HE3
                have z3 := g3 _ hSr
                have z4 := g4 _ hSr
                go_wp2_with (first | (go_at_call 86; refine (KZ.out _ hSb).mono ?_; rintro e wz ⟨rfl, hbz⟩; have hOz := hOb.more hbz; have hSz : SW w5 wz := Below.trans hSb (Below.mono hbz hSb.size)) | (at_builtin; refine wpList_rapp rtE rfl _ _ rfl hOa rfl (bel_alloc _ _) _ (8 : Int) _ rfl (cs := #[.int .i64 8]) rfl (heap_alloc_new _ _) (by have := HLn.out; (try simp only [List.length_append, List.length_cons, List.length_nil]); omega) ?_; intro vb wb hOb hCb; have hSb : SW w5 wb := Below.trans hSa ((hCb.below hOa).mono (Nat.le_refl _)); have z3 := g3 _ hSb; have z4 := g4 _ hSb) | (at_builtin; refine wpList_rapp rtE rfl _ _ rfl hO rfl (bel_alloc _ _) _ (6 : Int) _ rfl (cs := #[.int .i64 6]) rfl (heap_alloc_new _ _) (by have := HLn.out; (try simp only [List.length_append, List.length_cons, List.length_nil]); omega) ?_; intro va wa hOa hCa; have hSa : SW w5 wa := Below.trans hSr ((hCa.below hO).mono (Nat.le_refl _)); have z3 := g3 _ hSa; have z4 := g4 _ hSa))
                go_ret
                exact ⟨_, rfl, ⟨by rw [HF.out]; exact hOz.own.mono hBw, Nat.le_trans hBw hSz.size⟩, hb0.trans (Below.mono hSz hBw)⟩
              · have hez2 : (ez != 0) = true := by simp [hez]
                have HF : Hid (okE (airE (l.take k) a) = okE [x0] ++ [6] ++ [8] ++ [ez]) := Lib.hid (by rw [HE3.out]; rw [okE_one ez hez]; simp [okE])
                clear HE3 hez
                have z3 := g3 _ hSr
                have z4 := g4 _ hSr
                go_wp2_with (first | (at_builtin; refine wpList_rapp rtE rfl _ _ rfl hOz rfl (bel_alloc _ _) _ (ez : Int) _ rfl (cs := #[.int .i64 ez]) rfl (heap_alloc_new _ _) (by have := HLn.out; (try simp only [List.length_append, List.length_cons, List.length_nil]); omega) ?_; intro vc wc hOc hCc; have hSc : SW w5 wc := Below.trans hSz ((hCc.below hOz).mono (Nat.le_refl _)); have z3 := g3 _ hSc; have z4 := g4 _ hSc) | (go_at_call 86; refine (KZ.out _ hSb).mono ?_; rintro e wz ⟨rfl, hbz⟩; have hOz := hOb.more hbz; have hSz : SW w5 wz := Below.trans hSb (Below.mono hbz hSb.size)) | (at_builtin; refine wpList_rapp rtE rfl _ _ rfl hOa rfl (bel_alloc _ _) _ (8 : Int) _ rfl (cs := #[.int .i64 8]) rfl (heap_alloc_new _ _) (by have := HLn.out; (try simp only [List.length_append, List.length_cons, List.length_nil]); omega) ?_; intro vb wb hOb hCb; have hSb : SW w5 wb := Below.trans hSa ((hCb.below hOa).mono (Nat.le_refl _)); have z3 := g3 _ hSb; have z4 := g4 _ hSb) | (at_builtin; refine wpList_rapp rtE rfl _ _ rfl hO rfl (bel_alloc _ _) _ (6 : Int) _ rfl (cs := #[.int .i64 6]) rfl (heap_alloc_new _ _) (by have := HLn.out; (try simp only [List.length_append, List.length_cons, List.length_nil]); omega) ?_; intro va wa hOa hCa; have hSa : SW w5 wa := Below.trans hSr ((hCa.below hO).mono (Nat.le_refl _)); have z3 := g3 _ hSa; have z4 := g4 _ hSa))
                go_ret
                exact ⟨_, rfl, ⟨by rw [HF.out]; exact hOc.own.mono hBw, Nat.le_trans hBw hSc.size⟩, hb0.trans (Below.mono hSc hBw)⟩
            | false =>
              by_cases hez : ez = 0
              · subst hez
                have HF : Hid (okE (airE (l.take k) a) = okE [x0] ++ [6]) := Lib.hid (by rw [HE3.out]; simp [okE])
                clear HE3
                have z3 := g3 _ hSr
                have z4 := g4 _ hSr
                go_wp2_with (first | (go_at_call 86; refine (KZ.out _ hSa).mono ?_; rintro e wz ⟨rfl, hbz⟩; have hOz := hOa.more hbz; have hSz : SW w5 wz := Below.trans hSa (Below.mono hbz hSa.size)) | (at_builtin; refine wpList_rapp rtE rfl _ _ rfl hO rfl (bel_alloc _ _) _ (6 : Int) _ rfl (cs := #[.int .i64 6]) rfl (heap_alloc_new _ _) (by have := HLn.out; (try simp only [List.length_append, List.length_cons, List.length_nil]); omega) ?_; intro va wa hOa hCa; have hSa : SW w5 wa := Below.trans hSr ((hCa.below hO).mono (Nat.le_refl _)); have z3 := g3 _ hSa; have z4 := g4 _ hSa))
                go_ret
                exact ⟨_, rfl, ⟨by rw [HF.out]; exact hOz.own.mono hBw, Nat.le_trans hBw hSz.size⟩, hb0.trans (Below.mono hSz hBw)⟩
              · have hez2 : (ez != 0) = true := by simp [hez]
                have HF : Hid (okE (airE (l.take k) a) = okE [x0] ++ [6] ++ [ez]) := Lib.hid (by rw [HE3.out]; rw [okE_one ez hez]; simp [okE])
                clear HE3 hez
                have z3 := g3 _ hSr
                have z4 := g4 _ hSr
                go_wp2_with (first | (at_builtin; refine wpList_rapp rtE rfl _ _ rfl hOz rfl (bel_alloc _ _) _ (ez : Int) _ rfl (cs := #[.int .i64 ez]) rfl (heap_alloc_new _ _) (by have := HLn.out; (try simp only [List.length_append, List.length_cons, List.length_nil]); omega) ?_; intro vc wc hOc hCc; have hSc : SW w5 wc := Below.trans hSz ((hCc.below hOz).mono (Nat.le_refl _)); have z3 := g3 _ hSc; have z4 := g4 _ hSc) | (go_at_call 86; refine (KZ.out _ hSa).mono ?_; rintro e wz ⟨rfl, hbz⟩; have hOz := hOa.more hbz; have hSz : SW w5 wz := Below.trans hSa (Below.mono hbz hSa.size)) | (at_builtin; refine wpList_rapp rtE rfl _ _ rfl hO rfl (bel_alloc _ _) _ (6 : Int) _ rfl (cs := #[.int .i64 6]) rfl (heap_alloc_new _ _) (by have := HLn.out; (try simp only [List.length_append, List.length_cons, List.length_nil]); omega) ?_; intro va wa hOa hCa; have hSa : SW w5 wa := Below.trans hSr ((hCa.below hO).mono (Nat.le_refl _)); have z3 := g3 _ hSa; have z4 := g4 _ hSa))
                go_ret
                exact ⟨_, rfl, ⟨by rw [HF.out]; exact hOc.own.mono hBw, Nat.le_trans hBw hSc.size⟩, hb0.trans (Below.mono hSc hBw)⟩
          | false =>
            cases mv with
            | true =>
              by_cases hez : ez = 0
              · subst hez
                have HF : Hid (okE (airE (l.take k) a) = okE [x0] ++ [8]) := Lib.hid (by rw [HE3.out]; simp [okE])
                clear HE3
                have z3 := g3 _ hSr
                have z4 := g4 _ hSr
                go_wp2_with (first | (go_at_call 86; refine (KZ.out _ hSb).mono ?_; rintro e wz ⟨rfl, hbz⟩; have hOz := hOb.more hbz; have hSz : SW w5 wz := Below.trans hSb (Below.mono hbz hSb.size)) | (at_builtin; refine wpList_rapp rtE rfl _ _ rfl hO rfl (bel_alloc _ _) _ (8 : Int) _ rfl (cs := #[.int .i64 8]) rfl (heap_alloc_new _ _) (by have := HLn.out; (try simp only [List.length_append, List.length_cons, List.length_nil]); omega) ?_; intro vb wb hOb hCb; have hSb : SW w5 wb := Below.trans hSr ((hCb.below hO).mono (Nat.le_refl _)); have z3 := g3 _ hSb; have z4 := g4 _ hSb))
                go_ret
                exact ⟨_, rfl, ⟨by rw [HF.out]; exact hOz.own.mono hBw, Nat.le_trans hBw hSz.size⟩, hb0.trans (Below.mono hSz hBw)⟩
              · have hez2 : (ez != 0) = true := by simp [hez]
                have HF : Hid (okE (airE (l.take k) a) = okE [x0] ++ [8] ++ [ez]) := Lib.hid (by rw [HE3.out]; rw [okE_one ez hez]; simp [okE])
                clear HE3 hez
                have z3 := g3 _ hSr
                have z4 := g4 _ hSr
                go_wp2_with (first | (at_builtin; refine wpList_rapp rtE rfl _ _ rfl hOz rfl (bel_alloc _ _) _ (ez : Int) _ rfl (cs := #[.int .i64 ez]) rfl (heap_alloc_new _ _) (by have := HLn.out; (try simp only [List.length_append, List.length_cons, List.length_nil]); omega) ?_; intro vc wc hOc hCc; have hSc : SW w5 wc := Below.trans hSz ((hCc.below hOz).mono (Nat.le_refl _)); have z3 := g3 _ hSc; have z4 := g4 _ hSc) | (go_at_call 86; refine (KZ.out _ hSb).mono ?_; rintro e wz ⟨rfl, hbz⟩; have hOz := hOb.more hbz; have hSz : SW w5 wz := Below.trans hSb (Below.mono hbz hSb.size)) | (at_builtin; refine wpList_rapp rtE rfl _ _ rfl hO rfl (bel_alloc _ _) _ (8 : Int) _ rfl (cs := #[.int .i64 8]) rfl (heap_alloc_new _ _) (by have := HLn.out; (try simp only [List.length_append, List.length_cons, List.length_nil]); omega) ?_; intro vb wb hOb hCb; have hSb : SW w5 wb := Below.trans hSr ((hCb.below hO).mono (Nat.le_refl _)); have z3 := g3 _ hSb; have z4 := g4 _ hSb))
                go_ret
                exact ⟨_, rfl, ⟨by rw [HF.out]; exact hOc.own.mono hBw, Nat.le_trans hBw hSc.size⟩, hb0.trans (Below.mono hSc hBw)⟩
            | false =>
              by_cases hez : ez = 0
              · subst hez
                have HF : Hid (okE (airE (l.take k) a) = okE [x0]) := Lib.hid (by rw [HE3.out]; simp [okE])
                clear HE3
                have z3 := g3 _ hSr
                have z4 := g4 _ hSr
                go_wp2_with (first | (go_at_call 86; refine (KZ.out _ hSr).mono ?_; rintro e wz ⟨rfl, hbz⟩; have hOz := hO.more hbz; have hSz : SW w5 wz := Below.trans hSr (Below.mono hbz hSr.size)))
                go_ret
                exact ⟨_, rfl, ⟨by rw [HF.out]; exact hOz.own.mono hBw, Nat.le_trans hBw hSz.size⟩, hb0.trans (Below.mono hSz hBw)⟩
              · have hez2 : (ez != 0) = true := by simp [hez]
                have HF : Hid (okE (airE (l.take k) a) = okE [x0] ++ [ez]) := Lib.hid (by rw [HE3.out]; rw [okE_one ez hez]; simp [okE])
                clear HE3 hez
                have z3 := g3 _ hSr
                have z4 := g4 _ hSr
                go_wp2_with (first | (at_builtin; refine wpList_rapp rtE rfl _ _ rfl hOz rfl (bel_alloc _ _) _ (ez : Int) _ rfl (cs := #[.int .i64 ez]) rfl (heap_alloc_new _ _) (by have := HLn.out; (try simp only [List.length_append, List.length_cons, List.length_nil]); omega) ?_; intro vc wc hOc hCc; have hSc : SW w5 wc := Below.trans hSz ((hCc.below hOz).mono (Nat.le_refl _)); have z3 := g3 _ hSc; have z4 := g4 _ hSc) | (go_at_call 86; refine (KZ.out _ hSr).mono ?_; rintro e wz ⟨rfl, hbz⟩; have hOz := hO.more hbz; have hSz : SW w5 wz := Below.trans hSr (Below.mono hbz hSr.size)))
                go_ret
                exact ⟨_, rfl, ⟨by rw [HF.out]; exact hOc.own.mono hBw, Nat.le_trans hBw hSc.size⟩, hb0.trans (Below.mono hSc hBw)⟩
set_option maxRecDepth 100000 in
set_option maxHeartbeats 8000000 in
theorem rdistance_anyB (p : PV) (i : Nat) (d : Dst) (w : World) (hp : OkPB p) (hL : PlL w p) (hi : p.ds[i]? = some d) :
    Calls Tryz.prog 57 #[encP p, .int .i64 (i : Int)] w fun e w' => ∃ v', e = .returned v' ∧ EOwn w.heap.size w' v' (okE (dstE p.l (p.ds.take i) d)) ∧ Below w.heap.size w w' := by
  obtain ⟨A, ca, l, D, cd, ds⟩ := p
  obtain ⟨hA, hD, hla, hld⟩ := hp
  obtain ⟨hLa, hLd⟩ := hL
  dsimp only at *
  have hil := (List.getElem?_eq_some_iff.1 hi).1
  obtain ⟨bb, off, d', rfl, hgl, hka, hd⟩ := hLd.at hil
  rw [hi] at hka
  obtain rfl := Option.some.inj hka
  have hb1 := bel_alloc w (.cells #[.slice A l.length ca, .slice (some ⟨bb, off, none⟩) ds.length cd] placesT)
  have hb2 := bel_alloc (w.alloc (.cells #[.slice A l.length ca, .slice (some ⟨bb, off, none⟩) ds.length cd] placesT)) (.cells #[.string d.f, .string d.t, .int .i64 d.m] dstT)
  have p0 := bel_cell hb2 ((cells_new w #[.slice A l.length ca, .slice (some ⟨bb, off, none⟩) ds.length cd] placesT 0).trans (show _ = some _ from rfl))
  have p1 := bel_cell hb2 ((cells_new w #[.slice A l.length ca, .slice (some ⟨bb, off, none⟩) ds.length cd] placesT 1).trans (show _ = some _ from rfl))
  have q0 := (cells_new (w.alloc (.cells #[.slice A l.length ca, .slice (some ⟨bb, off, none⟩) ds.length cd] placesT)) #[.string d.f, .string d.t, .int .i64 d.m] dstT 0).trans (show _ = some _ from rfl)
  have q1 := (cells_new (w.alloc (.cells #[.slice A l.length ca, .slice (some ⟨bb, off, none⟩) ds.length cd] placesT)) #[.string d.f, .string d.t, .int .i64 d.m] dstT 1).trans (show _ = some _ from rfl)
  have q2 := (cells_new (w.alloc (.cells #[.slice A l.length ca, .slice (some ⟨bb, off, none⟩) ds.length cd] placesT)) #[.string d.f, .string d.t, .int .i64 d.m] dstT 2).trans (show _ = some _ from rfl)
  rw [World.size_alloc] at q0 q1 q2
  have hb0 := hb1.trans (hb2.mono hb1.size)
  have hLa5 := hLa.more hb0
  have hLd5 := hLd.more hb0
  have hBw := hb0.size
  have i1 : (i : Int) < (ds.length : Int) := by omega
  obtain ⟨a0, a1, a2⟩ := hd
  have HAE : Hid (dstE l (ds.take i) d = [if l.any (fun b => decide (b.city = d.f)) && l.any (fun b => decide (b.city = d.t)) then 0 else 14, if (ds.take i).any (fun x => (decide (x.f = d.f) && decide (x.t = d.t)) || (decide (x.f = d.t) && decide (x.t = d.f))) then 6 else 0, if useB d && !decide (d.f = d.t) then 0 else 2]) := Lib.hid rfl
  go_enter Tryz.func57, Tryz.ntmps57
  go_upto_region 3 with fail
  clear a0 a1 a2 hLa hLd hgl hb1 hb2
  generalize hw5 : (w.alloc (.cells #[.slice A l.length ca, .slice (some ⟨bb, off, none⟩) ds.length cd] placesT)).alloc (.cells #[.string d.f, .string d.t, .int .i64 d.m] dstT) = w5 at *
  clear hw5
  have f0 := bel_get p0
  have f1 := bel_get p1
  have g0 := bel_get q0
  have g1 := bel_get q1
  have g2 := bel_get q2
  have KT : Hid (∀ s W, SW w5 W → Calls Tryz.prog 87 #[.agg #[.slice A l.length ca, .slice (some ⟨bb, off, none⟩) ds.length cd], .string s] W fun e w' => ∃ y : Air, e = .returned (.tuple #[.agg #[.string y.code, .string y.city, .string y.land, .int .i64 y.off, .slice y.A y.shs.length y.c], .bool (l.any fun b => decide (b.city = s))]) ∧ SW w5 w') :=
    Lib.hid (fun s W hW => (rtown_anyB ⟨A, ca, l, some ⟨bb, off, none⟩, cd, ds⟩ s W hla (hLa5.more hW)).mono (by rintro e w' ⟨rfl, hb⟩; exact ⟨(findT l s).getD airZ, by rw [← town_any], Below.trans hW (hb.mono hW.size)⟩))
  have hS0 : SW w5 w5 := Below.refl _ _
  have HU2 := Lib.hid (fun W => rusable_any d W)
  have HED := Lib.hid (eqB d.f d.t)
  rw [← HED.out] at HAE
  obtain ⟨kf, hkf⟩ : ∃ b, b = (l.any fun b => decide (b.city = d.f)) := ⟨_, rfl⟩
  obtain ⟨kt, hkt⟩ : ∃ b, b = (l.any fun b => decide (b.city = d.t)) := ⟨_, rfl⟩
  have KF := KT.out d.f
  have KG := KT.out d.t
  rw [← hkf] at KF HAE
  rw [← hkt] at KG HAE
  have KF := Lib.hid KF
  have KG := Lib.hid KG
  generalize useB d = us at *
  clear hLa5 hi KT hkf hkt hla
  have z0 := f0 _ hS0
  have z1 := f1 _ hS0
  have z2 := g0 _ hS0
  have z3 := g1 _ hS0
  go_upto_region 5 with (first
    | (go_at_call 87; refine (KG.out _ hS2).mono ?_; rintro e w3 ⟨y3, rfl, hS3⟩; have hS4 := Below.alloc hS3 hS3.size (.cells #[.string y3.code, .string y3.city, .string y3.land, .int .i64 y3.off, .slice y3.A y3.shs.length y3.c] airT))
    | (go_at_call 87; refine (KF.out _ hS0).mono ?_; rintro e w1 ⟨y1, rfl, hS1⟩; have hS2 : SW w5 (w1.alloc (.cells #[.string y1.code, .string y1.city, .string y1.land, .int .i64 y1.off, .slice y1.A y1.shs.length y1.c] airT)) := Below.alloc hS1 hS1.size _; have z0 := f0 _ hS2; have z1 := f1 _ hS2; have z2 := g0 _ hS2; have z3 := g1 _ hS2))
  have hS4 : SW w5 (w3.alloc (.cells #[.string y3.code, .string y3.city, .string y3.land, .int .i64 y3.off, .slice y3.A y3.shs.length y3.c] airT)) := Below.alloc hS3 hS3.size _
  generalize w3.alloc (.cells #[.string y3.code, .string y3.city, .string y3.land, .int .i64 y3.off, .slice y3.A y3.shs.length y3.c] airT) = w6 at *
  clear KF KG z0 z1 z2 z3
  go_cut [38] from 33 (fun v wx => v = .bool (!(kf && kt)) ∧ wx = w6)
  case first =>
    cases kf
    · go_wp2
      go_meet
      exact ⟨rfl, rfl⟩
    · go_wp2
      go_meet
      exact ⟨by cases kt <;> rfl, rfl⟩
  case rest =>
  obtain ⟨rfl, hwc⟩ := hcut
  obtain rfl := hwc.symm
  go_upto_if 38 with fail
  go_cut [5] from 33 (fun v wx => Hid (EOwn w5.heap.size wx v (okE [if (kf && kt) = true then 0 else 14]) ∧ SW w5 wx))
  case first =>
    cases hkk : (kf && kt) with
    | false =>
      have hN : EOwn w5.heap.size w6 (.slice none 0 0) [] := ROwn.nil hS4.size
      go_wp2_with (at_builtin; refine wpList_rapp rtE rfl _ _ rfl hN rfl (bel_alloc _ _) _ 14 _ rfl (cs := #[.int .i64 14]) rfl (heap_alloc_new _ _) (by simp) ?_; intro v' w' hO hC)
      go_meet
      exact Lib.hid ⟨by rw [hkk]; exact hO, Below.trans hS4 ((hC.below hN).mono (Nat.le_refl _))⟩
    | true =>
      go_wp2
      go_meet
      exact Lib.hid ⟨by rw [hkk]; exact ROwn.nil hS4.size, hS4⟩
  case rest =>
    have HC := Lib.hid hcut.out.1
    have hS9 : SW w5 wc := hcut.out.2
    generalize (if (kf && kt) = true then (0 : Int) else 14) = x0 at *
    clear hcut hS4
    go_wp2
    go_loopw [11, 12] (fun v7 vi wr => ∃ (k : Nat) (tw : Bool), k ≤ i ∧ vi = .int .i64 k ∧ v7 = .bool tw ∧ Hid (tw = (ds.take k).any (fun x => (decide (x.f = d.f) && decide (x.t = d.t)) || (decide (x.f = d.t) && decide (x.t = d.f)))) ∧ SW wc wr) (fun _ vi _ => i - (intOf vi).toNat)
    case atStart => exact ⟨0, false, Nat.zero_le _, rfl, rfl, Lib.hid rfl, Below.refl _ _⟩
    case round =>
      obtain ⟨k, tw, hk, rfl, rfl, HT, hS⟩ := hrel
      have hSr : SW w5 wr := Below.trans hS9 (Below.mono hS hS9.size)
      by_cases hlt : k < i
      · obtain ⟨bb', off', x, e, hgl', hkx, hx⟩ := (hLd5.more hSr).at (show k < ds.length by omega)
        cases e
        have HT2 := Lib.hid (any_take (fun x => (decide (x.f = d.f) && decide (x.t = d.t)) || (decide (x.f = d.t) && decide (x.t = d.f))) ds k x hkx)
        have i2 : (k : Int) < (i : Int) := by omega
        have i3 : (k : Int) < (ds.length : Int) := by omega
        have e1 := eqB x.f d.f
        have e2 := eqB x.t d.t
        have e3 := eqB x.f d.t
        have e4 := eqB x.t d.f
        obtain ⟨c0, c1, c2⟩ := hx
        have z0 := f0 _ hSr
        have z1 := f1 _ hSr
        have hSx : SW w5 (wr.alloc (.cells #[.string x.f, .string x.t, .int .i64 x.m] dstT)) := Below.alloc hSr hSr.size _
        have z2 := g0 _ hSx
        have z3 := g1 _ hSx
        have hSy : SW wc (wr.alloc (.cells #[.string x.f, .string x.t, .int .i64 x.m] dstT)) := Below.alloc hS hS.size _
        clear hkx hgl'
        cases tw with
        | true =>
          have HT3 : Hid (true = (ds.take (k + 1)).any (fun x => (decide (x.f = d.f) && decide (x.t = d.t)) || (decide (x.f = d.t) && decide (x.t = d.f)))) := Lib.hid (by rw [HT2.out, ← HT.out, ← e1, ← e2, ← e3, ← e4]; simp)
          clear HT2 e1 e2 e3 e4
          go_wp2
          go_roundw
          case rel => exact ⟨k + 1, true, by omega, by go_num, rfl, HT3, hSy⟩
          case measure => simp [intOf]; omega
        | false =>
          cases hff : (x.f.toList == d.f.toList) with
          | true =>
            cases htt : (x.t.toList == d.t.toList) with
            | true =>
              have HT3 : Hid (true = (ds.take (k + 1)).any (fun x => (decide (x.f = d.f) && decide (x.t = d.t)) || (decide (x.f = d.t) && decide (x.t = d.f)))) := Lib.hid (by rw [HT2.out, ← HT.out, ← e1, ← e2, ← e3, ← e4, hff, htt]; simp)
              clear HT2 e1 e2 e3 e4
              go_wp2
              go_roundw
              case rel => exact ⟨k + 1, true, by omega, by go_num, rfl, HT3, hSy⟩
              case measure => simp [intOf]; omega
            | false =>
              cases hft : (x.f.toList == d.t.toList) with
              | true =>
                have HT3 : Hid ((x.t.toList == d.f.toList) = (ds.take (k + 1)).any (fun x => (decide (x.f = d.f) && decide (x.t = d.t)) || (decide (x.f = d.t) && decide (x.t = d.f)))) := Lib.hid (by rw [HT2.out, ← HT.out, ← e1, ← e2, ← e3, ← e4, hff, htt, hft]; simp)
                clear HT2 e1 e2 e3 e4
                go_wp2
                go_roundw
                case rel => exact ⟨k + 1, (x.t.toList == d.f.toList), by omega, by go_num, rfl, HT3, hSy⟩
                case measure => simp [intOf]; omega
              | false =>
                have HT3 : Hid (false = (ds.take (k + 1)).any (fun x => (decide (x.f = d.f) && decide (x.t = d.t)) || (decide (x.f = d.t) && decide (x.t = d.f)))) := Lib.hid (by rw [HT2.out, ← HT.out, ← e1, ← e2, ← e3, ← e4, hff, htt, hft]; simp)
                clear HT2 e1 e2 e3 e4
                go_wp2
                go_roundw
                case rel => exact ⟨k + 1, false, by omega, by go_num, rfl, HT3, hSy⟩
                case measure => simp [intOf]; omega
          | false =>
            cases hft : (x.f.toList == d.t.toList) with
            | true =>
              have HT3 : Hid ((x.t.toList == d.f.toList) = (ds.take (k + 1)).any (fun x => (decide (x.f = d.f) && decide (x.t = d.t)) || (decide (x.f = d.t) && decide (x.t = d.f)))) := Lib.hid (by rw [HT2.out, ← HT.out, ← e1, ← e2, ← e3, ← e4, hff, hft]; simp)
              clear HT2 e1 e2 e3 e4
              go_wp2
              go_roundw
              case rel => exact ⟨k + 1, (x.t.toList == d.f.toList), by omega, by go_num, rfl, HT3, hSy⟩
              case measure => simp [intOf]; omega
            | false =>
              have HT3 : Hid (false = (ds.take (k + 1)).any (fun x => (decide (x.f = d.f) && decide (x.t = d.t)) || (decide (x.f = d.t) && decide (x.t = d.f)))) := Lib.hid (by rw [HT2.out, ← HT.out, ← e1, ← e2, ← e3, ← e4, hff, hft]; simp)
              clear HT2 e1 e2 e3 e4
              go_wp2
              go_roundw
              case rel => exact ⟨k + 1, false, by omega, by go_num, rfl, HT3, hSy⟩
              case measure => simp [intOf]; omega
      · have hki : k = i := by omega
        subst hki
        have hO := HC.out.more hS
        have HLn : Hid ((okE [x0]).length ≤ 1) := Lib.hid (by unfold okE; exact List.length_filter_le _ _)
        rw [← HT.out] at HAE
        have z2 := g0 _ hSr
        have z3 := g1 _ hSr
        have z4 := g2 _ hSr
        clear HT HC hLd5 hS9
        have HE3 : Hid (okE (dstE l (ds.take k) d) = okE [x0] ++ okE [if tw = true then 6 else 0] ++ okE [if (us && !(d.f.toList == d.t.toList)) = true then 0 else 2]) := Lib.hid (by rw [HAE.out, ← okE_app, ← okE_app]; rfl)
        clear HAE
        cases tw with
        | true =>
          cases us with
          | false =>
            have HF : Hid (okE (dstE l (ds.take k) d) = okE [x0] ++ [6] ++ [2]) := Lib.hid (by rw [HE3.out]; simp [okE])
            clear HE3
            go_wp2_with (first | (at_builtin; refine wpList_rapp rtE rfl _ _ rfl hOu rfl (bel_alloc _ _) _ (2 : Int) _ rfl (cs := #[.int .i64 2]) rfl (heap_alloc_new _ _) (by have := HLn.out; (try simp only [List.length_append, List.length_cons, List.length_nil]); omega) ?_; intro vb wb hOb hCb; have hSb : SW w5 wb := Below.trans hSu ((hCb.below hOu).mono (Nat.le_refl _))) | (go_at_call 88; refine (HU2.out _).mono ?_; rintro e wu ⟨rfl, hbu⟩; have hOu := hOa.more hbu; have hSu : SW w5 wu := Below.trans hSa (Below.mono hbu hSa.size); have z2 := g0 _ hSu; have z3 := g1 _ hSu) | (at_builtin; refine wpList_rapp rtE rfl _ _ rfl hO rfl (bel_alloc _ _) _ (6 : Int) _ rfl (cs := #[.int .i64 6]) rfl (heap_alloc_new _ _) (by have := HLn.out; omega) ?_; intro va wa hOa hCa; have hSa : SW w5 wa := Below.trans hSr ((hCa.below hO).mono (Nat.le_refl _)); have z2 := g0 _ hSa; have z3 := g1 _ hSa; have z4 := g2 _ hSa))
            go_ret
            exact ⟨_, rfl, ⟨by rw [HF.out]; exact hOb.own.mono hBw, Nat.le_trans hBw hSb.size⟩, hb0.trans (Below.mono hSb hBw)⟩
          | true =>
            cases hfe : (d.f.toList == d.t.toList) with
            | true =>
              have HF : Hid (okE (dstE l (ds.take k) d) = okE [x0] ++ [6] ++ [2]) := Lib.hid (by rw [HE3.out, hfe]; simp [okE])
              clear HE3
              go_wp2_with (first | (at_builtin; refine wpList_rapp rtE rfl _ _ rfl hOu rfl (bel_alloc _ _) _ (2 : Int) _ rfl (cs := #[.int .i64 2]) rfl (heap_alloc_new _ _) (by have := HLn.out; (try simp only [List.length_append, List.length_cons, List.length_nil]); omega) ?_; intro vb wb hOb hCb; have hSb : SW w5 wb := Below.trans hSu ((hCb.below hOu).mono (Nat.le_refl _))) | (go_at_call 88; refine (HU2.out _).mono ?_; rintro e wu ⟨rfl, hbu⟩; have hOu := hOa.more hbu; have hSu : SW w5 wu := Below.trans hSa (Below.mono hbu hSa.size); have z2 := g0 _ hSu; have z3 := g1 _ hSu) | (at_builtin; refine wpList_rapp rtE rfl _ _ rfl hO rfl (bel_alloc _ _) _ (6 : Int) _ rfl (cs := #[.int .i64 6]) rfl (heap_alloc_new _ _) (by have := HLn.out; omega) ?_; intro va wa hOa hCa; have hSa : SW w5 wa := Below.trans hSr ((hCa.below hO).mono (Nat.le_refl _)); have z2 := g0 _ hSa; have z3 := g1 _ hSa; have z4 := g2 _ hSa))
              go_ret
              exact ⟨_, rfl, ⟨by rw [HF.out]; exact hOb.own.mono hBw, Nat.le_trans hBw hSb.size⟩, hb0.trans (Below.mono hSb hBw)⟩
            | false =>
              have HF : Hid (okE (dstE l (ds.take k) d) = okE [x0] ++ [6]) := Lib.hid (by rw [HE3.out, hfe]; simp [okE])
              clear HE3
              go_wp2_with (first | (go_at_call 88; refine (HU2.out _).mono ?_; rintro e wu ⟨rfl, hbu⟩; have hOu := hOa.more hbu; have hSu : SW w5 wu := Below.trans hSa (Below.mono hbu hSa.size); have z2 := g0 _ hSu; have z3 := g1 _ hSu) | (at_builtin; refine wpList_rapp rtE rfl _ _ rfl hO rfl (bel_alloc _ _) _ (6 : Int) _ rfl (cs := #[.int .i64 6]) rfl (heap_alloc_new _ _) (by have := HLn.out; omega) ?_; intro va wa hOa hCa; have hSa : SW w5 wa := Below.trans hSr ((hCa.below hO).mono (Nat.le_refl _)); have z2 := g0 _ hSa; have z3 := g1 _ hSa; have z4 := g2 _ hSa))
              go_ret
              exact ⟨_, rfl, ⟨by rw [HF.out]; exact hOu.own.mono hBw, Nat.le_trans hBw hSu.size⟩, hb0.trans (Below.mono hSu hBw)⟩
        | false =>
          cases us with
          | false =>
            have HF : Hid (okE (dstE l (ds.take k) d) = okE [x0] ++ [2]) := Lib.hid (by rw [HE3.out]; simp [okE])
            clear HE3
            go_wp2_with (first | (at_builtin; refine wpList_rapp rtE rfl _ _ rfl hOu rfl (bel_alloc _ _) _ (2 : Int) _ rfl (cs := #[.int .i64 2]) rfl (heap_alloc_new _ _) (by have := HLn.out; (try simp only [List.length_append, List.length_cons, List.length_nil]); omega) ?_; intro vb wb hOb hCb; have hSb : SW w5 wb := Below.trans hSu ((hCb.below hOu).mono (Nat.le_refl _))) | (go_at_call 88; refine (HU2.out _).mono ?_; rintro e wu ⟨rfl, hbu⟩; have hOu := hO.more hbu; have hSu : SW w5 wu := Below.trans hSr (Below.mono hbu hSr.size); have z2 := g0 _ hSu; have z3 := g1 _ hSu))
            go_ret
            exact ⟨_, rfl, ⟨by rw [HF.out]; exact hOb.own.mono hBw, Nat.le_trans hBw hSb.size⟩, hb0.trans (Below.mono hSb hBw)⟩
          | true =>
            cases hfe : (d.f.toList == d.t.toList) with
            | true =>
              have HF : Hid (okE (dstE l (ds.take k) d) = okE [x0] ++ [2]) := Lib.hid (by rw [HE3.out, hfe]; simp [okE])
              clear HE3
              go_wp2_with (first | (at_builtin; refine wpList_rapp rtE rfl _ _ rfl hOu rfl (bel_alloc _ _) _ (2 : Int) _ rfl (cs := #[.int .i64 2]) rfl (heap_alloc_new _ _) (by have := HLn.out; (try simp only [List.length_append, List.length_cons, List.length_nil]); omega) ?_; intro vb wb hOb hCb; have hSb : SW w5 wb := Below.trans hSu ((hCb.below hOu).mono (Nat.le_refl _))) | (go_at_call 88; refine (HU2.out _).mono ?_; rintro e wu ⟨rfl, hbu⟩; have hOu := hO.more hbu; have hSu : SW w5 wu := Below.trans hSr (Below.mono hbu hSr.size); have z2 := g0 _ hSu; have z3 := g1 _ hSu))
              go_ret
              exact ⟨_, rfl, ⟨by rw [HF.out]; exact hOb.own.mono hBw, Nat.le_trans hBw hSb.size⟩, hb0.trans (Below.mono hSb hBw)⟩
            | false =>
              have HF : Hid (okE (dstE l (ds.take k) d) = okE [x0]) := Lib.hid (by rw [HE3.out, hfe]; simp [okE])
              clear HE3
              go_wp2_with (first | (go_at_call 88; refine (HU2.out _).mono ?_; rintro e wu ⟨rfl, hbu⟩; have hOu := hO.more hbu; have hSu : SW w5 wu := Below.trans hSr (Below.mono hbu hSr.size); have z2 := g0 _ hSu; have z3 := g1 _ hSu))
              go_ret
              exact ⟨_, rfl, ⟨by rw [HF.out]; exact hOu.own.mono hBw, Nat.le_trans hBw hSu.size⟩, hb0.trans (Below.mono hSu hBw)⟩
set_option maxRecDepth 100000 in
set_option maxHeartbeats 16000000 in
theorem rcheck6_anyB (p : PV) (w : World) (hp : OkPB p) (hL : PlL w p) :
    Calls Tryz.prog 25 #[encP p] w fun e w' => ∃ v', e = .returned v' ∧ FOwn w.heap.size w' v' (chkP p) ∧ Below w.heap.size w w' := by
  have hb0 := bel_alloc w (.cells #[.slice p.A p.l.length p.ca, .slice p.D p.ds.length p.cd] placesT)
  have q0 := (cells_new w #[.slice p.A p.l.length p.ca, .slice p.D p.ds.length p.cd] placesT 0).trans (show _ = some _ from rfl)
  have q1 := (cells_new w #[.slice p.A p.l.length p.ca, .slice p.D p.ds.length p.cd] placesT 1).trans (show _ = some _ from rfl)
  have hL5 := hL.more hb0
  go_enter Tryz.func25, Tryz.ntmps25
  go_wp2
  generalize hw5 : w.alloc (.cells #[.slice p.A p.l.length p.ca, .slice p.D p.ds.length p.cd] placesT) = w5 at *
  clear hw5
  have y0 := bel_get q0
  have y1 := bel_get q1
  have KA : Hid (∀ (i : Nat) (a : Air) W, SW w5 W → p.l[i]? = some a → Calls Tryz.prog 56 #[.agg #[.slice p.A p.l.length p.ca, .slice p.D p.ds.length p.cd], .int .i64 (i : Int)] W fun e w' => ∃ v', e = .returned v' ∧ EOwn W.heap.size w' v' (okE (airE (p.l.take i) a)) ∧ Below W.heap.size W w') := Lib.hid (fun i a W hW hi => rairport_anyB p i a W hp (hL5.more hW) hi)
  have KD : Hid (∀ (i : Nat) (d : Dst) W, SW w5 W → p.ds[i]? = some d → Calls Tryz.prog 57 #[.agg #[.slice p.A p.l.length p.ca, .slice p.D p.ds.length p.cd], .int .i64 (i : Int)] W fun e w' => ∃ v', e = .returned v' ∧ EOwn W.heap.size w' v' (okE (dstE p.l (p.ds.take i) d)) ∧ Below W.heap.size W w') := Lib.hid (fun i d W hW hi => rdistance_anyB p i d W hp (hL5.more hW) hi)
  have hla := hp.la
  have hld := hp.ld
  have HC : Hid (chkP p = airF p.l p.l.length ++ dstF p.l p.ds p.ds.length) := Lib.hid rfl
  have HN : Hid (FOwn w5.heap.size w5 (.slice none 0 0) (airF p.l 0)) := Lib.hid (ROwn.nil (Nat.le_refl _))
  clear hL hL5 hp
  go_loopg [3, 4] p.l.length (fun kx v3 vi wr => ∃ (v : Value) (i : Nat), v = v3 ∧ vi = .int .i64 i ∧ i + kx = p.l.length ∧ Hid (FOwn w5.heap.size wr v (airF p.l i) ∧ SW w5 wr))
  case atStart => exact ⟨_, 0, rfl, rfl, by omega, Lib.hid ⟨HN.out, Below.refl _ _⟩⟩
  case round =>
    obtain ⟨v, i, rfl, rfl, hik, HH⟩ := hrel
    have HIK := Lib.hid hik
    have hSr : SW w5 wr := HH.out.2
    have z0 := y0 _ hSr
    have z1 := y1 _ hSr
    by_cases hlt : i < p.l.length
    · clear hik
      obtain ⟨a, hia⟩ : ∃ a, p.l[i]? = some a := ⟨_, List.getElem?_eq_getElem hlt⟩
      have i2 : (i : Int) < (p.l.length : Int) := by omega
      have KAi := Lib.hid (KA.out i a wr hSr hia)
      have HS := Lib.hid (airF_succ p.l i a hia)
      have HFL : Hid ((airF p.l i).length ≤ 20000000) := Lib.hid (by have := airF_le p.l i; omega)
      have HEL : Hid ((okE (airE (p.l.take i) a)).length ≤ 4) := Lib.hid (Nat.le_trans (okE_le _) (by rw [airE_len]; omega))
      have hpk : pick (airW ++ decA i) (airE (p.l.take i) a) = tag (airW ++ decA i) (okE (airE (p.l.take i) a)) := rfl
      rw [hpk] at HS
      clear hia hpk
      generalize okE (airE (p.l.take i) a) = es at *
      go_wp2_with (go_at_call 56; refine KAi.out.mono ?_; rintro e w1 ⟨u, rfl, hU, hb1⟩; refine Hid.out ?_)
      have hO1 := HH.out.1.more hb1
      have hS1 : SW w5 w1 := Below.trans hSr (Below.mono hb1 hSr.size)
      have hUL : RowL 1 encE w1 u es := ROwn.rowL hU rtE.len
      have HUB : Hid (∀ k, u.ownBlock = some k → v.ownBlock ≠ some k) := Lib.hid (fun k hk hv => by have h1 := (hU.low hk).1; have h2 := (HH.out.1.low hv).2; omega)
      obtain ⟨AU, cu, rfl, hcu⟩ := hUL
      have HU : Hid (∀ k (hk : k < es.length), ∃ b o, AU = some ⟨b, o, none⟩ ∧ v.ownBlock ≠ some b ∧ w1.cell? ⟨b, o + k, none⟩ = some (.int .i64 es[k])) := Lib.hid (fun k hk => by
        rcases hcu with h | ⟨b, o, h1, h2, h3⟩
        · rw [h] at hk; simp at hk
        · subst h1
          have h4 := h3 k _ 0 _ (List.getElem?_eq_getElem hk) rfl
          rw [Nat.mul_one, Nat.add_zero] at h4
          exact ⟨b, o, rfl, HUB.out b rfl, h4⟩)
      have HJ0 : Hid (FOwn w5.heap.size w1 v (airF p.l i ++ tag (airW ++ decA i) (es.take 0)) ∧ Chg w1 w1 v v ∧ SW w5 w1) := Lib.hid ⟨by simpa [tag] using hO1, Chg.refl _ _, hS1⟩
      have KDc := Lib.hid (rdec_smallB i (by omega))
      clear hcu HUB hU hb1 hO1 hS1 KAi HH z0 z1
      refine Lib.hid ?_
      go_wp2
      go_loopg [3, 6] es.length (fun kq v3 vk wi => ∃ (v2 : Value) (k : Nat), v2 = v3 ∧ vk = .int .i64 k ∧ k + kq = es.length ∧ Hid (FOwn w5.heap.size wi v2 (airF p.l i ++ tag (airW ++ decA i) (es.take k)) ∧ Chg w1 wi v v2 ∧ SW w5 wi))
      case atStart => exact ⟨_, 0, rfl, rfl, by omega, HJ0⟩
      case round =>
        obtain ⟨v2, k, rfl, rfl, hkq, HJ⟩ := hrel
        clear HJ0
        have HKQ := Lib.hid hkq
        have hel4 : es.length ≤ 4 := HEL.out
        by_cases hlt2 : k < es.length
        · clear hkq
          obtain ⟨b, o, rfl, hvb, hcell⟩ := HU.out k hlt2
          have i3 : (k : Int) < (es.length : Int) := by omega
          have hc2 := HJ.out.2.1.cell hcell hvb
          have hv2b : v2.ownBlock ≠ some b := fun h => by
            rcases HJ.out.2.1.own b h with h1 | h1
            · exact hvb h1
            · have := World.block_lt_of_cell? _ _ hcell; simp at this; omega
          have HT := Lib.hid (tag_succ (airW ++ decA i) es k hlt2)
          have HLn : Hid ((airF p.l i ++ tag (airW ++ decA i) (es.take k)).length ≤ 100000000) := Lib.hid (by
            have h1 := HFL.out
            have h2 := HEL.out
            have h3 : (tag (airW ++ decA i) (es.take k)).length = (es.take k).length := List.length_map _
            have h4 := List.length_take_le k es
            rw [List.length_append]
            omega)
          have hadd : ∀ W : World, (Op.stringOp .add ⟨#[97, 105, 114, 112, 111, 114, 116, 32]⟩ (decA i)).run Tryz.prog W = .ok (.string (airW ++ decA i)) W := fun W => run_string_add_sum W _ _ (by have := decA_sizeB i (by omega); have e : (⟨#[97, 105, 114, 112, 111, 114, 116, 32]⟩ : ByteArray).size = 8 := rfl; omega)
          have hO := HJ.out.1.more ((Below.refl _ wr).drew)
          generalize es[k] = x at *
          clear hcell
          have f0 : ∀ W, SX wr v2 W → W.cell? ⟨b, o + k, none⟩ = some (.int .i64 x) := fun W h => SX.cell hc2 hv2b h
          go_wp2
          have hS : (SX wr v2) _ := But.of_below (Below.refl _ _).drew
          refine wp_region_held_drew (S := SX wr v2) (by kernel_rfl) hS (fun _ => ?_)
          refine wpAnyH_take (i := 0) (v := ?vRA0) rfl (by kernel_rfl) (by kernel_rfl) (by kernel_rfl) (fun _ _ _ h => h) (Or.inl ⟨by rfl, ?hyRA0⟩) hS ?restRA0
          case hyRA0 =>
            intro w hSw
            first | (go_simp; done) | (go_simp; with_reducible rfl)
          try simp only [Act.put, List.setIfInBounds_toArray, List.set_cons_zero, List.set_cons_succ]
          refine wpAnyH_take (i := 1) (v := ?vRA1) rfl (by kernel_rfl) (by kernel_rfl) (by kernel_rfl) (fun _ _ _ h => h) (Or.inl ⟨by rfl, ?hyRA1⟩) hS ?restRA1
          case hyRA1 =>
            intro w hSw
            first | (go_simp; done) | (go_simp; with_reducible rfl)
          try simp only [Act.put, List.setIfInBounds_toArray, List.set_cons_zero, List.set_cons_succ]
          refine wpAnyH_take (i := 2) (v := ?vRA2) rfl (by kernel_rfl) (by kernel_rfl) (by kernel_rfl) (fun _ _ _ h => h) (Or.inl ⟨by rfl, ?hyRA2⟩) hS ?restRA2
          case hyRA2 =>
            intro w hSw
            first | (go_simp; done) | (go_simp; with_reducible rfl)
          try simp only [Act.put, List.setIfInBounds_toArray, List.set_cons_zero, List.set_cons_succ]
          refine wpAnyH_take (i := 3) (v := ?vRA3) rfl (by kernel_rfl) (by kernel_rfl) (by kernel_rfl) (fun _ _ _ h => h) (Or.inl ⟨by rfl, ?hyRA3⟩) hS ?restRA3
          case hyRA3 =>
            intro w hSw
            have k0 := f0 w hSw
            first | (go_simp; done) | (go_simp; with_reducible rfl)
          try simp only [Act.put, List.setIfInBounds_toArray, List.set_cons_zero, List.set_cons_succ]
          refine wpAnyH_take (i := 4) (v := ?vRA4) rfl (by kernel_rfl) (by kernel_rfl) (by kernel_rfl) (fun _ _ _ h => h) (Or.inl ⟨by rfl, ?hyRA4⟩) hS ?restRA4
          case hyRA4 =>
            intro w hSw
            have k0 := f0 w hSw
            first | (go_simp; done) | (go_simp; with_reducible rfl)
          try simp only [Act.put, List.setIfInBounds_toArray, List.set_cons_zero, List.set_cons_succ]
          refine wpAnyH_take (i := 5) (v := ?vRA5) rfl (by kernel_rfl) (by kernel_rfl) (by kernel_rfl) (fun _ _ _ h => h) (Or.inl ⟨by rfl, ?hyRA5⟩) hS ?restRA5
          case hyRA5 =>
            intro w hSw
            first | (go_simp; done) | (go_simp; with_reducible rfl)
          try simp only [Act.put, List.setIfInBounds_toArray, List.set_cons_zero, List.set_cons_succ]
          refine wpAnyH_ready (rs := [6]) (by kernel_rfl) (by simp) ?_
          refine AllReadyH.cons rfl (fun K hK => ?_) AllReadyH.nil
          go_simp
          go_wp2_with ((go_at_call 42; refine (KDc.out _).mono ?_; rintro e w' ⟨rfl, hb'⟩; have hO := hO.more hb'; have hS := hS.on hb'))
          refine hK.out _ _ hS (fun _ => ?_)
          clear hK K
          refine wpAnyH_take (i := 7) (v := ?vRA7) rfl (by kernel_rfl) (by kernel_rfl) (by kernel_rfl) (fun _ _ _ h => h) (Or.inl ⟨by rfl, ?hyRA7⟩) hS ?restRA7
          case hyRA7 =>
            intro w hSw
            have kadd := hadd w
            first | (go_simp; done) | (go_simp; with_reducible rfl)
          try simp only [Act.put, List.setIfInBounds_toArray, List.set_cons_zero, List.set_cons_succ]
          refine wpAnyH_take (i := 8) (v := ?vRA8) rfl (by kernel_rfl) (by kernel_rfl) (by kernel_rfl) (fun _ _ _ h => h) (Or.inl ⟨by rfl, ?hyRA8⟩) hS ?restRA8
          case hyRA8 =>
            intro w hSw
            first | (go_simp; done) | (go_simp; with_reducible rfl)
          try simp only [Act.put, List.setIfInBounds_toArray, List.set_cons_zero, List.set_cons_succ]
          refine wpAnyH_ready (rs := [9]) (by kernel_rfl) (by simp) ?_
          refine AllReadyH.cons rfl (fun K hK => ?_) AllReadyH.nil
          go_simp
          have hSp := hS
          have hS := hS.on (bel_alloc _ (.cells #[.int .i64 x, .string (airW ++ decA i)] fltT))
          refine hK.out _ _ hS (fun _ => ?_)
          clear hK K
          refine wpAnyH_ready (rs := [10]) (by kernel_rfl) (by simp) ?_
          refine AllReadyH.cons rfl (fun K hK => ?_) AllReadyH.nil
          refine step_rapp rtF rfl _ _ rfl hO rfl (bel_alloc _ _) _ (x, airW ++ decA i) _ rfl (cs := #[.int .i64 x, .string (airW ++ decA i)]) rfl (heap_alloc_new _ _) HLn.out ?_
          intro v8 w8 hO8 hC8
          go_simp
          have hS := hSp.trans hC8.but (fun _ _ h => h)
          refine hK.out _ _ hS (fun _ => ?_)
          clear hK K
          refine wpAnyH_take (i := 11) (v := ?vRA11) rfl (by kernel_rfl) (by kernel_rfl) (by kernel_rfl) (fun _ _ _ h => h) (Or.inl ⟨by rfl, ?hyRA11⟩) hS ?restRA11
          case hyRA11 =>
            intro w hSw
            first | (go_simp; done) | (go_simp; with_reducible rfl)
          try simp only [Act.put, List.setIfInBounds_toArray, List.set_cons_zero, List.set_cons_succ]
          refine wpAnyH_done (by kernel_rfl) ?_ _
          simp only [List.getElem_toArray, List.getElem_cons_succ, List.getElem_cons_zero, List.set_cons_zero, List.set_cons_succ]
          have HX : Hid (FOwn w5.heap.size w8 v8 (airF p.l i ++ tag (airW ++ decA i) (es.take (k + 1))) ∧ Chg w1 w8 v v8 ∧ SW w5 w8) := Lib.hid ⟨by rw [HT.out, ← List.append_assoc]; exact hO8, HJ.out.2.1.trans ⟨hS, fun g hg => by
              rcases hC8.own g hg with h1 | h1
              · exact .inl h1
              · exact .inr (Nat.le_trans hSp.size h1)⟩, Below.trans HJ.out.2.2 (hS.below HJ.out.1.base (fun k hk hv => by have := (HJ.out.1.low hv).1; omega))⟩
          clear hO8 hC8 hS hSp hO
          go_wp2
          go_roundg (es.length - (k + 1))
          case measure => have := HKQ.out; omega
          case rel => exact ⟨_, k + 1, rfl, by go_num, by omega, HX⟩
        · have HX : Hid (FOwn w5.heap.size wr v2 (airF p.l (i + 1)) ∧ SW w5 wr) := Lib.hid ⟨by
              rw [HS.out]
              have := HJ.out.1
              rwa [List.take_of_length_le (by omega)] at this, HJ.out.2.2⟩
          clear HJ hkq
          go_wp2
          go_roundg (p.l.length - (i + 1))
          case measure => have := HIK.out; omega
          case rel => exact ⟨_, i + 1, rfl, by go_num, by omega, HX⟩
    · have HN2 : Hid (FOwn w5.heap.size wr v (airF p.l p.l.length ++ dstF p.l p.ds 0) ∧ SW w5 wr) := Lib.hid ⟨by
          rw [dstF_zero, List.append_nil, ← show i = p.l.length by omega]
          exact HH.out.1, hSr⟩
      clear hik HH
      go_wp2
      go_loopg [3, 7] p.ds.length (fun kx v3 vi wr => ∃ (v : Value) (i : Nat), v = v3 ∧ vi = .int .i64 i ∧ i + kx = p.ds.length ∧ Hid (FOwn w5.heap.size wr v (airF p.l p.l.length ++ dstF p.l p.ds i) ∧ SW w5 wr))
      case atStart => exact ⟨_, 0, rfl, rfl, by omega, HN2⟩
      case round =>
        obtain ⟨v, i, rfl, rfl, hik, HH⟩ := hrel
        have HIK := Lib.hid hik
        have hSr : SW w5 wr := HH.out.2
        have z0 := y0 _ hSr
        have z1 := y1 _ hSr
        by_cases hlt : i < p.ds.length
        · clear hik
          obtain ⟨a, hia⟩ : ∃ a, p.ds[i]? = some a := ⟨_, List.getElem?_eq_getElem hlt⟩
          have i2 : (i : Int) < (p.ds.length : Int) := by omega
          have KAi := Lib.hid (KD.out i a wr hSr hia)
          have HS := Lib.hid (dstF_succ p.l p.ds i a hia)
          have HFL : Hid ((airF p.l p.l.length ++ dstF p.l p.ds i).length ≤ 20000000) := Lib.hid (by have := airF_le p.l p.l.length; have := dstF_le p.l p.ds i; rw [List.length_append]; omega)
          have HEL : Hid ((okE (dstE p.l (p.ds.take i) a)).length ≤ 4) := Lib.hid (Nat.le_trans (okE_le _) (by rw [dstE_len]; omega))
          have hpk : pick (dstW ++ decA i) (dstE p.l (p.ds.take i) a) = tag (dstW ++ decA i) (okE (dstE p.l (p.ds.take i) a)) := rfl
          rw [hpk] at HS
          clear hia hpk
          generalize okE (dstE p.l (p.ds.take i) a) = es at *
          go_wp2_with (go_at_call 57; refine KAi.out.mono ?_; rintro e w1 ⟨u, rfl, hU, hb1⟩; refine Hid.out ?_)
          have hO1 := HH.out.1.more hb1
          have hS1 : SW w5 w1 := Below.trans hSr (Below.mono hb1 hSr.size)
          have hUL : RowL 1 encE w1 u es := ROwn.rowL hU rtE.len
          have HUB : Hid (∀ k, u.ownBlock = some k → v.ownBlock ≠ some k) := Lib.hid (fun k hk hv => by have h1 := (hU.low hk).1; have h2 := (HH.out.1.low hv).2; omega)
          obtain ⟨AU, cu, rfl, hcu⟩ := hUL
          have HU : Hid (∀ k (hk : k < es.length), ∃ b o, AU = some ⟨b, o, none⟩ ∧ v.ownBlock ≠ some b ∧ w1.cell? ⟨b, o + k, none⟩ = some (.int .i64 es[k])) := Lib.hid (fun k hk => by
            rcases hcu with h | ⟨b, o, h1, h2, h3⟩
            · rw [h] at hk; simp at hk
            · subst h1
              have h4 := h3 k _ 0 _ (List.getElem?_eq_getElem hk) rfl
              rw [Nat.mul_one, Nat.add_zero] at h4
              exact ⟨b, o, rfl, HUB.out b rfl, h4⟩)
          have HJ0 : Hid (FOwn w5.heap.size w1 v (airF p.l p.l.length ++ dstF p.l p.ds i ++ tag (dstW ++ decA i) (es.take 0)) ∧ Chg w1 w1 v v ∧ SW w5 w1) := Lib.hid ⟨by simpa [tag] using hO1, Chg.refl _ _, hS1⟩
          have KDc := Lib.hid (rdec_smallB i (by omega))
          clear hcu HUB hU hb1 hO1 hS1 KAi HH z0 z1
          refine Lib.hid ?_
          go_wp2
          go_loopg [3, 9] es.length (fun kq v3 vk wi => ∃ (v2 : Value) (k : Nat), v2 = v3 ∧ vk = .int .i64 k ∧ k + kq = es.length ∧ Hid (FOwn w5.heap.size wi v2 (airF p.l p.l.length ++ dstF p.l p.ds i ++ tag (dstW ++ decA i) (es.take k)) ∧ Chg w1 wi v v2 ∧ SW w5 wi))
          case atStart => exact ⟨_, 0, rfl, rfl, by omega, HJ0⟩
          case round =>
            obtain ⟨v2, k, rfl, rfl, hkq, HJ⟩ := hrel
            clear HJ0
            have HKQ := Lib.hid hkq
            have hel4 : es.length ≤ 4 := HEL.out
            by_cases hlt2 : k < es.length
            · clear hkq
              obtain ⟨b, o, rfl, hvb, hcell⟩ := HU.out k hlt2
              have i3 : (k : Int) < (es.length : Int) := by omega
              have hc2 := HJ.out.2.1.cell hcell hvb
              have hv2b : v2.ownBlock ≠ some b := fun h => by
                rcases HJ.out.2.1.own b h with h1 | h1
                · exact hvb h1
                · have := World.block_lt_of_cell? _ _ hcell; simp at this; omega
              have HT := Lib.hid (tag_succ (dstW ++ decA i) es k hlt2)
              have HLn : Hid ((airF p.l p.l.length ++ dstF p.l p.ds i ++ tag (dstW ++ decA i) (es.take k)).length ≤ 100000000) := Lib.hid (by
                have h1 := HFL.out
                have h2 := HEL.out
                have h3 : (tag (dstW ++ decA i) (es.take k)).length = (es.take k).length := List.length_map _
                have h4 := List.length_take_le k es
                rw [List.length_append]
                omega)
              have hadd : ∀ W : World, (Op.stringOp .add ⟨#[100, 105, 115, 116, 97, 110, 99, 101, 32]⟩ (decA i)).run Tryz.prog W = .ok (.string (dstW ++ decA i)) W := fun W => run_string_add_sum W _ _ (by have := decA_sizeB i (by omega); have e : (⟨#[100, 105, 115, 116, 97, 110, 99, 101, 32]⟩ : ByteArray).size = 9 := rfl; omega)
              have hO := HJ.out.1.more ((Below.refl _ wr).drew)
              generalize es[k] = x at *
              clear hcell
              have f0 : ∀ W, SX wr v2 W → W.cell? ⟨b, o + k, none⟩ = some (.int .i64 x) := fun W h => SX.cell hc2 hv2b h
              go_wp2
              have hS : (SX wr v2) _ := But.of_below (Below.refl _ _).drew
              refine wp_region_held_drew (S := SX wr v2) (by kernel_rfl) hS (fun _ => ?_)
              refine wpAnyH_take (i := 0) (v := ?vRB0) rfl (by kernel_rfl) (by kernel_rfl) (by kernel_rfl) (fun _ _ _ h => h) (Or.inl ⟨by rfl, ?hyRB0⟩) hS ?restRB0
              case hyRB0 =>
                intro w hSw
                first | (go_simp; done) | (go_simp; with_reducible rfl)
              try simp only [Act.put, List.setIfInBounds_toArray, List.set_cons_zero, List.set_cons_succ]
              refine wpAnyH_take (i := 1) (v := ?vRB1) rfl (by kernel_rfl) (by kernel_rfl) (by kernel_rfl) (fun _ _ _ h => h) (Or.inl ⟨by rfl, ?hyRB1⟩) hS ?restRB1
              case hyRB1 =>
                intro w hSw
                first | (go_simp; done) | (go_simp; with_reducible rfl)
              try simp only [Act.put, List.setIfInBounds_toArray, List.set_cons_zero, List.set_cons_succ]
              refine wpAnyH_take (i := 2) (v := ?vRB2) rfl (by kernel_rfl) (by kernel_rfl) (by kernel_rfl) (fun _ _ _ h => h) (Or.inl ⟨by rfl, ?hyRB2⟩) hS ?restRB2
              case hyRB2 =>
                intro w hSw
                first | (go_simp; done) | (go_simp; with_reducible rfl)
              try simp only [Act.put, List.setIfInBounds_toArray, List.set_cons_zero, List.set_cons_succ]
              refine wpAnyH_take (i := 3) (v := ?vRB3) rfl (by kernel_rfl) (by kernel_rfl) (by kernel_rfl) (fun _ _ _ h => h) (Or.inl ⟨by rfl, ?hyRB3⟩) hS ?restRB3
              case hyRB3 =>
                intro w hSw
                have k0 := f0 w hSw
                first | (go_simp; done) | (go_simp; with_reducible rfl)
              try simp only [Act.put, List.setIfInBounds_toArray, List.set_cons_zero, List.set_cons_succ]
              refine wpAnyH_take (i := 4) (v := ?vRB4) rfl (by kernel_rfl) (by kernel_rfl) (by kernel_rfl) (fun _ _ _ h => h) (Or.inl ⟨by rfl, ?hyRB4⟩) hS ?restRB4
              case hyRB4 =>
                intro w hSw
                have k0 := f0 w hSw
                first | (go_simp; done) | (go_simp; with_reducible rfl)
              try simp only [Act.put, List.setIfInBounds_toArray, List.set_cons_zero, List.set_cons_succ]
              refine wpAnyH_take (i := 5) (v := ?vRB5) rfl (by kernel_rfl) (by kernel_rfl) (by kernel_rfl) (fun _ _ _ h => h) (Or.inl ⟨by rfl, ?hyRB5⟩) hS ?restRB5
              case hyRB5 =>
                intro w hSw
                first | (go_simp; done) | (go_simp; with_reducible rfl)
              try simp only [Act.put, List.setIfInBounds_toArray, List.set_cons_zero, List.set_cons_succ]
              refine wpAnyH_ready (rs := [6]) (by kernel_rfl) (by simp) ?_
              refine AllReadyH.cons rfl (fun K hK => ?_) AllReadyH.nil
              go_simp
              go_wp2_with ((go_at_call 42; refine (KDc.out _).mono ?_; rintro e w' ⟨rfl, hb'⟩; have hO := hO.more hb'; have hS := hS.on hb'))
              refine hK.out _ _ hS (fun _ => ?_)
              clear hK K
              refine wpAnyH_take (i := 7) (v := ?vRB7) rfl (by kernel_rfl) (by kernel_rfl) (by kernel_rfl) (fun _ _ _ h => h) (Or.inl ⟨by rfl, ?hyRB7⟩) hS ?restRB7
              case hyRB7 =>
                intro w hSw
                have kadd := hadd w
                first | (go_simp; done) | (go_simp; with_reducible rfl)
              try simp only [Act.put, List.setIfInBounds_toArray, List.set_cons_zero, List.set_cons_succ]
              refine wpAnyH_take (i := 8) (v := ?vRB8) rfl (by kernel_rfl) (by kernel_rfl) (by kernel_rfl) (fun _ _ _ h => h) (Or.inl ⟨by rfl, ?hyRB8⟩) hS ?restRB8
              case hyRB8 =>
                intro w hSw
                first | (go_simp; done) | (go_simp; with_reducible rfl)
              try simp only [Act.put, List.setIfInBounds_toArray, List.set_cons_zero, List.set_cons_succ]
              refine wpAnyH_ready (rs := [9]) (by kernel_rfl) (by simp) ?_
              refine AllReadyH.cons rfl (fun K hK => ?_) AllReadyH.nil
              go_simp
              have hSp := hS
              have hS := hS.on (bel_alloc _ (.cells #[.int .i64 x, .string (dstW ++ decA i)] fltT))
              refine hK.out _ _ hS (fun _ => ?_)
              clear hK K
              refine wpAnyH_ready (rs := [10]) (by kernel_rfl) (by simp) ?_
              refine AllReadyH.cons rfl (fun K hK => ?_) AllReadyH.nil
              refine step_rapp rtF rfl _ _ rfl hO rfl (bel_alloc _ _) _ (x, dstW ++ decA i) _ rfl (cs := #[.int .i64 x, .string (dstW ++ decA i)]) rfl (heap_alloc_new _ _) HLn.out ?_
              intro v8 w8 hO8 hC8
              go_simp
              have hS := hSp.trans hC8.but (fun _ _ h => h)
              refine hK.out _ _ hS (fun _ => ?_)
              clear hK K
              refine wpAnyH_take (i := 11) (v := ?vRB11) rfl (by kernel_rfl) (by kernel_rfl) (by kernel_rfl) (fun _ _ _ h => h) (Or.inl ⟨by rfl, ?hyRB11⟩) hS ?restRB11
              case hyRB11 =>
                intro w hSw
                first | (go_simp; done) | (go_simp; with_reducible rfl)
              try simp only [Act.put, List.setIfInBounds_toArray, List.set_cons_zero, List.set_cons_succ]
              refine wpAnyH_done (by kernel_rfl) ?_ _
              simp only [List.getElem_toArray, List.getElem_cons_succ, List.getElem_cons_zero, List.set_cons_zero, List.set_cons_succ]
              have HX : Hid (FOwn w5.heap.size w8 v8 (airF p.l p.l.length ++ dstF p.l p.ds i ++ tag (dstW ++ decA i) (es.take (k + 1))) ∧ Chg w1 w8 v v8 ∧ SW w5 w8) := Lib.hid ⟨by rw [HT.out, ← List.append_assoc]; exact hO8, HJ.out.2.1.trans ⟨hS, fun g hg => by
                  rcases hC8.own g hg with h1 | h1
                  · exact .inl h1
                  · exact .inr (Nat.le_trans hSp.size h1)⟩, Below.trans HJ.out.2.2 (hS.below HJ.out.1.base (fun k hk hv => by have := (HJ.out.1.low hv).1; omega))⟩
              clear hO8 hC8 hS hSp hO
              go_wp2
              go_roundg (es.length - (k + 1))
              case measure => have := HKQ.out; omega
              case rel => exact ⟨_, k + 1, rfl, by go_num, by omega, HX⟩
            · have HX : Hid (FOwn w5.heap.size wr v2 (airF p.l p.l.length ++ dstF p.l p.ds (i + 1)) ∧ SW w5 wr) := Lib.hid ⟨by
                  rw [HS.out]
                  have := HJ.out.1
                  rwa [List.take_of_length_le (by omega), List.append_assoc] at this, HJ.out.2.2⟩
              clear HJ hkq
              go_wp2
              go_roundg (p.ds.length - (i + 1))
              case measure => have := HIK.out; omega
              case rel => exact ⟨_, i + 1, rfl, by go_num, by omega, HX⟩
        · have HR : Hid (FOwn w.heap.size wr v (chkP p) ∧ Below w.heap.size w wr) := Lib.hid ⟨⟨by
              rw [HC.out, ← show i = p.ds.length by omega]
              exact HH.out.1.own.mono hb0.size, Nat.le_trans hb0.size hSr.size⟩, hb0.trans (Below.mono hSr hb0.size)⟩
          clear hik HH
          go_wp2
          go_ret
          exact ⟨v, rfl, HR.out⟩

end Go.Proofs.YtdpcjafkahhecaaGreatDoor
