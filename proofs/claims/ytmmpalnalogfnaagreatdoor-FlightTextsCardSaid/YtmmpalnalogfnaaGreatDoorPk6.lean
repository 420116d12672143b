/- Words and walks that the laws below ask: FliK, FliM, PerQB, TxtP, FliN. -/
import Derived.Test.YtmmpalnalogfnaaGreatDoorPk2
import Derived.Test.YtmmpalnalogfnaaGreatDoorPk3
import Derived.Test.YtmmpalnalogfnaaGreatDoorPk4
import Derived.Test.YtmmpalnalogfnaaGreatDoorPk5
/- Walk of checkPrint. -/
namespace Go.Proofs.YtmmpalnalogfnaaGreatDoor
open Go.RowKit Go.Shelf
set_option linter.unusedSimpArgs false
set_option linter.unusedVariables false

def namB (x : Lg) : Bool := capsB x.f 3 && (capsB x.t 3 && codeB x.eq 3 3)
def timB (x : Lg) : Bool := minB x.dep && minB x.arr
def lgE : List Lg → Int
  | [] => 0
  | x :: r => if namB x = true then (if timB x = true then lgE r else 2) else 5
def prE (f : FV) : Int := if carB f.car = true then (if numB f.num = true then (if Per.errQ (f.pf, f.pt, f.pd) = 0 then (if cntB f.lg.length = true then lgE f.lg else 4) else Per.errQ (f.pf, f.pt, f.pd)) else 2) else 5
theorem lgE_at {l : List Lg} {k : Nat} {x : Lg} (h : l[k]? = some x) : lgE (l.drop k) = if namB x = true then (if timB x = true then lgE (l.drop (k + 1)) else 2) else 5 := by
  obtain ⟨hlt, rfl⟩ := List.getElem?_eq_some_iff.1 h
  rw [List.drop_eq_getElem_cons hlt]
  rfl

set_option maxRecDepth 100000 in
set_option maxHeartbeats 8000000 in
theorem checkPrint_any (f : FV) (w : World) (hG : LegL w (.slice f.A f.lg.length f.c) f.lg) (hc0 : f.car.size ≤ maxLen) (ho : ∀ x ∈ f.lg, OkG x) (hn : f.lg.length ≤ 1000000) :
    Calls Tryz.prog 34 #[encFl f] w fun e w' => e = .returned (.int .i64 (prE f)) ∧ Below w.heap.size w w' := by
  obtain ⟨car, num, pf, pt, pd, A, c, lg⟩ := f
  dsimp only at *
  obtain ⟨E0, hE0⟩ : ∃ E0, E0 = prE ⟨car, num, pf, pt, pd, A, c, lg⟩ := ⟨_, rfl⟩
  have HE := Lib.hid hE0
  rw [← hE0]
  clear hE0
  have hb0 := bel_alloc w (.cells #[.string car, .int .i64 num, .int .i64 pf, .int .i64 pt, .int .i64 pd, .slice A lg.length c] fliT)
  have q5 := (cells_new w #[.string car, .int .i64 num, .int .i64 pf, .int .i64 pt, .int .i64 pd, .slice A lg.length c] fliT 5).trans (show _ = some (Value.slice A lg.length c) from rfl)
  have hG5 := hG.more hb0
  have HO := Lib.hid ho
  have KC := Lib.hid (fun w => carrier_any car w hc0)
  have KN := Lib.hid (isNumber7_any num)
  have KP := Lib.hid (Per.check_any pf pt pd)
  have KL := Lib.hid (isLegCount_any lg.length)
  clear hG ho
  cases h1 : carB car with
  | false =>
    rw [h1] at KC
    have HR : Hid (E0 = 5) := Lib.hid (by rw [HE.out]; unfold prE; dsimp only; rw [if_neg (by rw [h1]; simp)])
    clear h1
    go_enter Tryz.func34, Tryz.ntmps34
    go_wp2_with (go_at_call 64; refine (KC.out _).mono ?_; rintro e w1 ⟨rfl, rfl⟩)
    go_ret
    exact ⟨by rw [HR.out]; rfl, hb0⟩
  | true =>
  rw [h1] at KC
  cases h2 : numB num with
  | false =>
    rw [h2] at KN
    have HR : Hid (E0 = 2) := Lib.hid (by rw [HE.out]; unfold prE; dsimp only; rw [if_pos h1, if_neg (by rw [h2]; simp)])
    clear h1 h2
    go_enter Tryz.func34, Tryz.ntmps34
    go_wp2_with (first | (go_at_call 86; refine (KN.out _).mono ?_; rintro e w2 ⟨rfl, rfl⟩) | (go_at_call 64; refine (KC.out _).mono ?_; rintro e w1 ⟨rfl, rfl⟩))
    go_ret
    exact ⟨by rw [HR.out]; rfl, hb0⟩
  | true =>
  rw [h2] at KN
  obtain ⟨eq, hq⟩ : ∃ eq, eq = Per.errQ (pf, pt, pd) := ⟨_, rfl⟩
  rw [← hq] at KP
  cases h3 : (eq != 0) with
  | true =>
    have HR : Hid (E0 = eq) := Lib.hid (by rw [HE.out]; unfold prE; dsimp only; rw [if_pos h1, if_pos h2, ← hq, if_neg (by simpa using h3)])
    clear h1 h2 hq
    go_enter Tryz.func34, Tryz.ntmps34
    go_wp2_with (first | (go_at_call 66; refine (KP.out _).mono ?_; rintro e w3 ⟨rfl, hb3⟩) | (go_at_call 86; refine (KN.out _).mono ?_; rintro e w2 ⟨rfl, rfl⟩) | (go_at_call 64; refine (KC.out _).mono ?_; rintro e w1 ⟨rfl, rfl⟩))
    go_ret
    exact ⟨by rw [HR.out]; rfl, hb0.trans (Below.mono hb3 hb0.size)⟩
  | false =>
  have h3' : eq = 0 := by simpa using h3
  cases h4 : cntB lg.length with
  | false =>
    rw [h4] at KL
    have HR : Hid (E0 = 4) := Lib.hid (by rw [HE.out]; unfold prE; dsimp only; rw [if_pos h1, if_pos h2, ← hq, if_pos h3', if_neg (by rw [h4]; simp)])
    clear h1 h2 hq h3' h4
    go_enter Tryz.func34, Tryz.ntmps34
    go_wp2_with (first | (go_at_call 87; refine (KL.out _).mono ?_; rintro e w4 ⟨rfl, rfl⟩) | (go_at_call 66; refine (KP.out _).mono ?_; rintro e w3 ⟨rfl, hb3⟩; have r5 := bel_cell hb3 q5) | (go_at_call 86; refine (KN.out _).mono ?_; rintro e w2 ⟨rfl, rfl⟩) | (go_at_call 64; refine (KC.out _).mono ?_; rintro e w1 ⟨rfl, rfl⟩))
    go_ret
    exact ⟨by rw [HR.out]; rfl, hb0.trans (Below.mono hb3 hb0.size)⟩
  | true =>
  rw [h4] at KL
  have HT : Hid (E0 = lgE lg) := Lib.hid (by rw [HE.out]; unfold prE; dsimp only; rw [if_pos h1, if_pos h2, ← hq, if_pos h3', if_pos h4])
  clear h1 h2 hq h3' h4
  have HQ := Lib.hid hG5
  clear hG5
  go_enter Tryz.func34, Tryz.ntmps34
  go_wp2_with (first | (go_at_call 87; refine (KL.out _).mono ?_; rintro e w4 ⟨rfl, rfl⟩) | (go_at_call 66; refine (KP.out _).mono ?_; rintro e w3 ⟨rfl, hb3⟩; have r5 := bel_cell hb3 q5) | (go_at_call 86; refine (KN.out _).mono ?_; rintro e w2 ⟨rfl, rfl⟩) | (go_at_call 64; refine (KC.out _).mono ?_; rintro e w1 ⟨rfl, rfl⟩))
  have hS0 : Below w.heap.size w w3 := hb0.trans (Below.mono hb3 hb0.size)
  have HG3 := Lib.hid (HQ.out.more hb3)
  clear HE
  go_loopw [28] (fun vi wr => ∃ k : Nat, k ≤ lg.length ∧ vi = .int .i64 k ∧ Hid (E0 = lgE (lg.drop k)) ∧ SW w3 wr) (fun vi _ => lg.length - (intOf vi).toNat)
  case atStart => exact ⟨0, Nat.zero_le _, rfl, HT, Below.refl _ _⟩
  case round =>
    obtain ⟨k, hk, rfl, HK, hS⟩ := hrel
    have hSw : Below w.heap.size w wr := hS0.trans (Below.mono hS hS0.size)
    by_cases hlt : k < lg.length
    · obtain ⟨b, o, x, rfl, _, hx, c0, c1, c2, c3, c4⟩ := LegL.get (HG3.out.more hS) hlt
      have hox := HO.out x (List.mem_of_getElem? hx)
      have HK2 := Lib.hid (HK.out.trans (lgE_at hx))
      have i2 : (k : Int) < (lg.length : Int) := by omega
      have hb6 := bel_alloc wr (.cells #[.string x.f, .string x.t, .int .i64 x.dep, .int .i64 x.arr, .string x.eq] legT)
      have hSx : Below w.heap.size w (wr.alloc (.cells #[.string x.f, .string x.t, .int .i64 x.dep, .int .i64 x.arr, .string x.eq] legT)) := hSw.trans (hb6.mono hSw.size)
      have hSy : SW w3 (wr.alloc (.cells #[.string x.f, .string x.t, .int .i64 x.dep, .int .i64 x.arr, .string x.eq] legT)) := Below.trans hS (hb6.mono hS.size)
      have K1 := Lib.hid (fun w => airp_any x.f w hox.f)
      have K2 := Lib.hid (fun w => airp_any x.t w hox.t)
      have K3 := Lib.hid (fun w => isEquip_any x.eq w hox.eq)
      have K4 := Lib.hid (isMinute_any x.dep)
      have K5 := Lib.hid (isMinute_any x.arr)
      clear hx hox
      cases b1 : capsB x.f 3 with
      | false =>
        rw [b1] at K1
        have HR : Hid (E0 = 5) := Lib.hid (by rw [HK2.out]; unfold namB timB; simp [b1])
        clear HK2 HK b1
        go_wp2_with (first | (go_at_call 93; with_reducible refine (K1.out _).mono ?_; rintro e w' ⟨rfl, rfl⟩))
        go_ret
        exact ⟨by rw [HR.out]; rfl, hSx⟩
      | true =>
        rw [b1] at K1
        cases b2 : capsB x.t 3 with
        | false =>
          rw [b2] at K2
          have HR : Hid (E0 = 5) := Lib.hid (by rw [HK2.out]; unfold namB timB; simp [b1, b2])
          clear HK2 HK b1 b2
          go_wp2_with (first | (go_at_call 93; with_reducible refine (K1.out _).mono ?_; rintro e w' ⟨rfl, rfl⟩) | (go_at_call 93; with_reducible refine (K2.out _).mono ?_; rintro e w' ⟨rfl, rfl⟩))
          go_ret
          exact ⟨by rw [HR.out]; rfl, hSx⟩
        | true =>
          rw [b2] at K2
          cases b3 : codeB x.eq 3 3 with
          | false =>
            rw [b3] at K3
            have HR : Hid (E0 = 5) := Lib.hid (by rw [HK2.out]; unfold namB timB; simp [b1, b2, b3])
            clear HK2 HK b1 b2 b3
            go_wp2_with (first | (go_at_call 93; with_reducible refine (K1.out _).mono ?_; rintro e w' ⟨rfl, rfl⟩) | (go_at_call 93; with_reducible refine (K2.out _).mono ?_; rintro e w' ⟨rfl, rfl⟩) | (go_at_call 88; refine (K3.out _).mono ?_; rintro e w' ⟨rfl, rfl⟩))
            go_ret
            exact ⟨by rw [HR.out]; rfl, hSx⟩
          | true =>
            rw [b3] at K3
            cases b4 : minB x.dep with
            | false =>
              rw [b4] at K4
              have HR : Hid (E0 = 2) := Lib.hid (by rw [HK2.out]; unfold namB timB; simp [b1, b2, b3, b4])
              clear HK2 HK b1 b2 b3 b4
              go_wp2_with (first | (go_at_call 93; with_reducible refine (K1.out _).mono ?_; rintro e w' ⟨rfl, rfl⟩) | (go_at_call 93; with_reducible refine (K2.out _).mono ?_; rintro e w' ⟨rfl, rfl⟩) | (go_at_call 88; refine (K3.out _).mono ?_; rintro e w' ⟨rfl, rfl⟩) | (go_at_call 91; with_reducible refine (K4.out _).mono ?_; rintro e w' ⟨rfl, rfl⟩))
              go_ret
              exact ⟨by rw [HR.out]; rfl, hSx⟩
            | true =>
              rw [b4] at K4
              cases b5 : minB x.arr with
              | false =>
                rw [b5] at K5
                have HR : Hid (E0 = 2) := Lib.hid (by rw [HK2.out]; unfold namB timB; simp [b1, b2, b3, b4, b5])
                clear HK2 HK b1 b2 b3 b4 b5
                go_wp2_with (first | (go_at_call 93; with_reducible refine (K1.out _).mono ?_; rintro e w' ⟨rfl, rfl⟩) | (go_at_call 93; with_reducible refine (K2.out _).mono ?_; rintro e w' ⟨rfl, rfl⟩) | (go_at_call 88; refine (K3.out _).mono ?_; rintro e w' ⟨rfl, rfl⟩) | (go_at_call 91; with_reducible refine (K4.out _).mono ?_; rintro e w' ⟨rfl, rfl⟩) | (go_at_call 91; with_reducible refine (K5.out _).mono ?_; rintro e w' ⟨rfl, rfl⟩))
                go_ret
                exact ⟨by rw [HR.out]; rfl, hSx⟩
              | true =>
                rw [b5] at K5
                have HR : Hid (E0 = lgE (lg.drop (k + 1))) := Lib.hid (by rw [HK2.out]; unfold namB timB; simp [b1, b2, b3, b4, b5])
                clear HK2 HK b1 b2 b3 b4 b5
                go_wp2_with (first | (go_at_call 93; with_reducible refine (K1.out _).mono ?_; rintro e w' ⟨rfl, rfl⟩) | (go_at_call 93; with_reducible refine (K2.out _).mono ?_; rintro e w' ⟨rfl, rfl⟩) | (go_at_call 88; refine (K3.out _).mono ?_; rintro e w' ⟨rfl, rfl⟩) | (go_at_call 91; with_reducible refine (K4.out _).mono ?_; rintro e w' ⟨rfl, rfl⟩) | (go_at_call 91; with_reducible refine (K5.out _).mono ?_; rintro e w' ⟨rfl, rfl⟩))
                go_roundw
                case rel => exact ⟨k + 1, by omega, by go_num, HR, hSy⟩
                case measure => simp [intOf]; omega
    · have HR : Hid (E0 = 0) := Lib.hid (by rw [HK.out, List.drop_of_length_le (by omega)]; rfl)
      go_wp2
      go_ret
      exact ⟨by rw [HR.out]; rfl, hSw⟩

end Go.Proofs.YtmmpalnalogfnaaGreatDoor

/- Plain facts on flights as text. -/
namespace Go.Proofs.YtmmpalnalogfnaaGreatDoor
open Go.RowKit Go.Shelf
set_option linter.unusedSimpArgs false
set_option linter.unusedVariables false

def decT (n : Int) : ByteArray := ⟨(Lib.itoa n).toArray⟩
def lgW (x : Lg) : List ByteArray := [x.f, x.t, decT x.dep, decT x.arr, x.eq]
def perT (f : FV) : ByteArray := ⟨(Per.perL (f.pf, f.pt, f.pd)).toArray⟩
/-- the words of a flight with its first k legs -/
def prW (f : FV) (k : Nat) : List ByteArray := [f.car, decT f.num, perT f] ++ (f.lg.take k).flatMap lgW
def prT (f : FV) : ByteArray := ⟨(joinL (bytesOf (prW f f.lg.length))).toArray⟩
/-- what Print returns -/
def prS (f : FV) : ByteArray := if prE f = 0 then prT f else noB
theorem prW_succ {f : FV} {k : Nat} {x : Lg} (h : f.lg[k]? = some x) : prW f (k + 1) = prW f k ++ lgW x := by
  unfold prW
  rw [List.take_add_one, h, List.flatMap_append, List.append_assoc]
  simp
theorem flat_len (l : List Lg) : (l.flatMap lgW).length = l.length * 5 := by
  induction l with
  | nil => rfl
  | cons x r ih => rw [List.flatMap_cons, List.length_append, ih]; simp [lgW]; omega
theorem prW_len (f : FV) (k : Nat) : (prW f k).length ≤ 3 + k * 5 := by
  unfold prW
  rw [List.length_append, flat_len]
  have := List.length_take_le k f.lg
  simp only [List.length_cons, List.length_nil]
  omega
theorem decT_len (n : Int) (h0 : -9223372036854775808 ≤ n) (h1 : n ≤ 9223372036854775807) : (decT n).data.toList.length ≤ 21 := by
  have := Lib.itoa_length_le n h0 h1
  simpa [decT] using this
theorem code3_len {s : ByteArray} (h : codeB s 3 3 = true) : s.data.toList.length = 3 := by
  simp only [codeB, Bool.and_eq_true, decide_eq_true_eq] at h
  have e : s.data.toList.length = s.size := Array.length_toList
  omega
theorem caps3_len {s : ByteArray} (h : capsB s 3 = true) : s.data.toList.length = 3 := by
  simp only [capsB, Bool.and_eq_true, decide_eq_true_eq] at h
  have e : s.data.toList.length = s.size := Array.length_toList
  omega
theorem car_len {s : ByteArray} (h : carB s = true) : s.data.toList.length = 2 := by
  simp only [carB, codeB, Bool.and_eq_true, decide_eq_true_eq] at h
  have e : s.data.toList.length = s.size := Array.length_toList
  omega
theorem perT_len (f : FV) : (perT f).data.toList.length ≤ 29 := by
  show (Per.perL (f.pf, f.pt, f.pd)).toArray.toList.length ≤ 29
  rw [List.toList_toArray, Per.perL]
  split
  · have h1 := Per.print_len10 f.pf
    have h2 := Per.print_len10 f.pt
    have h3 := Per.digTo_len f.pd.toNat 7
    simp only [List.length_append, List.length_cons, List.length_nil, Per.digL]
    omega
  · simp
theorem lgE_all : ∀ {l : List Lg}, lgE l = 0 → ∀ x ∈ l, namB x = true ∧ timB x = true
  | [], _, x, hx => by simp at hx
  | y :: r, h, x, hx => by
    unfold lgE at h
    split at h
    · split at h
      · rcases List.mem_cons.1 hx with rfl | hx
        · exact ⟨‹_›, ‹_›⟩
        · exact lgE_all h x hx
      · omega
    · omega
theorem prE_zero {f : FV} (h : prE f = 0) : carB f.car = true ∧ numB f.num = true ∧ Per.errQ (f.pf, f.pt, f.pd) = 0 ∧ cntB f.lg.length = true ∧ lgE f.lg = 0 := by
  unfold prE at h
  split at h
  · split at h
    · split at h
      · split at h
        · exact ⟨‹_›, ‹_›, ‹_›, ‹_›, h⟩
        · omega
      · exact absurd h ‹_›
    · omega
  · omega
theorem num_bd {n : Int} (h : numB n = true) : 1 ≤ n ∧ n ≤ 9999 := by simpa [numB] using h
theorem cnt_bd {n : Nat} (h : cntB n = true) : 1 ≤ n ∧ n ≤ 6 := by simpa [cntB] using h
theorem min_bd {n : Int} (h : minB n = true) : -1440 ≤ n ∧ n ≤ 5759 := by simpa [minB] using h
theorem lgW_sum {x : Lg} (h : namB x = true ∧ timB x = true) : ((bytesOf (lgW x)).map List.length).sum ≤ 60 := by
  simp only [namB, timB, Bool.and_eq_true] at h
  have h1 := caps3_len h.1.1
  have h2 := caps3_len h.1.2.1
  have h3 := code3_len h.1.2.2
  have m1 := min_bd h.2.1
  have m2 := min_bd h.2.2
  have h4 := decT_len x.dep (by omega) (by omega)
  have h5 := decT_len x.arr (by omega) (by omega)
  simp only [bytesOf, lgW, List.map_cons, List.map_nil, List.sum_cons, List.sum_nil]
  omega
theorem flat_sum : ∀ {l : List Lg}, (∀ x ∈ l, namB x = true ∧ timB x = true) → ((bytesOf (l.flatMap lgW)).map List.length).sum ≤ l.length * 60
  | [], _ => by simp [bytesOf]
  | x :: r, h => by
    have h1 := lgW_sum (h x (by simp))
    have h2 := flat_sum (l := r) (fun y hy => h y (by simp [hy]))
    simp only [bytesOf, List.flatMap_cons, List.map_append, List.sum_append, List.length_cons] at h1 h2 ⊢
    omega
theorem prW_sum {f : FV} (h : prE f = 0) : ((bytesOf (prW f f.lg.length)).map List.length).sum ≤ 2000 := by
  obtain ⟨h1, h2, _, h4, h5⟩ := prE_zero h
  have c1 := car_len h1
  have c2 := num_bd h2
  have c3 := decT_len f.num (by omega) (by omega)
  have c4 := perT_len f
  have c5 := flat_sum (lgE_all h5)
  have c6 := cnt_bd h4
  simp only [prW, List.take_length, bytesOf, List.map_append, List.sum_append, List.map_cons, List.map_nil, List.sum_cons, List.sum_nil] at c5 ⊢
  omega
/-- a row of texts of one's own -/
def encS (s : ByteArray) : List Value := [.string s]
theorem rtS : RT Tryz.prog 81 9 1 encS where
  ht := Tryz.underlying81
  info := ⟨.string noB, 16, by kernel_rfl, rfl, by omega⟩
  len x := rfl
  one x u hu := by simp [encS] at hu; rcases hu with rfl; rfl
  pos := by omega
theorem RowL.strL {w : World} {v : Value} {l : List ByteArray} (h : RowL 1 encS w v l) : StrL w v l := by
  obtain ⟨A, c, rfl, h⟩ := h
  refine ⟨A, c, rfl, ?_⟩
  rcases h with h | ⟨b, o, rfl, hlt, hc⟩
  · exact .inl h
  · refine .inr ⟨b, o, rfl, hlt, fun i hi => ?_⟩
    have := hc i l[i] 0 (.string l[i]) (List.getElem?_eq_getElem hi) rfl
    rw [Nat.mul_one, Nat.add_zero] at this
    exact this

end Go.Proofs.YtmmpalnalogfnaaGreatDoor

/- Plain: a period that was printed is read as it was, and a text that is read is the printed one. -/
namespace Go.Proofs.YtmmpalnalogfnaaGreatDoor.Per
set_option linter.unusedSimpArgs false
set_option linter.unusedVariables false

theorem fits_slash : ∀ l p : List UInt8, fitsB l p = true → 47 ∉ p → 47 ∉ l
  | [], _, _, _ => by simp
  | _ :: _, [], h, _ => by simp [fitsB] at h
  | c :: r, q :: t, h, hp => by
    have h' : oneB c q = true ∧ fitsB r t = true := by simpa [fitsB] using h
    simp only [List.mem_cons, not_or] at hp ⊢
    refine ⟨fun e => ?_, fits_slash r t h'.2 hp.2⟩
    subst e
    have h1 := h'.1
    unfold oneB at h1
    split at h1
    · exact absurd h1 (by decide)
    · exact hp.1 (beq_iff_eq.1 h1)
theorem date_no {l : List UInt8} (h : (parseP l).2 = 0) : 47 ∉ l := by
  unfold parseP at h
  split at h
  · rename_i hf
    exact fits_slash _ _ hf (by decide)
  · simp at h
theorem cut_join (a r : List UInt8) (h : 47 ∉ a) : cutL (a ++ 47 :: r) = a :: cutL r := by
  induction a with
  | nil => exact cut_hit r
  | cons c a ih =>
    simp only [List.mem_cons, not_or] at h
    rw [List.cons_append, cut_miss (fun e => h.1 e.symm), ih h.2]
    rfl
theorem cut_one (a : List UInt8) (h : 47 ∉ a) : cutL a = [a] := by
  induction a with
  | nil => rfl
  | cons c a ih =>
    simp only [List.mem_cons, not_or] at h
    rw [cut_miss (fun e => h.1 e.symm), ih h.2]
    rfl
/-- the parts with a slash between -/
def joinS : List (List UInt8) → List UInt8
  | [] => []
  | [a] => a
  | a :: b :: r => a ++ 47 :: joinS (b :: r)
theorem joinS_glue (p : List UInt8) (a : List UInt8) (t : List (List UInt8)) : joinS (glue p (a :: t)) = p ++ joinS (a :: t) := by
  cases t with
  | nil => rfl
  | cons b r => simp [glue, joinS]
theorem join_cut (l : List UInt8) : joinS (cutL l) = l := by
  induction l with
  | nil => rfl
  | cons c r ih =>
    cases hc : cutL r with
    | nil => exact absurd hc (cutL_ne r)
    | cons a t =>
      rw [hc] at ih
      by_cases h : c = 47
      · subst h
        rw [cut_hit, hc]
        show [] ++ 47 :: joinS (a :: t) = _
        rw [ih]; rfl
      · rw [cut_miss h, hc, joinS_glue, ih]; rfl
theorem dig_more : ∀ d, d < 128 → ∀ j, j < 7 → d < 2 ^ j → digTo (d + 2 ^ j) 7 = digTo d 7 ++ [UInt8.ofNat (49 + j)] := by decide +kernel
theorem dig_read : ∀ d, d < 128 → d ≠ 0 → dgF 0 (digTo d 7) = ((d : Int), 0) := by decide +kernel
theorem dig_back : ∀ (l : List UInt8) (d : Nat), d < 128 → (dgF d l).2 = 0 → digTo (dgF d l).1.toNat 7 = digTo d 7 ++ l := by
  intro l
  induction l with
  | nil =>
    intro d hd h
    rw [dgF] at h ⊢
    split at h
    · simp at h
    · rename_i h0; rw [if_neg h0]; simp
  | cons c r ih =>
    intro d hd h
    rw [dgF] at h ⊢
    split at h
    · simp at h
    · rename_i h1
      split at h
      · simp at h
      · rename_i h2
        rw [if_neg h1, if_neg h2]
        obtain ⟨j, hj⟩ : ∃ j, c.toNat = 49 + j := ⟨c.toNat - 49, by omega⟩
        have e : c.toNat - 49 = j := by omega
        have ec : c = UInt8.ofNat (49 + j) := UInt8.toNat_inj.1 (by rw [UInt8.toNat_ofNat', hj]; omega)
        rw [e] at h h2 ⊢
        have hm := dig_more d hd j (by omega) (by omega)
        have hb : d + 2 ^ j < 128 := by
          have : j = 0 ∨ j = 1 ∨ j = 2 ∨ j = 3 ∨ j = 4 ∨ j = 5 ∨ j = 6 := by omega
          rcases this with rfl | rfl | rfl | rfl | rfl | rfl | rfl <;> omega
        rw [ih _ hb h, hm, ec]; simp
theorem dig_no : ∀ d, d < 128 → 47 ∉ digTo d 7 := by decide +kernel
theorem ok_of_err {p : Per} (h : errQ p = 0) : okQ p = true := by
  cases ho : okQ p
  · exact absurd h (errQ_no ho)
  · rfl
theorem per_print {p : Per} (h : okQ p = true) : perR (perL p) = (p, 0) := by
  obtain ⟨f, t, d⟩ := p
  have hq := okQ_yes h
  have h0 := hq.1
  have h1 := hq.2.1
  have h2 := hq.2.2.1
  have h4 := hq.2.2.2.2.1
  have h5 := hq.2.2.2.2.2
  dsimp only at h0 h1 h2 h4 h5
  have pf : parseP (printL f) = (f, 0) := by rw [parse_print, if_pos (by simp [isDayB]; omega)]
  have pt : parseP (printL t) = (t, 0) := by rw [parse_print, if_pos (by simp [isDayB]; omega)]
  have ed : ((d.toNat : Nat) : Int) = d := by omega
  have hd := dig_read d.toNat (by omega) (by omega)
  rw [ed] at hd
  have hn := dig_no d.toNat (by omega)
  have hc : cutL (perL (f, t, d)) = [printL f, printL t, digL d] := by
    rw [perL, if_pos h]
    rw [show printL f ++ [47] ++ printL t ++ [47] ++ digL d = printL f ++ 47 :: (printL t ++ 47 :: digL d) by simp]
    rw [cut_join _ _ (date_no (by rw [pf])), cut_join _ _ (date_no (by rw [pt])), cut_one (digL d) hn]
  rw [perR_three hc]
  rw [per3_ok (by rw [pf]) (by rw [pt]) (by rw [show digL d = digTo d.toNat 7 from rfl, hd]) (by rw [pf, pt, show digL d = digTo d.toNat 7 from rfl, hd]; exact errQ_ok h), pf, pt, show digL d = digTo d.toNat 7 from rfl, hd]
theorem per_back {l : List UInt8} (h : (perR l).2 = 0) : perL (perR l).1 = l := by
  by_cases h3 : (cutL l).length = 3
  case neg => rw [perR_len h3] at h; simp at h
  obtain ⟨x, y, z, hxyz⟩ : ∃ x y z, cutL l = [x, y, z] := by
    match hc : cutL l, h3 with
    | [x, y, z], _ => exact ⟨x, y, z, rfl⟩
  have hj := join_cut l
  rw [hxyz] at hj
  rw [perR_three hxyz] at h ⊢
  by_cases ea : (parseP x).2 = 0
  case neg => rw [per3_a ea] at h; exact absurd h ea
  by_cases eb : (parseP y).2 = 0
  case neg => rw [per3_b ea eb] at h; exact absurd h eb
  by_cases ec : (dgF 0 z).2 = 0
  case neg => rw [per3_c ea eb ec] at h; exact absurd h ec
  by_cases ed : errQ ((parseP x).1, (parseP y).1, (dgF 0 z).1) = 0
  case neg => rw [per3_d ea eb ec ed] at h; exact absurd h ed
  rw [per3_ok ea eb ec ed, perL, if_pos (ok_of_err ed)]
  have hx : printL (parseP x).1 = x := parse_back (by rw [← ea])
  have hy : printL (parseP y).1 = y := parse_back (by rw [← eb])
  have hz : digL (dgF 0 z).1 = z := by
    have := dig_back z 0 (by omega) ec
    rw [digL, this]; rfl
  dsimp only
  rw [hx, hy, hz, ← hj]
  simp [joinS]

end Go.Proofs.YtmmpalnalogfnaaGreatDoor.Per

/- Flights as text, plain: what is read from words, that it is what was written, and the other way round. -/
namespace Go.Proofs.YtmmpalnalogfnaaGreatDoor
open Go.RowKit Go.Shelf
set_option linter.unusedSimpArgs false
set_option linter.unusedVariables false

/-- a word of a line -/
def wd (ss : List ByteArray) (k : Nat) : ByteArray := ss.getD k noB
def nuE (b : ByteArray) : Int := (numR b.data.toList).2
def nuV (b : ByteArray) : Int := (numR b.data.toList).1
/-- the error of the leg k -/
def lgEr (ss : List ByteArray) (k : Nat) : Int := if nuE (wd ss (5 + 5 * k)) = 0 then nuE (wd ss (6 + 5 * k)) else nuE (wd ss (5 + 5 * k))
def lgAt (ss : List ByteArray) (k : Nat) : Lg := ⟨wd ss (3 + 5 * k), wd ss (4 + 5 * k), nuV (wd ss (5 + 5 * k)), nuV (wd ss (6 + 5 * k)), wd ss (7 + 5 * k)⟩
/-- the first error of n legs from the leg k on -/
def erL (ss : List ByteArray) : Nat → Nat → Int
  | 0, _ => 0
  | n + 1, k => if lgEr ss k = 0 then erL ss n (k + 1) else lgEr ss k
def lgsR (ss : List ByteArray) (m : Nat) : List Lg := (List.range m).map (lgAt ss)
def lgN (ss : List ByteArray) : Nat := (ss.length - 3) / 5
def peR (ss : List ByteArray) : Per.Per × Int := Per.perR (wd ss 2).data.toList
def fvR (ss : List ByteArray) (A : Option Addr) (c : Nat) : FV := ⟨wd ss 0, nuV (wd ss 1), (peR ss).1.1, (peR ss).1.2.1, (peR ss).1.2.2, A, c, lgsR ss (lgN ss)⟩
def lenB (ss : List ByteArray) : Bool := decide (8 ≤ ss.length) && (ss.length - 3) % 5 == 0
/-- the error of a line of words -/
def paE (ss : List ByteArray) : Int := if lenB ss = true then (if nuE (wd ss 1) = 0 then (if (peR ss).2 = 0 then (if erL ss (lgN ss) 0 = 0 then prE (fvR ss none 0) else erL ss (lgN ss) 0) else (peR ss).2) else nuE (wd ss 1)) else 3
def fvZ : FV := ⟨noB, 0, 0, 0, 0, none, 0, []⟩
/-- g is what is read -/
def PaF (ss : List ByteArray) (g : FV) : Prop := (paE ss = 0 → g = fvR ss g.A g.c) ∧ (paE ss ≠ 0 → g = fvZ)
theorem prE_fv (ss : List ByteArray) (A : Option Addr) (c : Nat) : prE (fvR ss A c) = prE (fvR ss none 0) := rfl
theorem erL_zero (ss : List ByteArray) : ∀ n k, erL ss n k = 0 → ∀ j, k ≤ j → j < k + n → lgEr ss j = 0
  | 0, k, _, j, h1, h2 => by omega
  | n + 1, k, h, j, h1, h2 => by
    unfold erL at h
    by_cases h0 : lgEr ss k = 0
    · rw [if_pos h0] at h
      by_cases e : j = k
      · rw [e]; exact h0
      · exact erL_zero ss n (k + 1) h j (by omega) (by omega)
    · rw [if_neg h0] at h
      exact absurd h h0
theorem erL_of (ss : List ByteArray) : ∀ n k, (∀ j, k ≤ j → j < k + n → lgEr ss j = 0) → erL ss n k = 0
  | 0, k, _ => rfl
  | n + 1, k, h => by
    unfold erL
    rw [if_pos (h k (Nat.le_refl _) (by omega))]
    exact erL_of ss n (k + 1) (fun j h1 h2 => h j (by omega) (by omega))
theorem ba_ext {a b : ByteArray} (h : a.data.toList = b.data.toList) : a = b := ByteArray.ext (Array.ext' h)
theorem decT_back {b : ByteArray} (h : nuE b = 0) : decT (nuV b) = b := by
  refine ba_ext ?_
  show (Lib.itoa (nuV b)).toArray.toList = _
  rw [List.toList_toArray]
  exact itoa_back _ _ (by unfold nuE at h; unfold nuV; rw [← h])
theorem nu_decT {n : Int} (h0 : -9223372036854775808 ≤ n) (h1 : n ≤ 9223372036854775807) : nuE (decT n) = 0 ∧ nuV (decT n) = n := by
  have h := itoa_facts n h0 h1
  unfold nuE nuV decT
  rw [List.toList_toArray, h]
  exact ⟨rfl, rfl⟩
theorem wd_at {ss : List ByteArray} {k : Nat} {b : ByteArray} (h : ss[k]? = some b) : wd ss k = b := by
  unfold wd
  rw [List.getD_eq_getElem?_getD, h]
  rfl
theorem at_wd {ss : List ByteArray} {k : Nat} (h : k < ss.length) : ss[k]? = some (wd ss k) := by
  unfold wd
  rw [List.getD_eq_getElem?_getD, List.getElem?_eq_getElem h]
  rfl
/-- the words of m legs -/
theorem flat_words (ss : List ByteArray) : ∀ m, 3 + 5 * m ≤ ss.length → (∀ k, k < m → lgEr ss k = 0) → (lgsR ss m).flatMap lgW = (ss.drop 3).take (5 * m)
  | 0, _, _ => by simp [lgsR]
  | m + 1, hl, h => by
    have ih := flat_words ss m (by omega) (fun k hk => h k (by omega))
    have h0 := h m (by omega)
    have e1 : lgsR ss (m + 1) = lgsR ss m ++ [lgAt ss m] := by simp [lgsR, List.range_succ]
    unfold lgEr at h0
    have e2 : nuE (wd ss (5 + 5 * m)) = 0 := by
      by_cases e : nuE (wd ss (5 + 5 * m)) = 0
      · exact e
      · rw [if_neg e] at h0; exact h0
    rw [if_pos e2] at h0
    have e3 : lgW (lgAt ss m) = [wd ss (3 + 5 * m), wd ss (4 + 5 * m), wd ss (5 + 5 * m), wd ss (6 + 5 * m), wd ss (7 + 5 * m)] := by
      show [wd ss (3 + 5 * m), wd ss (4 + 5 * m), decT (nuV (wd ss (5 + 5 * m))), decT (nuV (wd ss (6 + 5 * m))), wd ss (7 + 5 * m)] = _
      rw [decT_back e2, decT_back h0]
    rw [e1, List.flatMap_append, ih, List.flatMap_cons, List.flatMap_nil, List.append_nil, e3]
    have g0 := at_wd (ss := ss) (k := 3 + 5 * m) (by omega)
    have g1 := at_wd (ss := ss) (k := 4 + 5 * m) (by omega)
    have g2 := at_wd (ss := ss) (k := 5 + 5 * m) (by omega)
    have g3 := at_wd (ss := ss) (k := 6 + 5 * m) (by omega)
    have g4 := at_wd (ss := ss) (k := 7 + 5 * m) (by omega)
    have d0 : (ss.drop 3)[5 * m]? = some (wd ss (3 + 5 * m)) := by rw [List.getElem?_drop]; exact g0
    have d1 : (ss.drop 3)[5 * m + 1]? = some (wd ss (4 + 5 * m)) := by rw [List.getElem?_drop, show 3 + (5 * m + 1) = 4 + 5 * m by omega]; exact g1
    have d2 : (ss.drop 3)[5 * m + 2]? = some (wd ss (5 + 5 * m)) := by rw [List.getElem?_drop, show 3 + (5 * m + 2) = 5 + 5 * m by omega]; exact g2
    have d3 : (ss.drop 3)[5 * m + 3]? = some (wd ss (6 + 5 * m)) := by rw [List.getElem?_drop, show 3 + (5 * m + 3) = 6 + 5 * m by omega]; exact g3
    have d4 : (ss.drop 3)[5 * m + 4]? = some (wd ss (7 + 5 * m)) := by rw [List.getElem?_drop, show 3 + (5 * m + 4) = 7 + 5 * m by omega]; exact g4
    rw [show 5 * (m + 1) = 5 * m + 1 + 1 + 1 + 1 + 1 by omega, List.take_add_one (i := 5 * m + 1 + 1 + 1 + 1), List.take_add_one (i := 5 * m + 1 + 1 + 1), List.take_add_one (i := 5 * m + 1 + 1), List.take_add_one (i := 5 * m + 1), List.take_add_one (i := 5 * m), d0, d1, show 5 * m + 1 + 1 = 5 * m + 2 by omega, d2, d3, d4]
    simp
theorem len_of {ss : List ByteArray} (h : lenB ss = true) : 8 ≤ ss.length ∧ (ss.length - 3) % 5 = 0 ∧ ss.length = 3 + 5 * lgN ss ∧ 1 ≤ lgN ss := by
  unfold lenB at h
  simp at h
  unfold lgN
  omega
theorem paE_ok {ss : List ByteArray} (h : paE ss = 0) : lenB ss = true ∧ nuE (wd ss 1) = 0 ∧ (peR ss).2 = 0 ∧ erL ss (lgN ss) 0 = 0 ∧ prE (fvR ss none 0) = 0 := by
  unfold paE at h
  by_cases h1 : lenB ss = true
  · rw [if_pos h1] at h
    by_cases h2 : nuE (wd ss 1) = 0
    · rw [if_pos h2] at h
      by_cases h3 : (peR ss).2 = 0
      · rw [if_pos h3] at h
        by_cases h4 : erL ss (lgN ss) 0 = 0
        · rw [if_pos h4] at h; exact ⟨h1, h2, h3, h4, h⟩
        · rw [if_neg h4] at h; exact absurd h h4
      · rw [if_neg h3] at h; exact absurd h h3
    · rw [if_neg h2] at h; exact absurd h h2
  · rw [if_neg h1] at h; cases h
/-- what is read is written as it was -/
theorem read_print {ss : List ByteArray} (h : paE ss = 0) (A : Option Addr) (c : Nat) : prE (fvR ss A c) = 0 ∧ prW (fvR ss A c) (fvR ss A c).lg.length = ss := by
  obtain ⟨h1, h2, h3, h4, h5⟩ := paE_ok h
  refine ⟨h5, ?_⟩
  obtain ⟨l1, l2, l3, l4⟩ := len_of h1
  have hf := flat_words ss (lgN ss) (by omega) (fun k hk => erL_zero ss _ _ h4 k (Nat.zero_le _) (by omega))
  unfold prW
  rw [List.take_length]
  show [wd ss 0, decT (nuV (wd ss 1)), perT (fvR ss A c)] ++ (lgsR ss (lgN ss)).flatMap lgW = ss
  rw [decT_back h2, hf]
  have e1 : perT (fvR ss A c) = wd ss 2 := by
    refine ba_ext ?_
    show (Per.perL (peR ss).1).toArray.toList = _
    rw [List.toList_toArray]
    exact Per.per_back h3
  have e2 : (ss.drop 3).take (5 * lgN ss) = ss.drop 3 := List.take_of_length_le (by rw [List.length_drop]; omega)
  rw [e1, e2]
  have g0 := at_wd (ss := ss) (k := 0) (by omega)
  have g1 := at_wd (ss := ss) (k := 1) (by omega)
  have g2 := at_wd (ss := ss) (k := 2) (by omega)
  match ss, l1, g0, g1, g2 with
  | a :: b :: c :: r, _, g0, g1, g2 =>
    simp only [List.getElem?_cons_zero, List.getElem?_cons_succ, Option.some.injEq] at g0 g1 g2
    rw [← g0, ← g1, ← g2]
    rfl
  | [], h, _, _, _ => simp at h
  | [_], h, _, _, _ => simp at h
  | [_, _], h, _, _, _ => simp at h
theorem flat_at : ∀ (l : List Lg) (k : Nat) (x : Lg), l[k]? = some x → ∀ j b, (lgW x)[j]? = some b → (l.flatMap lgW)[5 * k + j]? = some b
  | [], k, x, h, j, b, _ => by simp at h
  | y :: r, 0, x, h, j, b, hb => by
    simp at h
    subst h
    have hj : j < (lgW y).length := (List.getElem?_eq_some_iff.1 hb).1
    rw [List.flatMap_cons, List.getElem?_append_left (by omega)]
    simpa using hb
  | y :: r, k + 1, x, h, j, b, hb => by
    simp at h
    have ih := flat_at r k x h j b hb
    have e : (lgW y).length = 5 := rfl
    rw [List.flatMap_cons, List.getElem?_append_right (by rw [e]; omega), e, show 5 * (k + 1) + j - 5 = 5 * k + j by omega]
    exact ih
theorem pr_leg {f : FV} {k : Nat} {x : Lg} (h : f.lg[k]? = some x) {j : Nat} {b : ByteArray} (hb : (lgW x)[j]? = some b) : wd (prW f f.lg.length) (3 + 5 * k + j) = b := by
  refine wd_at ?_
  unfold prW
  rw [List.take_length, List.getElem?_append_right (by simp; omega)]
  simp only [List.length_cons, List.length_nil]
  rw [show 3 + 5 * k + j - (0 + 1 + 1 + 1) = 5 * k + j by omega]
  exact flat_at _ _ _ h _ _ hb
/-- what is written is read as it was -/
theorem print_read {f : FV} (h : prE f = 0) (hi : ∀ x ∈ f.lg, (-9223372036854775808 ≤ x.dep ∧ x.dep ≤ 9223372036854775807) ∧ -9223372036854775808 ≤ x.arr ∧ x.arr ≤ 9223372036854775807) :
    paE (prW f f.lg.length) = 0 ∧ fvR (prW f f.lg.length) f.A f.c = f := by
  obtain ⟨h1, h2, h3, h4, h5⟩ := prE_zero h
  have hc := cnt_bd h4
  have hn := num_bd h2
  have hlen : (prW f f.lg.length).length = 3 + 5 * f.lg.length := by
    unfold prW
    rw [List.take_length, List.length_append, flat_len]
    simp only [List.length_cons, List.length_nil]
    omega
  have w0 : wd (prW f f.lg.length) 0 = f.car := rfl
  have w1 : wd (prW f f.lg.length) 1 = decT f.num := rfl
  have w2 : wd (prW f f.lg.length) 2 = perT f := rfl
  have hN : lgN (prW f f.lg.length) = f.lg.length := by unfold lgN; rw [hlen]; omega
  have hnu := nu_decT (n := f.num) (by omega) (by omega)
  have hpe : peR (prW f f.lg.length) = ((f.pf, f.pt, f.pd), 0) := by
    unfold peR
    rw [w2]
    show Per.perR (Per.perL (f.pf, f.pt, f.pd)).toArray.toList = _
    rw [List.toList_toArray]
    exact Per.per_print (Per.ok_of_err h3)
  have hleg : ∀ k x, f.lg[k]? = some x → lgAt (prW f f.lg.length) k = x ∧ lgEr (prW f f.lg.length) k = 0 := by
    intro k x hk
    obtain ⟨b1, b2⟩ := hi x (List.mem_of_getElem? hk)
    have d1 := nu_decT b1.1 b1.2
    have d2 := nu_decT b2.1 b2.2
    have q0 := pr_leg hk (j := 0) (b := x.f) rfl
    have q1 := pr_leg hk (j := 1) (b := x.t) rfl
    have q2 := pr_leg hk (j := 2) (b := decT x.dep) rfl
    have q3 := pr_leg hk (j := 3) (b := decT x.arr) rfl
    have q4 := pr_leg hk (j := 4) (b := x.eq) rfl
    rw [show 3 + 5 * k + 0 = 3 + 5 * k by omega] at q0
    rw [show 3 + 5 * k + 1 = 4 + 5 * k by omega] at q1
    rw [show 3 + 5 * k + 2 = 5 + 5 * k by omega] at q2
    rw [show 3 + 5 * k + 3 = 6 + 5 * k by omega] at q3
    rw [show 3 + 5 * k + 4 = 7 + 5 * k by omega] at q4
    refine ⟨?_, ?_⟩
    · unfold lgAt
      rw [q0, q1, q2, q3, q4, d1.2, d2.2]
    · unfold lgEr
      rw [q2, q3, if_pos d1.1, d2.1]
  have hL : lgsR (prW f f.lg.length) f.lg.length = f.lg := by
    refine List.ext_getElem? (fun k => ?_)
    unfold lgsR
    rw [List.getElem?_map]
    by_cases hk : k < f.lg.length
    · rw [List.getElem?_range hk, List.getElem?_eq_getElem hk]
      exact congrArg some (hleg k _ (List.getElem?_eq_getElem hk)).1
    · rw [List.getElem?_eq_none (by simp; omega), List.getElem?_eq_none (by omega)]
      rfl
  have hF : fvR (prW f f.lg.length) f.A f.c = f := by
    unfold fvR
    rw [hN, hL, hpe, w0, w1, hnu.2]
  refine ⟨?_, hF⟩
  have hE : erL (prW f f.lg.length) f.lg.length 0 = 0 := erL_of _ _ _ (fun j _ hj => (hleg j _ (List.getElem?_eq_getElem (by omega))).2)
  have hB : lenB (prW f f.lg.length) = true := by unfold lenB; rw [hlen]; simp; omega
  unfold paE
  rw [if_pos hB, w1, if_pos hnu.1, hpe, if_pos rfl, hN, if_pos hE, ← prE_fv _ f.A f.c, hF]
  exact h
end Go.Proofs.YtmmpalnalogfnaaGreatDoor

/- Walk of flight.Print. -/
namespace Go.Proofs.YtmmpalnalogfnaaGreatDoor
open Go.RowKit Go.Shelf
set_option linter.unusedSimpArgs false
set_option linter.unusedVariables false

theorem five_cells (w : World) (a b c d e : ByteArray) (t : TypeId) (i : Nat) (y : ByteArray) (j : Nat) (u : Value) (hi : [a, b, c, d, e][i]? = some y) (hu : (encS y)[j]? = some u) :
    (w.alloc (.cells #[.string a, .string b, .string c, .string d, .string e] t)).cell? ⟨w.heap.size, 0 + i * 1 + j, none⟩ = some u := by
  have hj : j = 0 := by
    have := (List.getElem?_eq_some_iff.1 hu).1
    simp [encS] at this
    exact this
  subst hj
  simp [encS] at hu
  subst hu
  have hlt := (List.getElem?_eq_some_iff.1 hi).1
  simp at hlt
  rw [cells_new]
  have h5 : i = 0 ∨ i = 1 ∨ i = 2 ∨ i = 3 ∨ i = 4 := by omega
  rcases h5 with rfl | rfl | rfl | rfl | rfl <;> (simp at hi; subst hi; rfl)

set_option maxRecDepth 100000 in
set_option maxHeartbeats 8000000 in
theorem fprint_any (f : FV) (w : World) (hE : EnvP w) (hG : LegL w (.slice f.A f.lg.length f.c) f.lg) (hc0 : f.car.size ≤ maxLen) (ho : ∀ x ∈ f.lg, OkG x) (hn : f.lg.length ≤ 1000000) :
    Calls Tryz.prog 11 #[encFl f] w fun e w' => e = .returned (.tuple #[.string (prS f), .int .i64 (prE f)]) ∧ Below w.heap.size w w' := by
  obtain ⟨PW, hPW⟩ : ∃ P : Nat → List ByteArray, P = fun k => prW f k := ⟨_, rfl⟩
  have HSU : Hid (∀ k x, f.lg[k]? = some x → PW (k + 1) = PW k ++ [x.f, x.t, decT x.dep, decT x.arr, x.eq]) := Lib.hid (by rw [hPW]; exact fun k x h => prW_succ h)
  have HLE : Hid (∀ k, (PW k).length ≤ 3 + k * 5) := Lib.hid (by rw [hPW]; exact fun k => prW_len f k)
  have HP := Lib.hid (show prS f = if prE f = 0 then prT f else noB from rfl)
  have HZ : Hid (prE f = 0 → ((bytesOf (PW f.lg.length)).map List.length).sum ≤ 2000 ∧ f.lg.length ≤ 6 ∧ (∀ x ∈ f.lg, -1440 ≤ x.dep ∧ x.dep ≤ 5759 ∧ -1440 ≤ x.arr ∧ x.arr ≤ 5759) ∧ 1 ≤ f.num ∧ f.num ≤ 9999) := Lib.hid (fun h => by
    obtain ⟨_, h2, _, h4, h5⟩ := prE_zero h
    refine ⟨by rw [hPW]; exact prW_sum h, (cnt_bd h4).2, fun x hx => ?_, num_bd h2⟩
    have := (lgE_all h5 x hx).2
    simp only [timB, Bool.and_eq_true] at this
    have h6 := min_bd this.1
    have h7 := min_bd this.2
    omega)
  have HPT : Hid (prT f = ⟨(joinL (bytesOf (PW f.lg.length))).toArray⟩) := Lib.hid (by rw [hPW]; rfl)
  have HW0 : Hid (PW 0 = [f.car, decT f.num, perT f]) := Lib.hid (by rw [hPW]; simp [prW])
  have KC0 := Lib.hid (fun W hG => checkPrint_any f W hG hc0 ho hn)
  have hpt := Per.pprint_any f.pf f.pt f.pd
  have hpe : (⟨(Per.perL (f.pf, f.pt, f.pd)).toArray⟩ : ByteArray) = perT f := rfl
  rw [hpe] at hpt
  have KPP := Lib.hid hpt
  clear hPW hpt hpe
  generalize prE f = pe at *
  generalize prS f = ps at *
  generalize prT f = pT at *
  generalize perT f = sp at *
  obtain ⟨car, num, pf, pt, pd, A, c, lg⟩ := f
  dsimp only at *
  have hb0 := bel_alloc w (.cells #[.string car, .int .i64 num, .int .i64 pf, .int .i64 pt, .int .i64 pd, .slice A lg.length c] fliT)
  have q0 := (cells_new w #[.string car, .int .i64 num, .int .i64 pf, .int .i64 pt, .int .i64 pd, .slice A lg.length c] fliT 0).trans (show _ = some (.string car) from rfl)
  have q1 := (cells_new w #[.string car, .int .i64 num, .int .i64 pf, .int .i64 pt, .int .i64 pd, .slice A lg.length c] fliT 1).trans (show _ = some (.int .i64 num) from rfl)
  have q2 := (cells_new w #[.string car, .int .i64 num, .int .i64 pf, .int .i64 pt, .int .i64 pd, .slice A lg.length c] fliT 2).trans (show _ = some (.int .i64 pf) from rfl)
  have q3 := (cells_new w #[.string car, .int .i64 num, .int .i64 pf, .int .i64 pt, .int .i64 pd, .slice A lg.length c] fliT 3).trans (show _ = some (.int .i64 pt) from rfl)
  have q4 := (cells_new w #[.string car, .int .i64 num, .int .i64 pf, .int .i64 pt, .int .i64 pd, .slice A lg.length c] fliT 4).trans (show _ = some (.int .i64 pd) from rfl)
  have q5 := (cells_new w #[.string car, .int .i64 num, .int .i64 pf, .int .i64 pt, .int .i64 pd, .slice A lg.length c] fliT 5).trans (show _ = some (.slice A lg.length c) from rfl)
  have KC := Lib.hid (KC0.out _ (hG.more hb0))
  have HG := Lib.hid (hG.more hb0)
  have HE := Lib.hid (hE.more hb0)
  clear hG ho hc0 hE KC0
  cases hpe : (pe != 0) with
  | true =>
    have HR : Hid (ps = noB) := Lib.hid (by rw [HP.out, if_neg (by simpa using hpe)])
    go_enter Tryz.func11, Tryz.ntmps11
    go_wp2_with (go_at_call 34; refine KC.out.mono ?_; rintro e w1 ⟨rfl, hb1⟩)
    exact bodyPost_ret (results_tmp2 rfl _ _ _) rfl ⟨by rw [HR.out]; rfl, hb0.trans (Below.mono hb1 hb0.size)⟩
  | false =>
    have h0 : pe = 0 := by simpa using hpe
    subst h0
    have HR : Hid (ps = pT) := Lib.hid (by rw [HP.out, if_pos rfl])
    have hz := HZ.out rfl
    have HS := Lib.hid hz.1
    have HB := Lib.hid hz.2.2.1
    have h6 := hz.2.1
    have KD1 : Hid (∀ W, SW (w.alloc (.cells #[.string car, .int .i64 num, .int .i64 pf, .int .i64 pt, .int .i64 pd, .slice A lg.length c] fliT)) W → Calls Tryz.prog 35 #[.int .i64 num] W fun e w' => e = .returned (.string (decT num)) ∧ SW (w.alloc (.cells #[.string car, .int .i64 num, .int .i64 pf, .int .i64 pt, .int .i64 pd, .slice A lg.length c] fliT)) w') :=
      Lib.hid (SW.call (fun W h => dec_any num W (by have := hz.2.2.2.1; omega) (by have := hz.2.2.2.2; omega) (HE.out.more h)))
    have KP1 : Hid (∀ W, SW (w.alloc (.cells #[.string car, .int .i64 num, .int .i64 pf, .int .i64 pt, .int .i64 pd, .slice A lg.length c] fliT)) W → Calls Tryz.prog 36 #[.agg #[.int .i64 pf, .int .i64 pt, .int .i64 pd]] W fun e w' => e = .returned (.string sp) ∧ SW (w.alloc (.cells #[.string car, .int .i64 num, .int .i64 pf, .int .i64 pt, .int .i64 pd, .slice A lg.length c] fliT)) w') :=
      Lib.hid (SW.call (fun W h => KPP.out W))
    clear hz HZ HP hpe
    go_enter Tryz.func11, Tryz.ntmps11
    go_upto_region 4 with (go_at_call 34; refine KC.out.mono ?_; rintro e w1 ⟨rfl, hb1⟩)
    have hS1 : SW (w.alloc (.cells #[.string car, .int .i64 num, .int .i64 pf, .int .i64 pt, .int .i64 pd, .slice A lg.length c] fliT)) w1 := hb1
    have f0 := bel_get q0
    have f1 := bel_get q1
    have f2 := bel_get q2
    have f3 := bel_get q3
    have f4 := bel_get q4
    have f5 := bel_get q5
    clear q0 q1 q2 q3 q4 q5
    generalize hw5 : w.alloc (.cells #[.string car, .int .i64 num, .int .i64 pf, .int .i64 pt, .int .i64 pd, .slice A lg.length c] fliT) = w5 at *
    clear hw5 hb1
    generalize decT num = sn at *
    have hS : (SW w5) _ := Below.drew hS1
    refine wp_region_held_drew (S := SW w5) (by kernel_rfl) hS (fun _ => ?_)
    refine wpAnyH_take (i := 0) (v := ?vP0) rfl (by kernel_rfl) (by kernel_rfl) (by kernel_rfl) (fun _ _ _ h => h) (Or.inl ⟨by rfl, ?hyP0⟩) hS ?restP0
    case hyP0 =>
      intro w hSw
      first | (go_simp; done) | (go_simp; with_reducible rfl)
    try simp only [Act.put, List.setIfInBounds_toArray, List.set_cons_zero, List.set_cons_succ]
    refine wpAnyH_take (i := 1) (v := ?vP1) rfl (by kernel_rfl) (by kernel_rfl) (by kernel_rfl) (fun _ _ _ h => h) (Or.inl ⟨by rfl, ?hyP1⟩) hS ?restP1
    case hyP1 =>
      intro w hSw
      have k0 := f0 w hSw
      first | (go_simp; done) | (go_simp; with_reducible rfl)
    try simp only [Act.put, List.setIfInBounds_toArray, List.set_cons_zero, List.set_cons_succ]
    refine wpAnyH_take (i := 2) (v := ?vP2) rfl (by kernel_rfl) (by kernel_rfl) (by kernel_rfl) (fun _ _ _ h => h) (Or.inl ⟨by rfl, ?hyP2⟩) hS ?restP2
    case hyP2 =>
      intro w hSw
      first | (go_simp; done) | (go_simp; with_reducible rfl)
    try simp only [Act.put, List.setIfInBounds_toArray, List.set_cons_zero, List.set_cons_succ]
    refine wpAnyH_take (i := 3) (v := ?vP3) rfl (by kernel_rfl) (by kernel_rfl) (by kernel_rfl) (fun _ _ _ h => h) (Or.inl ⟨by rfl, ?hyP3⟩) hS ?restP3
    case hyP3 =>
      intro w hSw
      have k0 := f1 w hSw
      first | (go_simp; done) | (go_simp; with_reducible rfl)
    try simp only [Act.put, List.setIfInBounds_toArray, List.set_cons_zero, List.set_cons_succ]
    refine wpAnyH_take (i := 5) (v := ?vP5) rfl (by kernel_rfl) (by kernel_rfl) (by kernel_rfl) (fun _ _ _ h => h) (Or.inl ⟨by rfl, ?hyP5⟩) hS ?restP5
    case hyP5 =>
      intro w hSw
      first | (go_simp; done) | (go_simp; with_reducible rfl)
    try simp only [Act.put, List.setIfInBounds_toArray, List.set_cons_zero, List.set_cons_succ]
    refine wpAnyH_take (i := 6) (v := ?vP6) rfl (by kernel_rfl) (by kernel_rfl) (by kernel_rfl) (fun _ _ _ h => h) (Or.inl ⟨by rfl, ?hyP6⟩) hS ?restP6
    case hyP6 =>
      intro w hSw
      have k0 := f2 w hSw; have k1 := f3 w hSw; have k2 := f4 w hSw
      first | (go_simp; done) | (go_simp; with_reducible rfl)
    try simp only [Act.put, List.setIfInBounds_toArray, List.set_cons_zero, List.set_cons_succ]
    refine wpAnyH_ready (rs := [4]) (by kernel_rfl) (by simp) ?_
    refine AllReadyH.cons rfl (fun K hK => ?_) AllReadyH.nil
    go_simp
    go_wp2_with ((go_at_call 35; with_reducible refine (KD1.out _ hS).mono ?_; rintro e w2 ⟨rfl, hS⟩))
    refine hK.out _ _ hS (fun _ => ?_)
    clear hK K
    refine wpAnyH_ready (rs := [7]) (by kernel_rfl) (by simp) ?_
    refine AllReadyH.cons rfl (fun K hK => ?_) AllReadyH.nil
    go_simp
    go_wp2_with ((go_at_call 36; with_reducible refine (KP1.out _ hS).mono ?_; rintro e w2 ⟨rfl, hS⟩))
    refine hK.out _ _ hS (fun _ => ?_)
    clear hK K
    refine wpAnyH_ready (rs := [8]) (by kernel_rfl) (by simp) ?_
    refine AllReadyH.cons rfl (fun K hK => ?_) AllReadyH.nil
    go_simp
    have hSp := hS
    have hS : SW w5 _ := Below.trans hS (Below.mono (bel_alloc w2 (.cells #[.string car, .string sn, .string sp] 9)) hS.size)
    refine hK.out _ _ hS (fun _ => ?_)
    clear hK K
    refine wpAnyH_take (i := 9) (v := ?vP9) rfl (by kernel_rfl) (by kernel_rfl) (by kernel_rfl) (fun _ _ _ h => h) (Or.inl ⟨by rfl, ?hyP9⟩) hS ?restP9
    case hyP9 =>
      intro w hSw
      first | (go_simp; done) | (go_simp; with_reducible rfl)
    try simp only [Act.put, List.setIfInBounds_toArray, List.set_cons_zero, List.set_cons_succ]
    refine wpAnyH_done (by kernel_rfl) ?_ _
    simp only [List.getElem_toArray, List.getElem_cons_succ, List.getElem_cons_zero, List.set_cons_zero, List.set_cons_succ]
    generalize hw6 : w2.alloc (.cells #[.string car, .string sn, .string sp] 9) = w6 at *
    have HL : Hid (ROwn 9 1 encS w5.heap.size w6 (.slice (some ⟨w2.heap.size, 0, none⟩) 3 3) (PW 0)) := Lib.hid (by
      rw [HW0.out, ← hw6]
      exact ROwn.new (enc := encS) (sz := 1) hSp.size [car, sn, sp] rtS.len rfl (by show 3 ≤ 1000000; omega))
    have hS6 : SW w5 w6 := hS
    clear HW0 KD1 KP1 hw6
    have z5 := f5 _ hS6
    go_wp2
    go_loopg [5, 25] lg.length (fun kx v5 vi wr => ∃ (v : Value) (k : Nat), v = v5 ∧ vi = .int .i64 k ∧ k + kx = lg.length ∧ Hid (ROwn 9 1 encS w5.heap.size wr v (PW k) ∧ SW w5 wr))
    case atStart => exact ⟨_, 0, rfl, rfl, by omega, Lib.hid ⟨HL.out, hS6⟩⟩
    case round =>
      obtain ⟨v, k, rfl, rfl, hkx, HH⟩ := hrel
      clear HL
      have HKX := Lib.hid hkx
      have hSr : SW w5 wr := HH.out.2
      by_cases hlt : k < lg.length
      · clear hkx
        obtain ⟨b, o, x, rfl, hbl, hx, c0, c1, c2, c3, c4⟩ := LegL.get (HG.out.more hSr) hlt
        have hbd := HB.out x (List.mem_of_getElem? hx)
        have HTk := Lib.hid (HSU.out k x hx)
        have HLn : Hid ((PW k).length + 5 ≤ 100000000) := Lib.hid (by have := HLE.out k; omega)
        have hO := HH.out.1
        have HV1 : Hid (∀ g, v.ownBlock = some g → w5.heap.size ≤ g ∧ g < wr.heap.size) := Lib.hid (fun g hg => hO.low hg)
        have hvN : v.ownBlock ≠ some wr.heap.size := fun h => by have := (HV1.out _ h).2; omega
        have hb6 := bel_alloc wr (.cells #[.string x.f, .string x.t, .int .i64 x.dep, .int .i64 x.arr, .string x.eq] legT)
        have HSW : Hid (∀ W, SX (wr.alloc (.cells #[.string x.f, .string x.t, .int .i64 x.dep, .int .i64 x.arr, .string x.eq] legT)) v W → SW w5 W) := Lib.hid (fun W h => Below.trans hSr ((hb6.mono hSr.size).trans (h.below (Nat.le_trans hSr.size hb6.size) (fun k' hk' hv => by have := (HV1.out _ hv).1; omega))))
        have n0 : ∀ W, SX (wr.alloc (.cells #[.string x.f, .string x.t, .int .i64 x.dep, .int .i64 x.arr, .string x.eq] legT)) v W → W.cell? ⟨wr.heap.size, 0, none⟩ = some (Value.string x.f) := fun W h => SX.cell ((cells_new wr #[.string x.f, .string x.t, .int .i64 x.dep, .int .i64 x.arr, .string x.eq] legT 0).trans (show _ = some (Value.string x.f) from rfl)) hvN h
        have n1 : ∀ W, SX (wr.alloc (.cells #[.string x.f, .string x.t, .int .i64 x.dep, .int .i64 x.arr, .string x.eq] legT)) v W → W.cell? ⟨wr.heap.size, 1, none⟩ = some (Value.string x.t) := fun W h => SX.cell ((cells_new wr #[.string x.f, .string x.t, .int .i64 x.dep, .int .i64 x.arr, .string x.eq] legT 1).trans (show _ = some (Value.string x.t) from rfl)) hvN h
        have n2 : ∀ W, SX (wr.alloc (.cells #[.string x.f, .string x.t, .int .i64 x.dep, .int .i64 x.arr, .string x.eq] legT)) v W → W.cell? ⟨wr.heap.size, 2, none⟩ = some (Value.int .i64 x.dep) := fun W h => SX.cell ((cells_new wr #[.string x.f, .string x.t, .int .i64 x.dep, .int .i64 x.arr, .string x.eq] legT 2).trans (show _ = some (Value.int .i64 x.dep) from rfl)) hvN h
        have n3 : ∀ W, SX (wr.alloc (.cells #[.string x.f, .string x.t, .int .i64 x.dep, .int .i64 x.arr, .string x.eq] legT)) v W → W.cell? ⟨wr.heap.size, 3, none⟩ = some (Value.int .i64 x.arr) := fun W h => SX.cell ((cells_new wr #[.string x.f, .string x.t, .int .i64 x.dep, .int .i64 x.arr, .string x.eq] legT 3).trans (show _ = some (Value.int .i64 x.arr) from rfl)) hvN h
        have n4 : ∀ W, SX (wr.alloc (.cells #[.string x.f, .string x.t, .int .i64 x.dep, .int .i64 x.arr, .string x.eq] legT)) v W → W.cell? ⟨wr.heap.size, 4, none⟩ = some (Value.string x.eq) := fun W h => SX.cell ((cells_new wr #[.string x.f, .string x.t, .int .i64 x.dep, .int .i64 x.arr, .string x.eq] legT 4).trans (show _ = some (Value.string x.eq) from rfl)) hvN h
        have KD2 : Hid (∀ W, SX (wr.alloc (.cells #[.string x.f, .string x.t, .int .i64 x.dep, .int .i64 x.arr, .string x.eq] legT)) v W → Calls Tryz.prog 35 #[.int .i64 x.dep] W fun e w' => e = .returned (.string (decT x.dep)) ∧ Below W.heap.size W w') := Lib.hid (fun W h => dec_any x.dep W (by omega) (by omega) (HE.out.more (HSW.out W h)))
        have KD3 : Hid (∀ W, SX (wr.alloc (.cells #[.string x.f, .string x.t, .int .i64 x.dep, .int .i64 x.arr, .string x.eq] legT)) v W → Calls Tryz.prog 35 #[.int .i64 x.arr] W fun e w' => e = .returned (.string (decT x.arr)) ∧ Below W.heap.size W w') := Lib.hid (fun W h => dec_any x.arr W (by omega) (by omega) (HE.out.more (HSW.out W h)))
        generalize decT x.dep = sd at *
        generalize decT x.arr = sa at *
        have i2 : (k : Int) < (lg.length : Int) := by omega
        have hO := hO.more (hb6.trans ((Below.refl _ (wr.alloc (.cells #[.string x.f, .string x.t, .int .i64 x.dep, .int .i64 x.arr, .string x.eq] legT))).drew.mono hb6.size))
        clear hx hbl hbd
        go_upto_region 8 with (fail)
        generalize hw6 : wr.alloc (.cells #[.string x.f, .string x.t, .int .i64 x.dep, .int .i64 x.arr, .string x.eq] legT) = w6 at *
        clear hw6 c0 c1 c2 c3 c4
        have hS : (SX w6 v) _ := But.of_below (Below.refl _ _).drew
        refine wp_region_held_drew (S := SX w6 v) (by kernel_rfl) hS (fun _ => ?_)
        refine wpAnyH_take (i := 0) (v := ?vQ0) rfl (by kernel_rfl) (by kernel_rfl) (by kernel_rfl) (fun _ _ _ h => h) (Or.inl ⟨by rfl, ?hyQ0⟩) hS ?restQ0
        case hyQ0 =>
          intro w hSw
          first | (go_simp; done) | (go_simp; with_reducible rfl)
        try simp only [Act.put, List.setIfInBounds_toArray, List.set_cons_zero, List.set_cons_succ]
        refine wpAnyH_take (i := 1) (v := ?vQ1) rfl (by kernel_rfl) (by kernel_rfl) (by kernel_rfl) (fun _ _ _ h => h) (Or.inl ⟨by rfl, ?hyQ1⟩) hS ?restQ1
        case hyQ1 =>
          intro w hSw
          first | (go_simp; done) | (go_simp; with_reducible rfl)
        try simp only [Act.put, List.setIfInBounds_toArray, List.set_cons_zero, List.set_cons_succ]
        refine wpAnyH_take (i := 2) (v := ?vQ2) rfl (by kernel_rfl) (by kernel_rfl) (by kernel_rfl) (fun _ _ _ h => h) (Or.inl ⟨by rfl, ?hyQ2⟩) hS ?restQ2
        case hyQ2 =>
          intro w hSw
          have k0 := n0 w hSw
          first | (go_simp; done) | (go_simp; with_reducible rfl)
        try simp only [Act.put, List.setIfInBounds_toArray, List.set_cons_zero, List.set_cons_succ]
        refine wpAnyH_take (i := 3) (v := ?vQ3) rfl (by kernel_rfl) (by kernel_rfl) (by kernel_rfl) (fun _ _ _ h => h) (Or.inl ⟨by rfl, ?hyQ3⟩) hS ?restQ3
        case hyQ3 =>
          intro w hSw
          first | (go_simp; done) | (go_simp; with_reducible rfl)
        try simp only [Act.put, List.setIfInBounds_toArray, List.set_cons_zero, List.set_cons_succ]
        refine wpAnyH_take (i := 4) (v := ?vQ4) rfl (by kernel_rfl) (by kernel_rfl) (by kernel_rfl) (fun _ _ _ h => h) (Or.inl ⟨by rfl, ?hyQ4⟩) hS ?restQ4
        case hyQ4 =>
          intro w hSw
          have k0 := n1 w hSw
          first | (go_simp; done) | (go_simp; with_reducible rfl)
        try simp only [Act.put, List.setIfInBounds_toArray, List.set_cons_zero, List.set_cons_succ]
        refine wpAnyH_take (i := 5) (v := ?vQ5) rfl (by kernel_rfl) (by kernel_rfl) (by kernel_rfl) (fun _ _ _ h => h) (Or.inl ⟨by rfl, ?hyQ5⟩) hS ?restQ5
        case hyQ5 =>
          intro w hSw
          first | (go_simp; done) | (go_simp; with_reducible rfl)
        try simp only [Act.put, List.setIfInBounds_toArray, List.set_cons_zero, List.set_cons_succ]
        refine wpAnyH_take (i := 6) (v := ?vQ6) rfl (by kernel_rfl) (by kernel_rfl) (by kernel_rfl) (fun _ _ _ h => h) (Or.inl ⟨by rfl, ?hyQ6⟩) hS ?restQ6
        case hyQ6 =>
          intro w hSw
          have k0 := n2 w hSw
          first | (go_simp; done) | (go_simp; with_reducible rfl)
        try simp only [Act.put, List.setIfInBounds_toArray, List.set_cons_zero, List.set_cons_succ]
        refine wpAnyH_take (i := 8) (v := ?vQ8) rfl (by kernel_rfl) (by kernel_rfl) (by kernel_rfl) (fun _ _ _ h => h) (Or.inl ⟨by rfl, ?hyQ8⟩) hS ?restQ8
        case hyQ8 =>
          intro w hSw
          first | (go_simp; done) | (go_simp; with_reducible rfl)
        try simp only [Act.put, List.setIfInBounds_toArray, List.set_cons_zero, List.set_cons_succ]
        refine wpAnyH_take (i := 9) (v := ?vQ9) rfl (by kernel_rfl) (by kernel_rfl) (by kernel_rfl) (fun _ _ _ h => h) (Or.inl ⟨by rfl, ?hyQ9⟩) hS ?restQ9
        case hyQ9 =>
          intro w hSw
          have k0 := n3 w hSw
          first | (go_simp; done) | (go_simp; with_reducible rfl)
        try simp only [Act.put, List.setIfInBounds_toArray, List.set_cons_zero, List.set_cons_succ]
        refine wpAnyH_take (i := 11) (v := ?vQ11) rfl (by kernel_rfl) (by kernel_rfl) (by kernel_rfl) (fun _ _ _ h => h) (Or.inl ⟨by rfl, ?hyQ11⟩) hS ?restQ11
        case hyQ11 =>
          intro w hSw
          first | (go_simp; done) | (go_simp; with_reducible rfl)
        try simp only [Act.put, List.setIfInBounds_toArray, List.set_cons_zero, List.set_cons_succ]
        refine wpAnyH_take (i := 12) (v := ?vQ12) rfl (by kernel_rfl) (by kernel_rfl) (by kernel_rfl) (fun _ _ _ h => h) (Or.inl ⟨by rfl, ?hyQ12⟩) hS ?restQ12
        case hyQ12 =>
          intro w hSw
          have k0 := n4 w hSw
          first | (go_simp; done) | (go_simp; with_reducible rfl)
        try simp only [Act.put, List.setIfInBounds_toArray, List.set_cons_zero, List.set_cons_succ]
        refine wpAnyH_ready (rs := [7]) (by kernel_rfl) (by simp) ?_
        refine AllReadyH.cons rfl (fun K hK => ?_) AllReadyH.nil
        go_simp
        go_wp2_with ((go_at_call 35; with_reducible refine (KD2.out _ hS).mono ?_; rintro e w' ⟨rfl, hb'⟩; have hO := hO.more hb'; have hS := hS.on hb'))
        refine hK.out _ _ hS (fun _ => ?_)
        clear hK K
        refine wpAnyH_ready (rs := [10]) (by kernel_rfl) (by simp) ?_
        refine AllReadyH.cons rfl (fun K hK => ?_) AllReadyH.nil
        go_simp
        go_wp2_with ((go_at_call 35; with_reducible refine (KD3.out _ hS).mono ?_; rintro e w' ⟨rfl, hb'⟩; have hO := hO.more hb'; have hS := hS.on hb'))
        refine hK.out _ _ hS (fun _ => ?_)
        clear hK K
        refine wpAnyH_ready (rs := [13]) (by kernel_rfl) (by simp) ?_
        refine AllReadyH.cons rfl (fun K hK => ?_) AllReadyH.nil
        go_simp
        have hSp := hS
        have hS := hS.on (bel_alloc _ (.cells #[.string x.f, .string x.t, .string sd, .string sa, .string x.eq] 9))
        refine hK.out _ _ hS (fun _ => ?_)
        clear hK K
        refine wpAnyH_ready (rs := [14]) (by kernel_rfl) (by simp) ?_
        refine AllReadyH.cons rfl (fun K hK => ?_) AllReadyH.nil
        refine step_rapps rtS rfl _ _ rfl (hO.alloc (.cells #[.string x.f, .string x.t, .string sd, .string sa, .string x.eq] 9)) rfl w'.heap.size 0 [x.f, x.t, sd, sa, x.eq] 5 _ rfl rfl (by omega) (fun i y j u hi hu => ?_) HLn.out ?_
        · exact five_cells w' _ _ _ _ _ _ i y j u hi hu
        intro v8 w8 hO8 hC8
        go_simp
        have hS := hS.trans hC8.but (fun _ _ h => h)
        refine hK.out _ _ hS (fun _ => ?_)
        clear hK K
        refine wpAnyH_take (i := 15) (v := ?vQ15) rfl (by kernel_rfl) (by kernel_rfl) (by kernel_rfl) (fun _ _ _ h => h) (Or.inl ⟨by rfl, ?hyQ15⟩) hS ?restQ15
        case hyQ15 =>
          intro w hSw
          first | (go_simp; done) | (go_simp; with_reducible rfl)
        try simp only [Act.put, List.setIfInBounds_toArray, List.set_cons_zero, List.set_cons_succ]
        refine wpAnyH_done (by kernel_rfl) ?_ _
        simp only [List.getElem_toArray, List.getElem_cons_succ, List.getElem_cons_zero, List.set_cons_zero, List.set_cons_succ]
        have HY : Hid (ROwn 9 1 encS w5.heap.size w8 v8 (PW (k + 1)) ∧ SW w5 w8) := Lib.hid ⟨by rw [HTk.out]; exact hO8, HSW.out _ hS⟩
        clear hO8 hC8 hS hSp hO
        go_wp2
        go_roundg (lg.length - (k + 1))
        case measure => have := HKX.out; omega
        case rel => exact ⟨_, k + 1, rfl, by go_num, by omega, HY⟩
      · have hk : k = lg.length := by omega
        have hO := HH.out.1
        rw [hk] at hO
        have hv := RowL.strL (hO.rowL rtS.len)
        have HLn : Hid ((PW lg.length).length ≤ 2000) := Lib.hid (by have := HLE.out lg.length; omega)
        have KJ := Lib.hid (join_any v (PW lg.length) wr hv HLn.out HS.out)
        have hSw : Below w.heap.size w wr := hb0.trans (Below.mono hSr hb0.size)
        rw [← HPT.out] at KJ
        have i1 : ¬ (k : Int) < (lg.length : Int) := by omega
        clear HH hkx hk hO hv
        go_wp2_with (go_at_call 37; refine KJ.out.mono ?_; rintro e w9 ⟨rfl, hb9⟩)
        exact bodyPost_ret (results_tmp2 rfl _ _ _) rfl ⟨by rw [HR.out]; rfl, hSw.trans (Below.mono hb9 hSw.size)⟩

end Go.Proofs.YtmmpalnalogfnaaGreatDoor
