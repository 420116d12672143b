/- ConU, ConN1, ConN2, ConN3, ConN4, ConN5, ConN6, ConZ, ConN7, FrameK, FrameW, FramesCE in one text. -/
import Derived.Test.YtkcdifanhdakhaaDoorConQ
import Derived.Deep.LoopGhost
import Derived.BigQuiet
import Derived.Test.YtkcdifanhdakhaaDoorConP
import Derived.Test.YtkcdifanhdakhaaDoorOwnS
import Derived.Deep.RegionHeld3
import Derived.OrdersHeld
import Derived.Deep.CutRange
import Derived.Test.YtkcdifanhdakhaaDoorConE
import Derived.Test.YtkcdifanhdakhaaDoorCards
import Derived.Test.YtkcdifanhdakhaaDoorTie
import Derived.WalkKit
import Derived.ProofKit
import Derived.OpenShut
import Derived.ShutString
import Derived.Carry
import Derived.SizedLaws
import Derived.SliceStrings
import Derived.Stop.LaidErr
import Derived.Deep.DeepHandedRow
import Derived.Deep.DeepWitnessRowRef
import Derived.Deep.DeepLaidRun
import Derived.Lib.LaidTab
import Derived.Lib.SmallJoins
import Derived.Deep.SlicePairs
import Derived.Test.YtkcdifanhdakhaaDoorRows
import Derived.ChangeSlices
import Derived.Test.YtkcdifanhdakhaaDoorPlaB
import Derived.Test.YtkcdifanhdakhaaDoorConA
/- Walks of the reference's visits, ahead. -/
namespace Go.Proofs.YtkcdifanhdakhaaDoor.Con
open Go.RowKit Go.Shelf
set_option linter.unusedSimpArgs false
set_option linter.unusedVariables false

set_option maxRecDepth 100000 in
set_option maxHeartbeats 4000000 in
theorem visits_any (As : Option Addr) (cs : Nat) (S : List Sg) (fr X : ByteArray) (vp : Value) (l : List Nat) (w : World) (hS : SgL w (.slice As S.length cs) S) (hp : NmL w vp l) (hl : ∀ i ∈ l, i < S.length) (hn : l.length ≤ 1000) (hsn : S.length ≤ 1000) :
    Calls Tryd.prog 44 #[.slice As S.length cs, .string fr, vp, .string X] w fun e w' => e = .returned (.bool (visB S fr l X)) ∧ w = w' := by
  obtain ⟨Ap, cp, rfl, _⟩ := id hp
  have HP := Lib.hid hp
  have HS := Lib.hid hS
  have HL := Lib.hid hl
  clear hp hS hl
  have HV : Hid (visB S fr l X = (l.any (fun i => eqS (sA S i).t X) || eqS fr X)) := Lib.hid rfl
  have HI : Hid ((l.take 0).any (fun i => eqS (sA S i).t X) = false) := Lib.hid rfl
  go_enter Tryd.func44, Tryd.ntmps44
  go_wp2
  go_loopg [9] l.length (fun kx vi wr => ∃ (j : Nat), vi = .int .i64 j ∧ j + kx = l.length ∧ Hid ((l.take j).any (fun i => eqS (sA S i).t X) = false) ∧ wr = w)
  case atStart => exact ⟨0, rfl, by omega, HI, rfl⟩
  case round =>
    obtain ⟨j, rfl, hjx, HJ, rfl⟩ := hrel
    have HJX := Lib.hid hjx
    by_cases hlt : j < l.length
    · obtain ⟨k, hk⟩ : ∃ k, l[j]? = some k := ⟨_, List.getElem?_eq_getElem hlt⟩
      obtain ⟨b1, o1, e1, hb1, hc1⟩ := row_get HP.out hk
      cases e1
      have d1 := hc1 0 _ rfl
      rw [Nat.add_zero, Nat.mul_one] at d1
      have hks := HL.out k (List.mem_of_getElem? hk)
      have hx := sA_get hks
      obtain ⟨b2, o2, e2, hb2, hc2⟩ := row_get HS.out hx
      cases e2
      have d2 := hc2 4 _ rfl
      have i1 : (j : Int) < (l.length : Int) := by omega
      have i2 : (k : Int) < (S.length : Int) := by omega
      have HST : Hid ((l.take (j + 1)).any (fun i => eqS (sA S i).t X) = ((sA S k).t.toList == X.toList)) := Lib.hid (by
        rw [List.take_add_one, hk, List.any_append, HJ.out]
        simp [eqS])
      have HM := Lib.hid (List.mem_of_getElem? hk)
      clear hk hb1 hc1 hx hb2 hc2 hjx
      cases hc : ((sA S k).t.toList == X.toList) with
      | true =>
        have HR : Hid (true = visB S fr l X) := Lib.hid (by
          rw [HV.out, show l.any (fun i => eqS (sA S i).t X) = true from List.any_eq_true.2 ⟨k, HM.out, hc⟩]
          rfl)
        go_wp2
        go_ret
        exact ⟨ret_bool HR.out, rfl⟩
      | false =>
        have HR : Hid ((l.take (j + 1)).any (fun i => eqS (sA S i).t X) = false) := Lib.hid (by rw [HST.out, hc])
        go_wp2
        go_roundg (l.length - (j + 1))
        case measure => have := HJX.out; omega
        case rel => exact ⟨j + 1, by go_num, by have := HJX.out; omega, HR, rfl⟩
    · have i1 : ¬ (j : Int) < (l.length : Int) := by omega
      have HR : Hid ((fr.toList == X.toList) = visB S fr l X) := Lib.hid (by
        rw [HV.out, show l.any (fun i => eqS (sA S i).t X) = false by rw [← HJ.out, List.take_of_length_le (by omega)]]
        rfl)
      go_wp2
      go_ret
      exact ⟨ret_bool HR.out, rfl⟩

theorem cfP_arr {S : List Sg} {a b : List Nat} (h : (sA S (lst a)).arr ≠ (sA S (lst b)).arr) : decide (cfP S a b < 0) = decide ((sA S (lst a)).arr < (sA S (lst b)).arr) := by
  unfold cfP
  rw [if_pos ((cmpI_ne _ _).2 h), decide_eq_decide]
  exact cmpI_lt _ _
theorem cfP_len {S : List Sg} {a b : List Nat} (h : (sA S (lst a)).arr = (sA S (lst b)).arr) (h2 : (a.length : Int) ≠ (b.length : Int)) : decide (cfP S a b < 0) = decide ((a.length : Int) < (b.length : Int)) := by
  unfold cfP
  rw [if_neg (by rw [cmpI_ne]; exact fun g => g h), if_pos ((cmpI_ne _ _).2 h2), decide_eq_decide]
  exact cmpI_lt _ _
theorem cfP_list {S : List Sg} {a b : List Nat} (h : (sA S (lst a)).arr = (sA S (lst b)).arr) (h2 : (a.length : Int) = (b.length : Int)) : cfP S a b = cmpL a b := by
  unfold cfP
  rw [if_neg (by rw [cmpI_ne]; exact fun g => g h), if_neg (by rw [cmpI_ne]; exact fun g => g h2)]
set_option maxRecDepth 100000 in
set_option maxHeartbeats 8000000 in
theorem ahead_any (As : Option Addr) (cs : Nat) (S : List Sg) (va vb : Value) (a b : List Nat) (w : World) (hS : SgL w (.slice As S.length cs) S) (ha : NmL w va a) (hb : NmL w vb b) (na : 1 ≤ a.length ∧ a.length ≤ 1000) (nb : 1 ≤ b.length ∧ b.length ≤ 1000) (la : lst a < S.length) (lb : lst b < S.length) (hsn : S.length ≤ 1000) :
    Calls Tryd.prog 42 #[.slice As S.length cs, va, vb] w fun e w' => e = .returned (.bool (decide (cfP S a b < 0))) ∧ Below w.heap.size w w' := by
  obtain ⟨Aa, ca, rfl, _⟩ := id ha
  obtain ⟨Ab, cb, rfl, _⟩ := id hb
  obtain ⟨n, hn⟩ : ∃ n, a.length = n + 1 := ⟨a.length - 1, by omega⟩
  obtain ⟨m, hm⟩ : ∃ m, b.length = m + 1 := ⟨b.length - 1, by omega⟩
  obtain ⟨b1, o1, e1, _, hc1⟩ := row_get ha (lst_get hn)
  cases e1
  obtain ⟨b2, o2, e2, _, hc2⟩ := row_get hb (lst_get hm)
  cases e2
  obtain ⟨b3, o3, e3, _, hc3⟩ := row_get hS (sA_get la)
  cases e3
  obtain ⟨b4, o4, e4, _, hc4⟩ := row_get hS (sA_get lb)
  cases e4
  have d1 := hc1 0 _ rfl
  have d2 := hc2 0 _ rfl
  rw [Nat.add_zero, Nat.mul_one] at d1 d2
  have d3 := hc3 6 _ rfl
  have d4 := hc4 6 _ rfl
  have HA := Lib.hid ha
  have HB := Lib.hid hb
  have HL : Hid (decide (cfP S a b < 0) = decide (cfP S a b < 0)) := Lib.hid rfl
  have HR1 := Lib.hid (@cfP_arr S a b)
  have HR2 := Lib.hid (@cfP_len S a b)
  have HR3 := Lib.hid (@cfP_list S a b)
  rw [hn, hm] at HR2 HR3
  have w1 : IntKind.i64.wrap (n : Int) = (n : Int) := IntWalk.i64_in _ (by omega)
  have w2 : IntKind.i64.wrap (m : Int) = (m : Int) := IntWalk.i64_in _ (by omega)
  have i1 : (n : Int) < ((n + 1 : Nat) : Int) := by omega
  have i2 : (m : Int) < ((m + 1 : Nat) : Int) := by omega
  have i3 : (lst a : Int) < (S.length : Int) := by omega
  have i4 : (lst b : Int) < (S.length : Int) := by omega
  have HN := Lib.hid hn
  have HM := Lib.hid hm
  rw [hn, hm]
  generalize (sA S (lst a)).arr = x at *
  generalize (sA S (lst b)).arr = y at *
  generalize cfP S a b = R at *
  have nb1 : n < 1000 := by have := HN.out; omega
  clear ha hb hS hc1 hc2 hc3 hc4 na nb la lb hn hm HL
  by_cases hxy : x = y
  · subst hxy
    have j1 : (x != x) = false := by simp
    by_cases hnm : n = m
    · subst hnm
      have j2 : (((n + 1 : Nat) : Int) != ((n + 1 : Nat) : Int)) = false := by simp
      have HRL := Lib.hid (HR3.out rfl rfl)
      clear HR1 HR2 HR3
      go_enter Tryd.func42, Tryd.ntmps42
      go_wp2
      go_quiet (fail)
      go_wp2
      go_loopg [9] (n + 1) (fun kx vi wr => ∃ (j : Nat), vi = .int .i64 j ∧ j + kx = n + 1 ∧ Hid (R = cmpL (a.drop j) (b.drop j)) ∧ SW w wr)
      case atStart => exact ⟨0, rfl, by omega, HRL, below_drewN (Below.refl _ _) _⟩
      case round =>
        obtain ⟨j, rfl, hjx, HJ, hSr⟩ := hrel
        have HJX := Lib.hid hjx
        by_cases hlt : j < n + 1
        · obtain ⟨p, hp⟩ : ∃ p, a[j]? = some p := ⟨_, List.getElem?_eq_getElem (by rw [HN.out]; exact hlt)⟩
          obtain ⟨q, hq⟩ : ∃ q, b[j]? = some q := ⟨_, List.getElem?_eq_getElem (by rw [HM.out]; exact hlt)⟩
          have HST := Lib.hid (HJ.out.trans (cmpL_step a b j p q hp hq))
          obtain ⟨b5, o5, e5, _, hc5⟩ := row_get (HA.out.more hSr) hp
          cases e5
          obtain ⟨b6, o6, e6, _, hc6⟩ := row_get (HB.out.more hSr) hq
          cases e6
          have d5 := hc5 0 _ rfl
          have d6 := hc6 0 _ rfl
          rw [Nat.add_zero, Nat.mul_one] at d5 d6
          have k1 : (j : Int) < ((n + 1 : Nat) : Int) := by omega
          have k2 : (j : Int) < (n : Int) + 1 := by omega
          clear hp hq hc5 hc6 hjx d1 d2 d3 d4
          by_cases hpq : p = q
          · subst hpq
            have j3 : ((p : Int) != (p : Int)) = false := by simp
            have HR : Hid (R = cmpL (a.drop (j + 1)) (b.drop (j + 1))) := Lib.hid (by rw [HST.out, if_neg (by rw [cmpI_ne]; exact fun g => g rfl)])
            go_wp2
            go_quiet (fail)
            go_wp2
            go_roundg (n + 1 - (j + 1))
            case measure => have := HJX.out; omega
            case rel => exact ⟨j + 1, by go_num, by have := HJX.out; omega, HR, below_drewN hSr _⟩
          · have j3 : ((p : Int) != (q : Int)) = true := by rw [bne_iff_ne]; omega
            have HR : Hid (decide (p < q) = decide (R < 0)) := Lib.hid (by
              rw [HST.out, if_pos ((cmpI_ne _ _).2 (by omega)), decide_eq_decide, cmpI_lt]
              omega)
            go_wp2
            go_quiet (fail)
            go_wp2
            go_quiet (fail)
            go_wp2
            go_ret
            exact ⟨ret_bool HR.out, by first | exact below_drewN hSr _ | exact below_drewN (below_drewN hSr _) _⟩
        · have k1 : ¬ (j : Int) < ((n + 1 : Nat) : Int) := by omega
          have k2 : ¬ (j : Int) < (n : Int) + 1 := by omega
          have HR : Hid (false = decide (R < 0)) := Lib.hid (by
            rw [HJ.out, cmpL_even a b j (by rw [HN.out]; omega) (by rw [HM.out]; omega)]
            rfl)
          go_wp2
          go_ret
          exact ⟨ret_bool HR.out, hSr⟩
    · have j2 : (((n + 1 : Nat) : Int) != ((m + 1 : Nat) : Int)) = true := by rw [bne_iff_ne]; omega
      have j3 : ((n : Int) + 1 != (m : Int) + 1) = true := by rw [bne_iff_ne]; omega
      have HR : Hid (decide (n < m) = decide (R < 0)) := Lib.hid (by rw [HR2.out rfl (by omega), decide_eq_decide]; omega)
      go_enter Tryd.func42, Tryd.ntmps42
      go_wp2
      go_quiet (fail)
      go_wp2
      go_ret
      exact ⟨ret_bool HR.out, below_drewN (Below.refl _ _) _⟩
  · have j1 : (x != y) = true := by rw [bne_iff_ne]; exact hxy
    have HR : Hid (decide (x < y) = decide (R < 0)) := Lib.hid (HR1.out hxy).symm
    go_enter Tryd.func42, Tryd.ntmps42
    go_wp2
    go_quiet (fail)
    go_wp2
    go_ret
    exact ⟨ret_bool HR.out, below_drewN (Below.refl _ _) _⟩
end Go.Proofs.YtkcdifanhdakhaaDoor.Con

/- Plain facts for the reference's search: insertion keeps order; which journeys it finds. -/
namespace Go.Proofs.YtkcdifanhdakhaaDoor.Con
open Go.RowKit Go.Shelf
set_option linter.unusedSimpArgs false
set_option linter.unusedVariables false

/-- where a journey goes, looked for from the end -/
def atP (S : List Sg) (l : List (List Nat)) (x : List Nat) : Nat → Nat
  | 0 => 0
  | n + 1 => if cfP S x (l.getD n []) < 0 then atP S l x n else n + 1
def insP (S : List Sg) (l : List (List Nat)) (x : List Nat) : List (List Nat) := l.take (atP S l x l.length) ++ [x] ++ l.drop (atP S l x l.length)
theorem atP_le (S : List Sg) (l : List (List Nat)) (x : List Nat) : ∀ n, atP S l x n ≤ n
  | 0 => Nat.le_refl _
  | n + 1 => by
    unfold atP
    split
    · exact Nat.le_succ_of_le (atP_le S l x n)
    · exact Nat.le_refl _
theorem insP_perm (S : List Sg) (l : List (List Nat)) (x : List Nat) : (insP S l x).Perm (l ++ [x]) := by
  unfold insP
  rw [List.append_assoc]
  refine (List.Perm.append_left _ List.perm_append_comm).trans ?_
  rw [← List.append_assoc, List.take_append_drop]
/-- a comes no later than b -/
def leP (S : List Sg) (a b : List Nat) : Prop := ¬ cfP S b a < 0
theorem leP_trans {S : List Sg} {a b c : List Nat} (h1 : leP S a b) (h2 : leP S b c) : leP S a c := by
  unfold leP at *
  intro h
  -- c < a
  by_cases e : cfP S a b = 0
  · rw [(cfP_zero S a b).1 e] at h; exact h2 h
  · have h3 : cfP S a b < 0 := by have := cfP_neg S a b; omega
    exact h2 (cfP_trans S c a b h h3)
theorem leP_anti {S : List Sg} {a b : List Nat} (h1 : leP S a b) (h2 : leP S b a) : a = b := by
  unfold leP at *
  have := cfP_neg S a b
  exact (cfP_zero S a b).1 (by omega)
theorem leP_of_lt {S : List Sg} {a b : List Nat} (h : cfP S a b < 0) : leP S a b := by
  unfold leP
  have := cfP_neg S a b
  omega
theorem atP_after (S : List Sg) (l : List (List Nat)) (x : List Nat) : ∀ n, n ≤ l.length → ∀ j, atP S l x n ≤ j → j < n → leP S x (l.getD j [])
  | 0, _, j, _, h => absurd h (Nat.not_lt_zero _)
  | n + 1, hn, j, h1, h2 => by
    unfold atP at h1
    by_cases hc : cfP S x (l.getD n []) < 0
    · rw [if_pos hc] at h1
      by_cases e : j = n
      · rw [e]; exact leP_of_lt hc
      · exact atP_after S l x n (by omega) j h1 (by omega)
    · rw [if_neg hc] at h1
      omega
theorem atP_before (S : List Sg) (l : List (List Nat)) (x : List Nat) : ∀ n, 0 < atP S l x n → leP S (l.getD (atP S l x n - 1) []) x
  | 0, h => absurd h (Nat.lt_irrefl _)
  | n + 1, h => by
    unfold atP at h ⊢
    by_cases hc : cfP S x (l.getD n []) < 0
    · rw [if_pos hc] at h ⊢
      exact atP_before S l x n h
    · rw [if_neg hc]
      exact hc
theorem getD_get {l : List (List Nat)} {j : Nat} (h : j < l.length) : l.getD j [] = l[j] := by
  rw [List.getD_eq_getElem?_getD, List.getElem?_eq_getElem h]
  rfl
theorem insP_sorted {S : List Sg} {l : List (List Nat)} {x : List Nat} (h : l.Pairwise (leP S)) : (insP S l x).Pairwise (leP S) := by
  have hle := atP_le S l x l.length
  have haf := atP_after S l x l.length (Nat.le_refl _)
  have hbe := atP_before S l x l.length
  unfold insP
  generalize atP S l x l.length = a at *
  have hb : ∀ y ∈ l.take a, leP S y x := by
    intro y hy
    obtain ⟨j, hj⟩ := List.getElem?_of_mem hy
    have hj1 : j < a := by have := (List.getElem?_eq_some_iff.1 hj).1; rw [List.length_take] at this; omega
    rw [List.getElem?_take_of_lt hj1] at hj
    have hjl : j < l.length := (List.getElem?_eq_some_iff.1 hj).1
    have hjy : l[j] = y := (List.getElem?_eq_some_iff.1 hj).2
    have h1 := hbe (by omega)
    rw [getD_get (show a - 1 < l.length by omega)] at h1
    by_cases e : j = a - 1
    · subst e; rw [← hjy]; exact h1
    · rw [← hjy]
      exact leP_trans (List.pairwise_iff_getElem.1 h j (a - 1) hjl (by omega) (by omega)) h1
  have ha : ∀ y ∈ l.drop a, leP S x y := by
    intro y hy
    obtain ⟨j, hj⟩ := List.getElem?_of_mem hy
    rw [List.getElem?_drop] at hj
    have hjl := (List.getElem?_eq_some_iff.1 hj).1
    have := haf (a + j) (by omega) hjl
    rw [getD_get hjl, (List.getElem?_eq_some_iff.1 hj).2] at this
    exact this
  rw [List.append_assoc, List.pairwise_append]
  refine ⟨h.sublist (List.take_sublist ..), ?_, ?_⟩
  · rw [List.singleton_append, List.pairwise_cons]
    exact ⟨ha, h.sublist (List.drop_sublist ..)⟩
  · intro y hy z hz
    rw [List.singleton_append, List.mem_cons] at hz
    rcases hz with rfl | hz
    · exact hb y hy
    · exact leP_trans (hb y hy) (ha z hz)
/-- all inserted one after another -/
def insAll (S : List Sg) (l : List (List Nat)) (xs : List (List Nat)) : List (List Nat) := xs.foldl (insP S) l
theorem insAll_perm (S : List Sg) : ∀ (xs l : List (List Nat)), (insAll S l xs).Perm (l ++ xs)
  | [], l => by rw [List.append_nil]; exact List.Perm.refl _
  | x :: xs, l => by
    refine (insAll_perm S xs (insP S l x)).trans ?_
    refine ((insP_perm S l x).append_right xs).trans ?_
    rw [List.append_assoc]; exact List.Perm.refl _
theorem insAll_sorted {S : List Sg} : ∀ (xs l : List (List Nat)), l.Pairwise (leP S) → (insAll S l xs).Pairwise (leP S)
  | [], l, h => h
  | x :: xs, l, h => insAll_sorted xs _ (insP_sorted h)
theorem sorted_eq {S : List Sg} {a b : List (List Nat)} (h : a.Perm b) (ha : a.Pairwise (leP S)) (hb : b.Pairwise (leP S)) : a = b :=
  h.eq_of_pairwise (fun x y _ _ h1 h2 => leP_anti h1 h2) ha hb
end Go.Proofs.YtkcdifanhdakhaaDoor.Con

/- The program's journeys and the reference's are the same ones, each once. -/
namespace Go.Proofs.YtkcdifanhdakhaaDoor.Con
set_option linter.unusedSimpArgs false
set_option linter.unusedVariables false

theorem eqS_dec (a b : ByteArray) : eqS a b = decide (a = b) := by
  rw [Bool.eq_iff_iff, eqS_iff, decide_eq_true_iff]
theorem kd_one (fr dn : ByteArray) (s : Sg) : (kd fr dn s == 1) = true ↔ s.t ≠ fr ∧ s.f = fr ∧ s.t = dn := by
  unfold kd
  simp only [eqS_dec]
  grind
theorem kd_two (fr dn : ByteArray) (s : Sg) : (kd fr dn s == 2) = true ↔ s.t ≠ fr ∧ fr ≠ dn ∧ s.f = fr ∧ s.t ≠ dn := by
  unfold kd
  simp only [eqS_dec]
  grind
theorem kd_three (fr dn : ByteArray) (s : Sg) : (kd fr dn s == 3) = true ↔ s.t ≠ fr ∧ s.f ≠ dn ∧ s.f ≠ fr ∧ s.t = dn := by
  unfold kd
  simp only [eqS_dec]
  grind
theorem kd_four (fr dn : ByteArray) (s : Sg) : (kd fr dn s == 4) = true ↔ s.t ≠ fr ∧ s.f ≠ dn ∧ s.f ≠ s.t ∧ s.f ≠ fr ∧ s.t ≠ dn := by
  unfold kd
  simp only [eqS_dec]
  grind
theorem fitB_ft {l : List Cn} {x y : Sg} (h : fitB l x y = true) : y.f = x.t := by
  unfold fitB at h
  rw [Bool.and_eq_true, Bool.and_eq_true] at h
  exact (eqS_iff _ _).1 h.1.1
theorem mem_bef {l : List Cn} {S : List Sg} {fr dn : ByteArray} {k f : Nat} : f ∈ befP l S fr dn k ↔ f < S.length ∧ (kd fr dn (sA S f) == 2) = true ∧ (sA S f).t = (sA S k).f ∧ fitB l (sA S f) (sA S k) = true := by
  unfold befP firstP
  rw [List.mem_filter, ix_mem, Bool.and_eq_true, eqS_iff]
  grind
theorem mem_aft {l : List Cn} {S : List Sg} {fr dn : ByteArray} {k j : Nat} : j ∈ aftP l S fr dn k ↔ j < S.length ∧ (kd fr dn (sA S j) == 3) = true ∧ (sA S j).f = (sA S k).t ∧ fitB l (sA S k) (sA S j) = true := by
  unfold aftP lastF
  rw [List.mem_filter, ix_mem, Bool.and_eq_true, eqS_iff]
  grind
theorem mem_oneL {S : List Sg} {fr dn : ByteArray} {p : List Nat} : p ∈ oneL S fr dn ↔ ∃ i, p = [i] ∧ i < S.length ∧ (kd fr dn (sA S i) == 1) = true := by
  unfold oneL onlyP
  rw [List.mem_map]
  constructor
  · rintro ⟨i, hi, rfl⟩; exact ⟨i, rfl, ix_mem.1 hi⟩
  · rintro ⟨i, rfl, hi⟩; exact ⟨i, ix_mem.2 hi, rfl⟩
theorem mem_twoL {l : List Cn} {S : List Sg} {fr dn : ByteArray} {p : List Nat} : p ∈ twoL l S fr dn ↔ ∃ f k, p = [f, k] ∧ k < S.length ∧ (kd fr dn (sA S k) == 3) = true ∧ f ∈ befP l S fr dn k := by
  unfold twoL lastP twoP
  simp only [List.mem_flatMap, List.mem_map, ix_mem]
  constructor
  · rintro ⟨k, hk, f, hf, rfl⟩; exact ⟨f, k, rfl, hk.1, hk.2, hf⟩
  · rintro ⟨f, k, rfl, h1, h2, hf⟩; exact ⟨k, ⟨h1, h2⟩, f, hf, rfl⟩
theorem mem_triL {l : List Cn} {S : List Sg} {fr dn : ByteArray} {p : List Nat} : p ∈ triL l S fr dn ↔ ∃ f k j, p = [f, k, j] ∧ k < S.length ∧ (kd fr dn (sA S k) == 4) = true ∧ f ∈ befP l S fr dn k ∧ j ∈ aftP l S fr dn k := by
  unfold triL midP midsP triP
  simp only [List.mem_flatMap, List.mem_map, ix_mem]
  constructor
  · rintro ⟨k, hk, f, hf, j, hj, rfl⟩; exact ⟨f, k, j, rfl, hk.1, hk.2, hf, hj⟩
  · rintro ⟨f, k, j, rfl, h1, h2, hf, hj⟩; exact ⟨k, ⟨h1, h2⟩, f, hf, j, hj, rfl⟩
theorem mem_now1 {S : List Sg} {fr : ByteArray} {p : List Nat} : p ∈ now1 S fr S.length ↔ ∃ i, p = [i] ∧ i < S.length ∧ (sA S i).f = fr ∧ (sA S i).t ≠ fr := by
  unfold now1
  simp only [List.mem_map, ix_mem, eqS_dec]
  constructor
  · rintro ⟨i, hi, rfl⟩; exact ⟨i, rfl, hi.1, by grind, by grind⟩
  · rintro ⟨i, rfl, h1, h2, h3⟩; exact ⟨i, ⟨h1, by grind⟩, rfl⟩
theorem mem_ext {l : List Cn} {S : List Sg} {fr : ByteArray} {p q : List Nat} : q ∈ extP l S fr p S.length ↔ ∃ k, q = p ++ [k] ∧ k < S.length ∧ fitB l (sA S (lst p)) (sA S k) = true ∧ visB S fr p (sA S k).t = false := by
  unfold extP extB
  simp only [List.mem_map, List.mem_filter, List.mem_range]
  constructor
  · rintro ⟨k, hk, rfl⟩; exact ⟨k, rfl, hk.1, by grind, by grind⟩
  · rintro ⟨k, rfl, h1, h2, h3⟩; exact ⟨k, ⟨h1, by grind⟩, rfl⟩
theorem mem_now2 {l : List Cn} {S : List Sg} {fr : ByteArray} {p : List Nat} : p ∈ nowP l S fr 2 ↔ ∃ f k, p = [f, k] ∧ (f < S.length ∧ (sA S f).f = fr ∧ (sA S f).t ≠ fr) ∧ k < S.length ∧ fitB l (sA S f) (sA S k) = true ∧ (sA S f).t ≠ (sA S k).t ∧ fr ≠ (sA S k).t := by
  show p ∈ longP l S fr (now1 S fr S.length) ↔ _
  unfold longP
  rw [List.mem_flatMap]
  constructor
  · rintro ⟨q, hq, hp⟩
    obtain ⟨f, rfl, hf⟩ := mem_now1.1 hq
    obtain ⟨k, rfl, hk, h2, h3⟩ := mem_ext.1 hp
    simp only [visB, List.any_cons, List.any_nil, eqS_dec] at h3
    exact ⟨f, k, rfl, hf, hk, h2, by grind, by grind⟩
  · rintro ⟨f, k, rfl, hf, hk, h2, h3, h4⟩
    refine ⟨[f], mem_now1.2 ⟨f, rfl, hf⟩, mem_ext.2 ⟨k, rfl, hk, h2, ?_⟩⟩
    simp only [visB, List.any_cons, List.any_nil, eqS_dec]
    grind
theorem mem_now3 {l : List Cn} {S : List Sg} {fr : ByteArray} {p : List Nat} : p ∈ nowP l S fr 3 ↔ ∃ f k j, p = [f, k, j] ∧ [f, k] ∈ nowP l S fr 2 ∧ j < S.length ∧ fitB l (sA S k) (sA S j) = true ∧ (sA S f).t ≠ (sA S j).t ∧ (sA S k).t ≠ (sA S j).t ∧ fr ≠ (sA S j).t := by
  show p ∈ longP l S fr (nowP l S fr 2) ↔ _
  unfold longP
  rw [List.mem_flatMap]
  constructor
  · rintro ⟨q, hq, hp⟩
    obtain ⟨f, k, rfl, hf⟩ := mem_now2.1 hq
    obtain ⟨j, rfl, hj, h2, h3⟩ := mem_ext.1 hp
    simp only [visB, List.any_cons, List.any_nil, eqS_dec] at h3
    exact ⟨f, k, j, rfl, hq, hj, h2, by grind, by grind, by grind⟩
  · rintro ⟨f, k, j, rfl, hf, hj, h2, h3, h4, h5⟩
    refine ⟨[f, k], hf, mem_ext.2 ⟨j, rfl, hj, h2, ?_⟩⟩
    simp only [visB, List.any_cons, List.any_nil, eqS_dec]
    grind
theorem mem_end {l : List Cn} {S : List Sg} {fr dn : ByteArray} {n : Nat} {p : List Nat} : p ∈ endP l S fr dn n ↔ p ∈ nowP l S fr n ∧ (sA S (lst p)).t = dn := by
  unfold endP endB
  rw [List.mem_filter, eqS_iff]
theorem end_one {l : List Cn} {S : List Sg} {fr dn : ByteArray} {p : List Nat} : p ∈ endP l S fr dn 1 ↔ p ∈ oneL S fr dn := by
  rw [mem_end, mem_oneL]
  show p ∈ now1 S fr S.length ∧ _ ↔ _
  rw [mem_now1]
  constructor
  · rintro ⟨⟨i, rfl, h1, h2, h3⟩, h4⟩
    exact ⟨i, rfl, h1, (kd_one ..).2 ⟨h3, h2, h4⟩⟩
  · rintro ⟨i, rfl, h1, h2⟩
    have h3 := (kd_one ..).1 h2
    exact ⟨⟨i, rfl, h1, h3.2.1, h3.1⟩, h3.2.2⟩
theorem end_two {l : List Cn} {S : List Sg} {fr dn : ByteArray} {p : List Nat} : p ∈ endP l S fr dn 2 ↔ p ∈ twoL l S fr dn := by
  rw [mem_end, mem_twoL, mem_now2]
  constructor
  · rintro ⟨⟨f, k, rfl, ⟨hf, h1, h2⟩, hk, h3, h4, h5⟩, h6⟩
    have h7 := fitB_ft h3
    have h6 : (sA S k).t = dn := h6
    exact ⟨f, k, rfl, hk, (kd_three ..).2 (by grind), mem_bef.2 ⟨hf, (kd_two ..).2 (by grind), h7.symm, h3⟩⟩
  · rintro ⟨f, k, rfl, hk, h1, h2⟩
    obtain ⟨hf, h3, h4, h5⟩ := mem_bef.1 h2
    have h1 := (kd_three ..).1 h1
    have h3 := (kd_two ..).1 h3
    exact ⟨⟨f, k, rfl, ⟨hf, h3.2.2.1, h3.1⟩, hk, h5, by grind, by grind⟩, h1.2.2.2⟩
theorem end_tri {l : List Cn} {S : List Sg} {fr dn : ByteArray} {p : List Nat} : p ∈ endP l S fr dn 3 ↔ p ∈ triL l S fr dn := by
  rw [mem_end, mem_triL, mem_now3]
  constructor
  · rintro ⟨⟨f, k, j, rfl, h0, hj, h1, h2, h3, h4⟩, h6⟩
    obtain ⟨f', k', e, ⟨hf, g1, g2⟩, hk, g3, g4, g5⟩ := mem_now2.1 h0
    obtain ⟨rfl, rfl⟩ : f' = f ∧ k' = k := by simpa [eq_comm] using e
    have h7 := fitB_ft h1
    have h8 := fitB_ft g3
    have h6 : (sA S j).t = dn := h6
    exact ⟨f', k', j, rfl, hk, (kd_four ..).2 (by grind), mem_bef.2 ⟨hf, (kd_two ..).2 (by grind), h8.symm, g3⟩, mem_aft.2 ⟨hj, (kd_three ..).2 (by grind), h7, h1⟩⟩
  · rintro ⟨f, k, j, rfl, hk, h1, h2, h3⟩
    obtain ⟨hf, g1, g2, g3⟩ := mem_bef.1 h2
    obtain ⟨hj, e1, e2, e3⟩ := mem_aft.1 h3
    have h1 := (kd_four ..).1 h1
    have g1 := (kd_two ..).1 g1
    have e1 := (kd_three ..).1 e1
    exact ⟨⟨f, k, j, rfl, mem_now2.2 ⟨f, k, rfl, ⟨hf, g1.2.2.1, g1.1⟩, hk, g3, by grind, by grind⟩, hj, e3, by grind, by grind, by grind⟩, e1.2.2.2⟩
/-! each once -/
theorem nd_ext (l : List Cn) (S : List Sg) (fr : ByteArray) (p : List Nat) (n : Nat) : (extP l S fr p n).Nodup := by
  unfold extP List.Nodup
  rw [List.pairwise_map]
  exact (List.Pairwise.filter _ List.nodup_range).imp (fun h e => h (by simpa using e))
theorem nd_long (l : List Cn) (S : List Sg) (fr : ByteArray) {ps : List (List Nat)} (h : ps.Nodup) : (longP l S fr ps).Nodup := by
  unfold longP List.Nodup
  rw [List.pairwise_flatMap]
  refine ⟨fun p _ => nd_ext l S fr p _, h.imp ?_⟩
  intro a b hab x hx y hy e
  obtain ⟨k, _, rfl⟩ := List.mem_map.1 hx
  obtain ⟨k', _, rfl⟩ := List.mem_map.1 hy
  exact hab (List.append_inj_left' e rfl)
theorem nd_now1 (S : List Sg) (fr : ByteArray) (n : Nat) : (now1 S fr n).Nodup := by
  unfold now1 List.Nodup
  rw [List.pairwise_map]
  exact (ix_nodup ..).imp (fun h e => h (by simpa using e))
theorem nd_now (l : List Cn) (S : List Sg) (fr : ByteArray) : ∀ n, (nowP l S fr n).Nodup
  | 0 => List.Pairwise.nil
  | 1 => nd_now1 ..
  | n + 2 => nd_long l S fr (nd_now l S fr (n + 1))
theorem nd_end (l : List Cn) (S : List Sg) (fr dn : ByteArray) (n : Nat) : (endP l S fr dn n).Nodup := List.Pairwise.filter _ (nd_now l S fr n)
theorem nd_bef (l : List Cn) (S : List Sg) (fr dn : ByteArray) (k : Nat) : (befP l S fr dn k).Nodup := List.Pairwise.filter _ (ix_nodup ..)
theorem nd_aft (l : List Cn) (S : List Sg) (fr dn : ByteArray) (k : Nat) : (aftP l S fr dn k).Nodup := List.Pairwise.filter _ (ix_nodup ..)
theorem nd_one (S : List Sg) (fr dn : ByteArray) : (oneL S fr dn).Nodup := by
  unfold oneL List.Nodup
  rw [List.pairwise_map]
  exact (ix_nodup ..).imp (fun h e => h (by simpa using e))
theorem nd_two (l : List Cn) (S : List Sg) (fr dn : ByteArray) : (twoL l S fr dn).Nodup := by
  unfold twoL twoP List.Nodup
  rw [List.pairwise_flatMap]
  refine ⟨fun k _ => ?_, (ix_nodup ..).imp ?_⟩
  · rw [List.pairwise_map]
    exact (nd_bef l S fr dn k).imp (fun h e => h (by simpa using e))
  · intro a b hab x hx y hy e
    obtain ⟨f, _, rfl⟩ := List.mem_map.1 hx
    obtain ⟨f', _, rfl⟩ := List.mem_map.1 hy
    exact hab (by simpa using (List.cons.inj (List.cons.inj e).2).1)
theorem nd_tri (l : List Cn) (S : List Sg) (fr dn : ByteArray) : (triL l S fr dn).Nodup := by
  unfold triL midsP triP List.Nodup
  rw [List.pairwise_flatMap]
  refine ⟨fun k _ => ?_, (ix_nodup ..).imp ?_⟩
  · rw [List.pairwise_flatMap]
    refine ⟨fun f _ => ?_, (nd_bef l S fr dn k).imp ?_⟩
    · rw [List.pairwise_map]
      exact (nd_aft l S fr dn k).imp (fun h e => h (by simpa using e))
    · intro a b hab x hx y hy e
      obtain ⟨j, _, rfl⟩ := List.mem_map.1 hx
      obtain ⟨j', _, rfl⟩ := List.mem_map.1 hy
      exact hab (List.cons.inj e).1
  · intro a b hab x hx y hy e
    obtain ⟨f, _, hx⟩ := List.mem_flatMap.1 hx
    obtain ⟨f', _, hy⟩ := List.mem_flatMap.1 hy
    obtain ⟨j, _, rfl⟩ := List.mem_map.1 hx
    obtain ⟨j', _, rfl⟩ := List.mem_map.1 hy
    exact hab (List.cons.inj (List.cons.inj e).2).1
theorem one_perm (l : List Cn) (S : List Sg) (fr dn : ByteArray) : (endP l S fr dn 1).Perm (oneL S fr dn) := (List.perm_ext_iff_of_nodup (nd_end ..) (nd_one ..)).2 (fun _ => end_one)
theorem two_perm (l : List Cn) (S : List Sg) (fr dn : ByteArray) : (endP l S fr dn 2).Perm (twoL l S fr dn) := (List.perm_ext_iff_of_nodup (nd_end ..) (nd_two ..)).2 (fun _ => end_two)
theorem tri_perm (l : List Cn) (S : List Sg) (fr dn : ByteArray) : (endP l S fr dn 3).Perm (triL l S fr dn) := (List.perm_ext_iff_of_nodup (nd_end ..) (nd_tri ..)).2 (fun _ => end_tri)
/-- all that ends at the place with up to n segments -/
def endsP (l : List Cn) (S : List Sg) (fr dn : ByteArray) : Nat → List (List Nat)
  | 0 => []
  | n + 1 => endsP l S fr dn n ++ endP l S fr dn (n + 1)
theorem ends_perm (l : List Cn) (S : List Sg) (fr dn : ByteArray) (n : Nat) (h : 1 ≤ n ∧ n ≤ 3) : (endsP l S fr dn n).Perm (pathsP l S fr dn (n : Int)) := by
  unfold pathsP
  have h3 : n = 1 ∨ n = 2 ∨ n = 3 := by omega
  rcases h3 with rfl | rfl | rfl
  · show ([] ++ endP l S fr dn 1).Perm (oneL S fr dn ++ [])
    rw [List.nil_append, List.append_nil]; exact one_perm ..
  · show (([] ++ endP l S fr dn 1) ++ endP l S fr dn 2).Perm (oneL S fr dn ++ (twoL l S fr dn ++ []))
    rw [List.nil_append, List.append_nil]; exact (one_perm ..).append (two_perm ..)
  · show ((([] ++ endP l S fr dn 1) ++ endP l S fr dn 2) ++ endP l S fr dn 3).Perm (oneL S fr dn ++ (twoL l S fr dn ++ triL l S fr dn))
    rw [List.nil_append, List.append_assoc]; exact (one_perm ..).append ((two_perm ..).append (tri_perm ..))
end Go.Proofs.YtkcdifanhdakhaaDoor.Con

/- Walk of the reference's insert. -/
namespace Go.Proofs.YtkcdifanhdakhaaDoor.Con
open Go.RowKit Go.Shelf
set_option linter.unusedSimpArgs false
set_option linter.unusedVariables false

/-- a list of journeys: its address and what it can hold -/
def FormP (Av : Option Addr) (n cap : Nat) : Prop := (Av = none ∧ cap = 0 ∧ n = 0) ∨ ∃ g, Av = some ⟨g, 0, none⟩ ∧ n ≤ cap
theorem form_own {B : Nat} {w : World} {v : Value} {ps : List Pth} (h : ROwn ptT 1 encPt B w v ps) : ∃ Av cap, v = .slice Av ps.length cap ∧ FormP Av ps.length cap := by
  rcases h.own.2 with ⟨rfl, h0⟩ | ⟨g, cap, cur, rfl, _, _, hc, _, _, _⟩
  · exact ⟨none, 0, by rw [h0], .inl ⟨rfl, rfl, h0⟩⟩
  · exact ⟨_, cap, rfl, .inr ⟨g, rfl, hc⟩⟩
set_option maxRecDepth 100000 in
theorem pts_take {Av : Option Addr} {n cap a : Nat} (hf : FormP Av n cap) (ha : a ≤ n) (W : World) : (Instr.slice ptsT (.slice Av n cap) none (some (.int .i64 (a : Int))) none).run Tryd.prog W = .ok (.slice Av a cap) W := by
  have hu : Tryd.prog.underlying ptsT = some (.slice (Tryd.prog.elem ptsT)) := Tryd.underlying28
  have e : Tryd.prog.elem ptsT = ptT := by kernel_rfl
  have hc : a ≤ cap := by rcases hf with ⟨_, h1, h2⟩ | ⟨g, _, h2⟩ <;> omega
  rw [run_slice_h _ _ _ _ _ hu _ _ (by omega) (by omega), e, Tryd.sizeOf45]
  rcases hf with ⟨rfl, rfl, h2⟩ | ⟨g, rfl, h2⟩
  · simp [sliced, Result.andThen, Addr.add]
  · simp [sliced, Result.andThen, Addr.add]
def dropV (Av : Option Addr) (n cap a : Nat) : Value := .slice (if cap = a then Av else Av.map (·.add (a * 1))) (n - a) (cap - a)
set_option maxRecDepth 100000 in
theorem pts_drop {Av : Option Addr} {n cap a : Nat} (hf : FormP Av n cap) (ha : a ≤ n) (W : World) : (Instr.slice ptsT (.slice Av n cap) (some (.int .i64 (a : Int))) none none).run Tryd.prog W = .ok (dropV Av n cap a) W := by
  have hu : Tryd.prog.underlying ptsT = some (.slice (Tryd.prog.elem ptsT)) := Tryd.underlying28
  have e : Tryd.prog.elem ptsT = ptT := by kernel_rfl
  rw [run_slice_l _ _ _ _ _ hu _ _ (by omega) (by omega), e, Tryd.sizeOf45]
  simp [sliced, Result.andThen, dropV]
theorem row_take {W : World} {Av : Option Addr} {cap a : Nat} {ps : List Pth} (ha : a ≤ ps.length) (h : RowL 1 encPt W (.slice Av ps.length cap) ps) : RowL 1 encPt W (.slice Av a cap) (ps.take a) := by
  obtain ⟨A, c, e, hc⟩ := h
  cases e
  refine ⟨Av, cap, by rw [List.length_take, Nat.min_eq_left ha], ?_⟩
  rcases hc with hc | ⟨b, o, e, hl, hc⟩
  · exact .inl (by rw [hc]; simp)
  · refine .inr ⟨b, o, e, hl, fun i x j u hi hj => hc i x j u ?_ hj⟩
    have h1 := (List.getElem?_eq_some_iff.1 hi).1
    rw [List.length_take] at h1
    rw [List.getElem?_take_of_lt (by omega)] at hi
    exact hi
theorem row_cap {W : World} {A : Option Addr} {n c c' : Nat} {ps : List Pth} (h : RowL 1 encPt W (.slice A n c) ps) : RowL 1 encPt W (.slice A n c') ps := by
  obtain ⟨A', c2, e, hc⟩ := h
  cases e
  exact ⟨_, c', rfl, hc⟩
theorem row_drop {W : World} {Av : Option Addr} {cap a : Nat} {ps : List Pth} (hf : FormP Av ps.length cap) (ha : a ≤ ps.length) (h : RowL 1 encPt W (.slice Av ps.length cap) ps) : RowL 1 encPt W (dropV Av ps.length cap a) (ps.drop a) := by
  obtain ⟨A, c, e, hc⟩ := h
  cases e
  refine ⟨_, cap - a, by unfold dropV; rw [List.length_drop], ?_⟩
  by_cases hd : a = ps.length
  · exact .inl (by rw [hd]; simp)
  rcases hc with hc | ⟨b, o, e, hl, hc⟩
  · exact .inl (by rw [hc]; simp)
  · have hne : ¬ cap = a := by rcases hf with ⟨_, _, h2⟩ | ⟨g, _, h2⟩ <;> omega
    rw [if_neg hne, e]
    refine .inr ⟨b, o + a * 1, by simp [Addr.add], hl, fun i x j u hi hj => ?_⟩
    rw [List.getElem?_drop] at hi
    have := hc (a + i) x j u hi hj
    rw [show o + a * 1 + i * 1 + j = o + (a + i) * 1 + j by omega]
    exact this
/-- a journey that the reference can compare -/
def OkJ (S : List Sg) (x : Pth) : Prop := (1 ≤ x.l.length ∧ x.l.length ≤ 1000) ∧ lst x.l < S.length

/-- what insert tells -/
def InsR (S : List Sg) (x : Pth) (ps : List Pth) (w : World) (e : Ending) (w' : World) : Prop :=
  ∃ v' ps', e = .returned v' ∧ ROwn ptT 1 encPt w.heap.size w' v' ps' ∧ lss ps' = insP S (lss ps) x.l ∧ (∀ y ∈ ps', y = x ∨ y ∈ ps) ∧ Below w.heap.size w w'

set_option maxRecDepth 100000 in
set_option maxHeartbeats 16000000 in
theorem insert_any {B0 : Nat} (As : Option Addr) (cs : Nat) (S : List Sg) (v : Value) (ps : List Pth) (x : Pth) (w : World) (hS : SgL w (.slice As S.length cs) S) (hv : ROwn ptT 1 encPt B0 w v ps) (hp : ∀ y ∈ ps, PthAt w y) (hx : PthAt w x)
    (hj : ∀ y ∈ ps, OkJ S y) (hjx : OkJ S x) (hn : ps.length ≤ 1000000) (hsn : S.length ≤ 1000) :
    Calls Tryd.prog 21 #[.slice As S.length cs, v, .slice (some ⟨x.b, 0, none⟩) x.l.length x.c] w (InsR S x ps w) := by
  obtain ⟨Av, cap, rfl, hf⟩ := form_own hv
  have HF := Lib.hid hf
  have HV := Lib.hid (hv.rowL rtPt.len)
  have HP := Lib.hid hp
  have HJ := Lib.hid hj
  have HSZ := Lib.hid hn
  have HA0 : Hid (∀ k, k ≤ ps.length → Hid (atP S (lss ps) x.l (lss ps).length = atP S (lss ps) x.l k) → atP S (lss ps) x.l k = k → ∀ W v' ps', SW w W → ROwn ptT 1 encPt w.heap.size W v' ps' → ps' = ps.take k ++ [x] ++ ps.drop k → InsR S x ps w (.returned v') W) := Lib.hid (by
    intro k hk hk1 hk2 W v' ps' hW hO he
    refine ⟨v', ps', rfl, hO, ?_, ?_, hW⟩
    · rw [he]
      unfold insP lss
      have h1 := hk1.out
      unfold lss at h1 hk2
      rw [h1, hk2]
      simp [List.map_take, List.map_drop]
    · intro y hy
      rw [he] at hy
      simp only [List.mem_append, List.mem_singleton] at hy
      rcases hy with (hy | hy) | hy
      · exact .inr (List.mem_of_mem_take hy)
      · exact .inl hy
      · exact .inr (List.mem_of_mem_drop hy))
  have HL : Hid ((lss ps).length = ps.length) := Lib.hid (List.length_map ..)
  have KA : Hid (∀ y ∈ ps, ∀ W, SW w W → Calls Tryd.prog 42 #[.slice As S.length cs, .slice (some ⟨x.b, 0, none⟩) x.l.length x.c, .slice (some ⟨y.b, 0, none⟩) y.l.length y.c] W fun e w' => e = .returned (.bool (decide (cfP S x.l y.l < 0))) ∧ SW w w') := Lib.hid (fun y hy W h =>
    (ahead_any As cs S _ _ x.l y.l W (hS.more h) (pthAt_row (pthAt_more hx h)) (pthAt_row (pthAt_more (hp y hy) h)) hjx.1 (hj y hy).1 hjx.2 (hj y hy).2 hsn).mono (by rintro e w' ⟨rfl, hb⟩; exact ⟨rfl, Below.trans h (Below.mono hb h.size)⟩))
  obtain ⟨n, hnn⟩ : ∃ n, n = ps.length := ⟨_, rfl⟩
  have HN := Lib.hid hnn
  have HI : Hid (atP S (lss ps) x.l (lss ps).length = atP S (lss ps) x.l n) := Lib.hid (by rw [hnn, HL.out])
  rw [← hnn]
  rw [← hnn] at hn
  clear hS hv hp hx hj hjx hf hnn
  go_enter Tryd.func21, Tryd.ntmps21
  go_wp2
  go_loopg [7] n (fun kx v7 wr => ∃ k : Nat, v7 = .int .i64 k ∧ k = kx ∧ k ≤ n ∧ Hid (atP S (lss ps) x.l (lss ps).length = atP S (lss ps) x.l k) ∧ SW w wr)
  case atStart => exact ⟨n, rfl, rfl, Nat.le_refl _, HI, Below.refl _ _⟩
  case round =>
    obtain ⟨k, rfl, hkx, hkn, HK, hS⟩ := hrel
    have HKX := Lib.hid hkx
    clear hkx HI
    cases k with
    | zero =>
      have HE := Lib.hid (fun W v' ps' => HA0.out 0 (Nat.zero_le _) HK rfl W v' ps')
      have ha0 : 0 ≤ n := Nat.zero_le _
      have HW := Lib.hid hS
      have hAv : Av = none ∨ ∃ g, Av = some ⟨g, 0, none⟩ := HF.out.elim (fun h => .inl h.1) (fun ⟨g, h, _⟩ => .inr ⟨g, h⟩)
      have ha2 : (0 : Int) ≤ cap := by omega
      rcases hAv with rfl | ⟨g, rfl⟩
      · have HT : Hid (∀ W, SW w W → ∀ c2, RowL 1 encPt W (.slice none 0 c2) (ps.take 0)) := Lib.hid (fun W h c2 => row_cap (row_take (by have := HN.out; omega) (HV.out.more h)))
        have HD : Hid (∀ W, SW w W → RowL 1 encPt W (.slice none n cap) (ps.drop 0)) := Lib.hid (fun W h => by have h1 := HV.out.more h; rw [← HN.out] at h1; exact h1)
        have HNT : Hid ((ps.take 0).length ≤ 1000000) := Lib.hid (by rw [List.length_take]; have := HSZ.out; omega)
        have HND : Hid ((ps.drop 0).length ≤ 1000000) := Lib.hid (by rw [List.length_drop]; have := HSZ.out; omega)
        go_upto_region 4 with fail
        have HO0 := Lib.hid (ROwn.new (e := ptT) (sz := 1) (enc := encPt) (B := w.heap.size) (w := wr) (hS).size ([] : List Pth) rtPt.len (cs := #[]) rfl (by simp))
        have HS1 : Hid (SW w (wr.alloc (.cells #[] ptT))) := Lib.hid (Below.trans hS (Below.mono (bel_alloc _ _) (hS).size))
        have HM1 : Hid (([] : List Pth).length + (ps.take 0).length ≤ 100000000) := Lib.hid (by have := HNT.out; simp only [List.length_nil]; omega)
        have HM2 : Hid ((([] : List Pth) ++ ps.take 0).length ≤ 100000000) := Lib.hid (by have := HNT.out; simp only [List.nil_append]; omega)
        have HM3 : Hid (((([] : List Pth) ++ ps.take 0) ++ [x]).length + (ps.drop 0).length ≤ 100000000) := Lib.hid (by have := HNT.out; have := HND.out; simp only [List.nil_append, List.length_append, List.length_singleton]; omega)
        clear hS hn hkn HA0 HK HNT HND
        go_upto_region 5 with (at_builtin; refine wpList_rappl rtPt rfl _ _ rfl HO0.out rfl (ps.take 0) _ rfl (HT.out _ HS1.out _) HM1.out ?_; intro v1 w1 hO1 hC1)
        have HS2 : Hid (SW w w1) := Lib.hid (Below.trans HS1.out (hC1.below HO0.out))
        have HO1 := Lib.hid hO1
        clear hO1 hC1 HO0 HS1
        go_upto_region 6 with (at_builtin; refine wpList_rapp rtPt rfl _ _ rfl HO1.out rfl (bel_alloc _ _) _ x _ rfl (cs := #[.slice (some ⟨x.b, 0, none⟩) x.l.length x.c]) rfl (heap_alloc_new _ _) HM2.out ?_; intro v2 w2 hO2 hC2)
        have HS3 : Hid (SW w w2) := Lib.hid (Below.trans HS2.out (hC2.below HO1.out))
        have HO2 := Lib.hid hO2
        clear hO2 hC2 HO1 HS2
        go_wp2_with (at_builtin; refine wpList_rappl rtPt rfl _ _ rfl HO2.out rfl (ps.drop 0) _ rfl (HD.out _ HS3.out) HM3.out ?_; intro v3 w3 hO3 hC3)
        have HS4 : Hid (SW w w3) := Lib.hid (Below.trans HS3.out (hC3.below HO2.out))
        go_ret
        exact HE.out _ _ _ HS4.out hO3 (by simp)
      · have HT : Hid (∀ W, SW w W → ∀ c2, RowL 1 encPt W (.slice (some ⟨g, 0, none⟩) 0 c2) (ps.take 0)) := Lib.hid (fun W h c2 => row_cap (row_take (by have := HN.out; omega) (HV.out.more h)))
        have HD : Hid (∀ W, SW w W → RowL 1 encPt W (.slice (some ⟨g, 0, none⟩) n cap) (ps.drop 0)) := Lib.hid (fun W h => by have h1 := HV.out.more h; rw [← HN.out] at h1; exact h1)
        have HNT : Hid ((ps.take 0).length ≤ 1000000) := Lib.hid (by rw [List.length_take]; have := HSZ.out; omega)
        have HND : Hid ((ps.drop 0).length ≤ 1000000) := Lib.hid (by rw [List.length_drop]; have := HSZ.out; omega)
        go_upto_region 4 with fail
        have HO0 := Lib.hid (ROwn.new (e := ptT) (sz := 1) (enc := encPt) (B := w.heap.size) (w := wr) (hS).size ([] : List Pth) rtPt.len (cs := #[]) rfl (by simp))
        have HS1 : Hid (SW w (wr.alloc (.cells #[] ptT))) := Lib.hid (Below.trans hS (Below.mono (bel_alloc _ _) (hS).size))
        have HM1 : Hid (([] : List Pth).length + (ps.take 0).length ≤ 100000000) := Lib.hid (by have := HNT.out; simp only [List.length_nil]; omega)
        have HM2 : Hid ((([] : List Pth) ++ ps.take 0).length ≤ 100000000) := Lib.hid (by have := HNT.out; simp only [List.nil_append]; omega)
        have HM3 : Hid (((([] : List Pth) ++ ps.take 0) ++ [x]).length + (ps.drop 0).length ≤ 100000000) := Lib.hid (by have := HNT.out; have := HND.out; simp only [List.nil_append, List.length_append, List.length_singleton]; omega)
        clear hS hn hkn HA0 HK HNT HND
        go_upto_region 5 with (at_builtin; refine wpList_rappl rtPt rfl _ _ rfl HO0.out rfl (ps.take 0) _ rfl (HT.out _ HS1.out _) HM1.out ?_; intro v1 w1 hO1 hC1)
        have HS2 : Hid (SW w w1) := Lib.hid (Below.trans HS1.out (hC1.below HO0.out))
        have HO1 := Lib.hid hO1
        clear hO1 hC1 HO0 HS1
        go_upto_region 6 with (at_builtin; refine wpList_rapp rtPt rfl _ _ rfl HO1.out rfl (bel_alloc _ _) _ x _ rfl (cs := #[.slice (some ⟨x.b, 0, none⟩) x.l.length x.c]) rfl (heap_alloc_new _ _) HM2.out ?_; intro v2 w2 hO2 hC2)
        have HS3 : Hid (SW w w2) := Lib.hid (Below.trans HS2.out (hC2.below HO1.out))
        have HO2 := Lib.hid hO2
        clear hO2 hC2 HO1 HS2
        go_wp2_with (at_builtin; refine wpList_rappl rtPt rfl _ _ rfl HO2.out rfl (ps.drop 0) _ rfl (HD.out _ HS3.out) HM3.out ?_; intro v3 w3 hO3 hC3)
        have HS4 : Hid (SW w w3) := Lib.hid (Below.trans HS3.out (hC3.below HO2.out))
        go_ret
        exact HE.out _ _ _ HS4.out hO3 (by simp)
    | succ j =>
      obtain ⟨y, hy⟩ : ∃ y, ps[j]? = some y := ⟨_, List.getElem?_eq_getElem (by have := HN.out; omega)⟩
      have HM := Lib.hid (List.mem_of_getElem? hy)
      obtain ⟨b, o, e1, _, hc⟩ := row_get (HV.out.more hS) hy
      have hcy := hc 0 _ rfl
      rw [Nat.add_zero, Nat.mul_one] at hcy
      have HG : Hid ((lss ps).getD j [] = y.l) := Lib.hid (by unfold lss; rw [List.getD_eq_getElem?_getD, List.getElem?_map, hy]; rfl)
      have KAy := Lib.hid (KA.out y HM.out)
      have HAE := Lib.hid e1
      clear hy hc
      subst e1
      have k1 : 0 < (j : Int) + 1 := by omega
      have k2 : (0 : Int) < ((j + 1 : Nat) : Int) := by omega
      have k3 : (j : Int) < (n : Int) := by omega
      have w1 : IntKind.i64.wrap (j : Int) = (j : Int) := IntWalk.i64_in _ (by omega)
      cases hc : decide (cfP S x.l y.l < 0) with
      | true =>
        rw [hc] at KAy
        have HK2 : Hid (atP S (lss ps) x.l (lss ps).length = atP S (lss ps) x.l j) := Lib.hid (by rw [HK.out]; show (if _ then _ else _) = _; rw [HG.out, if_pos (of_decide_eq_true hc)])
        clear hc HK
        go_wp2_with ((go_at_call 42; refine (KAy.out _ hS).mono ?_; rintro e w6 ⟨rfl, hS6⟩))
        go_roundg j
        case measure => have := HKX.out; omega
        case rel => exact ⟨j, by go_num, rfl, by omega, HK2, hS6⟩
      | false =>
        rw [hc] at KAy
        have hat : atP S (lss ps) x.l (j + 1) = j + 1 := by show (if _ then _ else _) = _; rw [HG.out, if_neg (of_decide_eq_false hc)]
        have HE := Lib.hid (fun W v' ps' => HA0.out (j + 1) (by have := HN.out; omega) HK hat W v' ps')
        clear hc hat
        have ha0 : j + 1 ≤ n := hkn
        have hac : j + 1 ≤ cap := HF.out.elim (fun h => by cases h.1) (fun ⟨g, _, h⟩ => by have := HN.out; omega)
        have hnc : Hid (n ≤ cap) := Lib.hid (HF.out.elim (fun h => by cases h.1) (fun ⟨g, _, h⟩ => by have := HN.out; omega))
        by_cases hce : cap = j + 1
        · have HT : Hid (∀ W, SW w W → ∀ c2, RowL 1 encPt W (.slice (some ⟨b, o, none⟩) (j + 1) c2) (ps.take (j + 1))) := Lib.hid (fun W h c2 => row_cap (row_take (by have := HN.out; omega) (HV.out.more h)))
          have HD : Hid (∀ W, SW w W → ∀ A' c', RowL 1 encPt W (.slice A' (n - (j + 1)) c') (ps.drop (j + 1))) := Lib.hid (fun W h A' c' => ⟨A', c', by rw [List.length_drop, HN.out], .inl (List.drop_eq_nil_of_le (by have := hnc.out; have := HN.out; omega))⟩)
          have HNT : Hid ((ps.take (j + 1)).length ≤ 1000000) := Lib.hid (by rw [List.length_take]; have := HSZ.out; omega)
          have HND : Hid ((ps.drop (j + 1)).length ≤ 1000000) := Lib.hid (by rw [List.length_drop]; have := HSZ.out; omega)
          go_upto_region 4 with ((go_at_call 42; refine (KAy.out _ hS).mono ?_; rintro e w6 ⟨rfl, hS6⟩))
          have HO0 := Lib.hid (ROwn.new (e := ptT) (sz := 1) (enc := encPt) (B := w.heap.size) (w := w6) (hS6).size ([] : List Pth) rtPt.len (cs := #[]) rfl (by simp))
          have HS1 : Hid (SW w (w6.alloc (.cells #[] ptT))) := Lib.hid (Below.trans hS6 (Below.mono (bel_alloc _ _) (hS6).size))
          have HM1 : Hid (([] : List Pth).length + (ps.take (j + 1)).length ≤ 100000000) := Lib.hid (by have := HNT.out; simp only [List.length_nil]; omega)
          have HM2 : Hid ((([] : List Pth) ++ ps.take (j + 1)).length ≤ 100000000) := Lib.hid (by have := HNT.out; simp only [List.nil_append]; omega)
          have HM3 : Hid (((([] : List Pth) ++ ps.take (j + 1)) ++ [x]).length + (ps.drop (j + 1)).length ≤ 100000000) := Lib.hid (by have := HNT.out; have := HND.out; simp only [List.nil_append, List.length_append, List.length_singleton]; omega)
          clear hS hS6 hn hkn HA0 HK HNT HND
          go_upto_region 5 with (at_builtin; refine wpList_rappl rtPt rfl _ _ rfl HO0.out rfl (ps.take (j + 1)) _ rfl (HT.out _ HS1.out _) HM1.out ?_; intro v1 w1 hO1 hC1)
          have HS2 : Hid (SW w w1) := Lib.hid (Below.trans HS1.out (hC1.below HO0.out))
          have HO1 := Lib.hid hO1
          clear hO1 hC1 HO0 HS1
          go_upto_region 6 with (at_builtin; refine wpList_rapp rtPt rfl _ _ rfl HO1.out rfl (bel_alloc _ _) _ x _ rfl (cs := #[.slice (some ⟨x.b, 0, none⟩) x.l.length x.c]) rfl (heap_alloc_new _ _) HM2.out ?_; intro v2 w2 hO2 hC2)
          have HS3 : Hid (SW w w2) := Lib.hid (Below.trans HS2.out (hC2.below HO1.out))
          have HO2 := Lib.hid hO2
          clear hO2 hC2 HO1 HS2
          go_wp2_with (at_builtin; refine wpList_rappl rtPt rfl _ _ rfl HO2.out rfl (ps.drop (j + 1)) _ rfl (HD.out _ HS3.out _ _) HM3.out ?_; intro v3 w3 hO3 hC3)
          have HS4 : Hid (SW w w3) := Lib.hid (Below.trans HS3.out (hC3.below HO2.out))
          go_ret
          exact HE.out _ _ _ HS4.out hO3 (by simp)
        · have HT : Hid (∀ W, SW w W → ∀ c2, RowL 1 encPt W (.slice (some ⟨b, o, none⟩) (j + 1) c2) (ps.take (j + 1))) := Lib.hid (fun W h c2 => row_cap (row_take (by have := HN.out; omega) (HV.out.more h)))
          have HD : Hid (∀ W, SW w W → RowL 1 encPt W (.slice (some ⟨b, o + (j + 1), none⟩) (n - (j + 1)) (cap - (j + 1))) (ps.drop (j + 1))) := Lib.hid (fun W h => by have h1 := row_drop (a := j + 1) HF.out (by have := HN.out; omega) (HV.out.more h); rw [← HN.out] at h1; unfold dropV at h1; rw [if_neg hce, Nat.mul_one] at h1; exact h1)
          have HNT : Hid ((ps.take (j + 1)).length ≤ 1000000) := Lib.hid (by rw [List.length_take]; have := HSZ.out; omega)
          have HND : Hid ((ps.drop (j + 1)).length ≤ 1000000) := Lib.hid (by rw [List.length_drop]; have := HSZ.out; omega)
          go_upto_region 4 with ((go_at_call 42; refine (KAy.out _ hS).mono ?_; rintro e w6 ⟨rfl, hS6⟩))
          have HO0 := Lib.hid (ROwn.new (e := ptT) (sz := 1) (enc := encPt) (B := w.heap.size) (w := w6) (hS6).size ([] : List Pth) rtPt.len (cs := #[]) rfl (by simp))
          have HS1 : Hid (SW w (w6.alloc (.cells #[] ptT))) := Lib.hid (Below.trans hS6 (Below.mono (bel_alloc _ _) (hS6).size))
          have HM1 : Hid (([] : List Pth).length + (ps.take (j + 1)).length ≤ 100000000) := Lib.hid (by have := HNT.out; simp only [List.length_nil]; omega)
          have HM2 : Hid ((([] : List Pth) ++ ps.take (j + 1)).length ≤ 100000000) := Lib.hid (by have := HNT.out; simp only [List.nil_append]; omega)
          have HM3 : Hid (((([] : List Pth) ++ ps.take (j + 1)) ++ [x]).length + (ps.drop (j + 1)).length ≤ 100000000) := Lib.hid (by have := HNT.out; have := HND.out; simp only [List.nil_append, List.length_append, List.length_singleton]; omega)
          clear hS hS6 hn hkn HA0 HK HNT HND
          go_upto_region 5 with (at_builtin; refine wpList_rappl rtPt rfl _ _ rfl HO0.out rfl (ps.take (j + 1)) _ rfl (HT.out _ HS1.out _) HM1.out ?_; intro v1 w1 hO1 hC1)
          have HS2 : Hid (SW w w1) := Lib.hid (Below.trans HS1.out (hC1.below HO0.out))
          have HO1 := Lib.hid hO1
          clear hO1 hC1 HO0 HS1
          go_upto_region 6 with (at_builtin; refine wpList_rapp rtPt rfl _ _ rfl HO1.out rfl (bel_alloc _ _) _ x _ rfl (cs := #[.slice (some ⟨x.b, 0, none⟩) x.l.length x.c]) rfl (heap_alloc_new _ _) HM2.out ?_; intro v2 w2 hO2 hC2)
          have HS3 : Hid (SW w w2) := Lib.hid (Below.trans HS2.out (hC2.below HO1.out))
          have HO2 := Lib.hid hO2
          clear hO2 hC2 HO1 HS2
          go_wp2_with (at_builtin; refine wpList_rappl rtPt rfl _ _ rfl HO2.out rfl (ps.drop (j + 1)) _ rfl (HD.out _ HS3.out) HM3.out ?_; intro v3 w3 hO3 hC3)
          have HS4 : Hid (SW w w3) := Lib.hid (Below.trans HS3.out (hC3.below HO2.out))
          go_ret
          exact HE.out _ _ _ HS4.out hO3 (by simp)
end Go.Proofs.YtkcdifanhdakhaaDoor.Con

/- Walk of the reference's longer. -/
namespace Go.Proofs.YtkcdifanhdakhaaDoor.Con
open Go.RowKit Go.Shelf
set_option linter.unusedSimpArgs false
set_option linter.unusedVariables false

/-- a journey whose block holds ints -/
def PK (x : Pth) (W : World) : Prop := PthAt W x ∧ ∃ cs, W.heap[x.b]? = some (.cells cs inT (0, 0))
theorem PK.app {x : Pth} {W W' : World} {B : Nat} {v v' : Value} {l : List Pth} (h : PK x W) (hO : ROwn ptT 1 encPt B W v l) (hC : Chg W W' v v') : PK x W' := by
  obtain ⟨h1, cs, h2⟩ := h
  have hne := int_not_own h2 hO.own
  exact ⟨⟨Nat.lt_of_lt_of_le h1.1 hC.but.size, fun i k hk => hC.cell (h1.2 i k hk) hne⟩, cs, (hC.but.block x.b h1.1 hne).trans h2⟩
theorem PK.more {x : Pth} {W W' : World} (h : PK x W) (hb : Below W.heap.size W W') : PK x W' := by
  obtain ⟨h1, cs, h2⟩ := h
  exact ⟨pthAt_more h1 hb, cs, (hb.block x.b h1.1).trans h2⟩
theorem pk_own {B : Nat} {W : World} {v : Value} {l : List Nat} (hO : ROwn inT 1 encN B W v l) (h : 0 < l.length) : ∃ g cap, v = .slice (some ⟨g, 0, none⟩) l.length cap ∧ PK ⟨g, cap, l⟩ W := by
  have hr := hO.rowL rtN.len
  rcases hO.own.2 with ⟨rfl, h0⟩ | ⟨g, cap, cur, rfl, _, hg, _, _, _, _⟩
  · omega
  · refine ⟨g, cap, rfl, ⟨(Array.getElem?_eq_some_iff.1 hg).1, fun i k hk => ?_⟩, cur, hg⟩
    obtain ⟨b, o, e, _, hc⟩ := row_get hr hk
    cases e
    have := hc 0 _ rfl
    rw [Nat.add_zero, Nat.mul_one, Nat.zero_add] at this
    exact this
theorem blk_app {b : Nat} {cs : Array Value} {W W' : World} {B : Nat} {v v' : Value} {l : List Pth} (h : W.heap[b]? = some (.cells cs sgT (0, 0))) (hO : ROwn ptT 1 encPt B W v l) (hC : Chg W W' v v') : W'.heap[b]? = some (.cells cs sgT (0, 0)) := by
  refine (hC.but.block b (Array.getElem?_eq_some_iff.1 h).1 (fun e => ?_)).trans h
  rcases hO.own.2 with ⟨rfl, _⟩ | ⟨g, cap, cur, rfl, _, hgb, _⟩
  · simp [Value.ownBlock] at e
  · obtain rfl : g = b := by simpa [Value.ownBlock] using e
    have := h.symm.trans hgb
    simp at this
    exact absurd this.2 (by decide)
theorem sg_at {W : World} {b : Nat} {s : Sg} (h : W.heap[b]? = some (.cells #[.string s.car, .int .i64 s.num, .int .i64 s.day, .string s.f, .string s.t, .int .i64 s.dep, .int .i64 s.arr] sgT (0, 0))) (j : Nat) (u : Value) (hu : (encSg s)[j]? = some u) : W.cell? ⟨b, j, none⟩ = some u :=
  (cell_of_row W b j _ _ (0, 0) h).trans (by rw [← hu]; exact (List.getElem?_toArray ..).symm ▸ rfl)
/-- what longer tells -/
def LonR (l : List Cn) (S : List Sg) (fr : ByteArray) (ps : List Pth) (w : World) (e : Ending) (w' : World) : Prop :=
  ∃ v' ps', e = .returned v' ∧ ROwn ptT 1 encPt w.heap.size w' v' ps' ∧ lss ps' = longP l S fr (lss ps) ∧ (∀ y ∈ ps', PK y w') ∧ Below w.heap.size w w'
theorem ext_succ (l : List Cn) (S : List Sg) (fr : ByteArray) (p : List Nat) (k : Nat) : extP l S fr p (k + 1) = extP l S fr p k ++ (if extB l S fr p k then [p ++ [k]] else []) := by
  unfold extP
  rw [List.range_succ, List.filter_append, List.map_append]
  congr 1
  rw [List.filter_cons]
  cases extB l S fr p k <;> simp
theorem ext_len (l : List Cn) (S : List Sg) (fr : ByteArray) (p : List Nat) (k : Nat) : (extP l S fr p k).length ≤ k := by
  unfold extP
  rw [List.length_map]
  have := List.length_filter_le (fun k => extB l S fr p k) (List.range k)
  simpa using this
theorem long_take (l : List Cn) (S : List Sg) (fr : ByteArray) {ps : List (List Nat)} {i : Nat} {p : List Nat} (h : ps[i]? = some p) : longP l S fr (ps.take (i + 1)) = longP l S fr (ps.take i) ++ extP l S fr p S.length := by
  unfold longP
  rw [List.take_add_one, h, List.flatMap_append]
  simp
theorem long_len (l : List Cn) (S : List Sg) (fr : ByteArray) : ∀ (ps : List (List Nat)), (longP l S fr ps).length ≤ ps.length * S.length
  | [] => by simp [longP]
  | p :: ps => by
    have h1 := long_len l S fr ps
    have h2 := ext_len l S fr p S.length
    unfold longP at h1 ⊢
    rw [List.flatMap_cons, List.length_append, List.length_cons, Nat.add_mul, Nat.one_mul]
    omega

set_option maxRecDepth 100000 in
set_option maxHeartbeats 16000000 in
theorem longer_any (Al : Option Addr) (cl : Nat) (l : List Cn) (As : Option Addr) (cs : Nat) (S : List Sg) (fr : ByteArray) (Ap : Option Addr) (cp : Nat) (ps : List Pth) (w : World) (hv : CnL w (.slice Al l.length cl) l) (hS : SgL w (.slice As S.length cs) S) (hr : RowL 1 encPt w (.slice Ap ps.length cp) ps) (hp : ∀ y ∈ ps, PthAt w y)
    (hj : ∀ y ∈ ps, OkJ S y ∧ ∀ i ∈ y.l, i < S.length) (hln : l.length ≤ 1000) (hsn : S.length ≤ 1000) (hn : ps.length ≤ 10000) (ht : ∀ s ∈ S, tmB s) :
    Calls Tryd.prog 22 #[.slice Al l.length cl, .slice As S.length cs, .string fr, .slice Ap ps.length cp] w (LonR l S fr ps w) := by
  have HV := Lib.hid hv
  have HSG := Lib.hid hS
  have HRW := Lib.hid hr
  have HP := Lib.hid hp
  have HJ := Lib.hid hj
  have HT := Lib.hid ht
  have HSZ : Hid (ps.length ≤ 10000 ∧ S.length ≤ 1000 ∧ l.length ≤ 1000) := Lib.hid ⟨hn, hsn, hln⟩
  have HEND : Hid (∀ W v ys, ROwn ptT 1 encPt w.heap.size W v ys → lss ys = longP l S fr ((lss ps).take ps.length) → (∀ y ∈ ys, PK y W) → SW w W → LonR l S fr ps w (.returned v) W) := Lib.hid (fun W v ys hO h1 h2 h3 => ⟨v, ys, rfl, hO, by rw [h1, List.take_of_length_le (by unfold lss; rw [List.length_map]; exact Nat.le_refl _)], h2, h3⟩)
  obtain ⟨n, hnn⟩ : ∃ n, n = ps.length := ⟨_, rfl⟩
  obtain ⟨sn, hss⟩ : ∃ sn, sn = S.length := ⟨_, rfl⟩
  have HN := Lib.hid hnn
  have HSN := Lib.hid hss
  rw [← hnn] at hn
  rw [← hss] at hsn
  rw [← hnn, ← hss]
  have H0 : Hid (∀ W, SW w W → ROwn ptT 1 encPt w.heap.size W (.slice none 0 0) ([] : List Pth)) := Lib.hid (fun W h => ROwn.nil h.size)
  clear hv hS hr hp hj ht hnn hss
  go_enter Tryd.func22, Tryd.ntmps22
  go_wp2
  go_loopg [9, 10] n (fun kx v9 v10 wr => ∃ (i : Nat) (v : Value), v = v9 ∧ v10 = .int .i64 i ∧ i + kx = n ∧ Hid (∃ ys, ROwn ptT 1 encPt w.heap.size wr v ys ∧ lss ys = longP l S fr ((lss ps).take i) ∧ (∀ y ∈ ys, PK y wr) ∧ SW w wr))
  case atStart => exact ⟨0, _, rfl, rfl, by omega, Lib.hid ⟨[], H0.out _ (Below.refl _ _), by rw [List.take_zero]; rfl, by simp, Below.refl _ _⟩⟩
  case round =>
    obtain ⟨i, v, rfl, rfl, hix, HR⟩ := hrel
    have HIX := Lib.hid hix
    by_cases hlt : i < n
    rotate_left
    · have i1 : ¬ (i : Int) < (n : Int) := by omega
      obtain ⟨ys, hO, h1, h2, h3⟩ := HR.out
      have hin : i = n := by omega
      have HF := Lib.hid (HEND.out wr v ys hO (by rw [h1, hin, HN.out]) h2 h3)
      clear hO h1 h2 h3 HEND hin hix
      go_wp2
      go_ret
      exact HF.out
    obtain ⟨x, hx⟩ : ∃ x, ps[i]? = some x := ⟨_, List.getElem?_eq_getElem (by have := HN.out; omega)⟩
    have HXM := Lib.hid (List.mem_of_getElem? hx)
    have HXI := Lib.hid hx
    obtain ⟨bP, oP, e1, _, hcx⟩ := row_get HRW.out hx
    have dX := hcx 0 _ rfl
    rw [Nat.add_zero, Nat.mul_one] at dX
    obtain ⟨m, hm⟩ : ∃ m, x.l.length = m + 1 := ⟨x.l.length - 1, by have := (HJ.out x HXM.out).1.1.1; omega⟩
    rw [hm] at dX
    have HM := Lib.hid hm
    have hm3 : m < 1000 := by have := (HJ.out x HXM.out).1.1.2; omega
    have hls := (HJ.out x HXM.out).1.2
    have hSC : ∃ bb off, As = some ⟨bb, off, none⟩ ∧ Hid (∀ q, q < S.length → ∀ j u, (encSg (sA S q))[j]? = some u → ∀ W, SW w W → W.cell? ⟨bb, off + q * 7 + j, none⟩ = some u) := by
      obtain ⟨A', c', e, hc⟩ := HSG.out
      cases e
      rcases hc with hc | ⟨b, o, e2, hlt, hc⟩
      · rw [hc] at hls; simp at hls
      · exact ⟨b, o, e2, Lib.hid (fun q hq j u hu W hW => bel_get (hc q _ j u (sA_get hq) hu) _ hW)⟩
    obtain ⟨bb, off, eS, HC⟩ := hSC
    obtain ⟨q, hq⟩ : ∃ q, q = lst x.l := ⟨_, rfl⟩
    have HQ := Lib.hid hq
    have dL := (HP.out x HXM.out).2 m q (by rw [hq]; exact lst_get hm)
    rw [← hq] at hls
    have HRX : Hid (∀ W, SW w W → W.cell? ⟨bP, oP + i, none⟩ = some (.slice (some ⟨x.b, 0, none⟩) (m + 1) x.c)) := Lib.hid (bel_get dX)
    have HRL : Hid (∀ W, SW w W → W.cell? ⟨x.b, m, none⟩ = some (.int .i64 (q : Int))) := Lib.hid (bel_get dL)
    have HSW : Hid (SW w wr) := Lib.hid (by obtain ⟨ys, _, _, _, h⟩ := HR.out; exact h)
    have HUP : Hid (∀ W, SW wr W → SW w W) := Lib.hid (fun W h => Below.trans HSW.out (Below.mono h HSW.out.size))
    obtain ⟨s, hs⟩ : ∃ s, s = sA S q := ⟨_, rfl⟩
    have HSQ := Lib.hid hs
    have F0 : ∀ W, SW wr W → W.cell? ⟨bP, oP + i, none⟩ = some (.slice (some ⟨x.b, 0, none⟩) (m + 1) x.c) := fun W h => HRX.out W (HUP.out W h)
    have F1 : ∀ W, SW wr W → W.cell? ⟨x.b, m, none⟩ = some (.int .i64 (q : Int)) := fun W h => HRL.out W (HUP.out W h)
    have G0 : ∀ W, SW wr W → W.cell? ⟨bb, off + q * 7, none⟩ = some (.string s.car) := fun W h => hs ▸ HC.out q hls 0 _ rfl W (HUP.out W h)
    have G1 : ∀ W, SW wr W → W.cell? ⟨bb, off + q * 7 + 1, none⟩ = some (.int .i64 s.num) := fun W h => hs ▸ HC.out q hls 1 _ rfl W (HUP.out W h)
    have G2 : ∀ W, SW wr W → W.cell? ⟨bb, off + q * 7 + 2, none⟩ = some (.int .i64 s.day) := fun W h => hs ▸ HC.out q hls 2 _ rfl W (HUP.out W h)
    have G3 : ∀ W, SW wr W → W.cell? ⟨bb, off + q * 7 + 3, none⟩ = some (.string s.f) := fun W h => hs ▸ HC.out q hls 3 _ rfl W (HUP.out W h)
    have G4 : ∀ W, SW wr W → W.cell? ⟨bb, off + q * 7 + 4, none⟩ = some (.string s.t) := fun W h => hs ▸ HC.out q hls 4 _ rfl W (HUP.out W h)
    have G5 : ∀ W, SW wr W → W.cell? ⟨bb, off + q * 7 + 5, none⟩ = some (.int .i64 s.dep) := fun W h => hs ▸ HC.out q hls 5 _ rfl W (HUP.out W h)
    have G6 : ∀ W, SW wr W → W.cell? ⟨bb, off + q * 7 + 6, none⟩ = some (.int .i64 s.arr) := fun W h => hs ▸ HC.out q hls 6 _ rfl W (HUP.out W h)
    have i1 : (i : Int) < (n : Int) := by omega
    have i2 : (m : Int) < (m : Int) + 1 := by omega
    have i3 : (m : Int) < ((m + 1 : Nat) : Int) := by omega
    have i4 : (q : Int) < (sn : Int) := by have := HSN.out; omega
    have w1 : IntKind.i64.wrap (m : Int) = (m : Int) := IntWalk.i64_in _ (by omega)
    clear hx hcx dX dL hm hq hs hix hls
    subst e1 eS
    go_upto_region 5 with fail
    have hS : (SW wr) _ := (Below.refl _ _).drew
    refine wp_region_held_drew (S := SW wr) (by kernel_rfl) hS (fun _ => ?_)
    refine wpAnyH_take (i := 0) (v := ?vC0) rfl (by kernel_rfl) (by kernel_rfl) (by kernel_rfl) (fun _ _ _ h => h) (Or.inl ⟨by rfl, ?hyC0⟩) hS ?restC0
    case hyC0 =>
      intro w hSw
      first | (go_simp; done) | (go_simp; with_reducible rfl)
    try simp only [Act.put, List.setIfInBounds_toArray, List.set_cons_zero, List.set_cons_succ]
    refine wpAnyH_take (i := 1) (v := ?vC1) rfl (by kernel_rfl) (by kernel_rfl) (by kernel_rfl) (fun _ _ _ h => h) (Or.inl ⟨by rfl, ?hyC1⟩) hS ?restC1
    case hyC1 =>
      intro w hSw
      first | (go_simp; done) | (go_simp; with_reducible rfl)
    try simp only [Act.put, List.setIfInBounds_toArray, List.set_cons_zero, List.set_cons_succ]
    refine wpAnyH_take (i := 2) (v := ?vC2) rfl (by kernel_rfl) (by kernel_rfl) (by kernel_rfl) (fun _ _ _ h => h) (Or.inl ⟨by rfl, ?hyC2⟩) hS ?restC2
    case hyC2 =>
      intro w hSw
      first | (go_simp; done) | (go_simp; with_reducible rfl)
    try simp only [Act.put, List.setIfInBounds_toArray, List.set_cons_zero, List.set_cons_succ]
    refine wpAnyH_take (i := 3) (v := ?vC3) rfl (by kernel_rfl) (by kernel_rfl) (by kernel_rfl) (fun _ _ _ h => h) (Or.inl ⟨by rfl, ?hyC3⟩) hS ?restC3
    case hyC3 =>
      intro w hSw
      have k0 := F0 w hSw; have k1 := F1 w hSw; have k2 := G0 w hSw; have k3 := G1 w hSw; have k4 := G2 w hSw; have k5 := G3 w hSw; have k6 := G4 w hSw; have k7 := G5 w hSw; have k8 := G6 w hSw
      first | (go_simp; done) | (go_simp; with_reducible rfl)
    try simp only [Act.put, List.setIfInBounds_toArray, List.set_cons_zero, List.set_cons_succ]
    refine wpAnyH_take (i := 4) (v := ?vC4) rfl (by kernel_rfl) (by kernel_rfl) (by kernel_rfl) (fun _ _ _ h => h) (Or.inl ⟨by rfl, ?hyC4⟩) hS ?restC4
    case hyC4 =>
      intro w hSw
      have k0 := F0 w hSw; have k1 := F1 w hSw; have k2 := G0 w hSw; have k3 := G1 w hSw; have k4 := G2 w hSw; have k5 := G3 w hSw; have k6 := G4 w hSw; have k7 := G5 w hSw; have k8 := G6 w hSw
      first | (go_simp; done) | (go_simp; with_reducible rfl)
    try simp only [Act.put, List.setIfInBounds_toArray, List.set_cons_zero, List.set_cons_succ]
    refine wpAnyH_take (i := 5) (v := ?vC5) rfl (by kernel_rfl) (by kernel_rfl) (by kernel_rfl) (fun _ _ _ h => h) (Or.inl ⟨by rfl, ?hyC5⟩) hS ?restC5
    case hyC5 =>
      intro w hSw
      first | (go_simp; done) | (go_simp; with_reducible rfl)
    try simp only [Act.put, List.setIfInBounds_toArray, List.set_cons_zero, List.set_cons_succ]
    refine wpAnyH_take (i := 6) (v := ?vC6) rfl (by kernel_rfl) (by kernel_rfl) (by kernel_rfl) (fun _ _ _ h => h) (Or.inl ⟨by rfl, ?hyC6⟩) hS ?restC6
    case hyC6 =>
      intro w hSw
      first | (go_simp; done) | (go_simp; with_reducible rfl)
    try simp only [Act.put, List.setIfInBounds_toArray, List.set_cons_zero, List.set_cons_succ]
    refine wpAnyH_take (i := 7) (v := ?vC7) rfl (by kernel_rfl) (by kernel_rfl) (by kernel_rfl) (fun _ _ _ h => h) (Or.inl ⟨by rfl, ?hyC7⟩) hS ?restC7
    case hyC7 =>
      intro w hSw
      have k0 := F0 w hSw; have k1 := F1 w hSw; have k2 := G0 w hSw; have k3 := G1 w hSw; have k4 := G2 w hSw; have k5 := G3 w hSw; have k6 := G4 w hSw; have k7 := G5 w hSw; have k8 := G6 w hSw
      first | (go_simp; done) | (go_simp; with_reducible rfl)
    try simp only [Act.put, List.setIfInBounds_toArray, List.set_cons_zero, List.set_cons_succ]
    refine wpAnyH_take (i := 8) (v := ?vC8) rfl (by kernel_rfl) (by kernel_rfl) (by kernel_rfl) (fun _ _ _ h => h) (Or.inl ⟨by rfl, ?hyC8⟩) hS ?restC8
    case hyC8 =>
      intro w hSw
      have k0 := F0 w hSw; have k1 := F1 w hSw; have k2 := G0 w hSw; have k3 := G1 w hSw; have k4 := G2 w hSw; have k5 := G3 w hSw; have k6 := G4 w hSw; have k7 := G5 w hSw; have k8 := G6 w hSw
      first | (go_simp; done) | (go_simp; with_reducible rfl)
    try simp only [Act.put, List.setIfInBounds_toArray, List.set_cons_zero, List.set_cons_succ]
    refine wpAnyH_take (i := 9) (v := ?vC9) rfl (by kernel_rfl) (by kernel_rfl) (by kernel_rfl) (fun _ _ _ h => h) (Or.inl ⟨by rfl, ?hyC9⟩) hS ?restC9
    case hyC9 =>
      intro w hSw
      first | (go_simp; done) | (go_simp; with_reducible rfl)
    try simp only [Act.put, List.setIfInBounds_toArray, List.set_cons_zero, List.set_cons_succ]
    refine wpAnyH_take (i := 10) (v := ?vC10) rfl (by kernel_rfl) (by kernel_rfl) (by kernel_rfl) (fun _ _ _ h => h) (Or.inl ⟨by rfl, ?hyC10⟩) hS ?restC10
    case hyC10 =>
      intro w hSw
      first | (go_simp; done) | (go_simp; with_reducible rfl)
    try simp only [Act.put, List.setIfInBounds_toArray, List.set_cons_zero, List.set_cons_succ]
    refine wpAnyH_take (i := 11) (v := ?vC11) rfl (by kernel_rfl) (by kernel_rfl) (by kernel_rfl) (fun _ _ _ h => h) (Or.inl ⟨by rfl, ?hyC11⟩) hS ?restC11
    case hyC11 =>
      intro w hSw
      have k0 := F0 w hSw; have k1 := F1 w hSw; have k2 := G0 w hSw; have k3 := G1 w hSw; have k4 := G2 w hSw; have k5 := G3 w hSw; have k6 := G4 w hSw; have k7 := G5 w hSw; have k8 := G6 w hSw
      first | (go_simp; done) | (go_simp; with_reducible rfl)
    try simp only [Act.put, List.setIfInBounds_toArray, List.set_cons_zero, List.set_cons_succ]
    refine wpAnyH_take (i := 12) (v := ?vC12) rfl (by kernel_rfl) (by kernel_rfl) (by kernel_rfl) (fun _ _ _ h => h) (Or.inl ⟨by rfl, ?hyC12⟩) hS ?restC12
    case hyC12 =>
      intro w hSw
      have k0 := F0 w hSw; have k1 := F1 w hSw; have k2 := G0 w hSw; have k3 := G1 w hSw; have k4 := G2 w hSw; have k5 := G3 w hSw; have k6 := G4 w hSw; have k7 := G5 w hSw; have k8 := G6 w hSw
      first | (go_simp; done) | (go_simp; with_reducible rfl)
    try simp only [Act.put, List.setIfInBounds_toArray, List.set_cons_zero, List.set_cons_succ]
    refine wpAnyH_take (i := 13) (v := ?vC13) rfl (by kernel_rfl) (by kernel_rfl) (by kernel_rfl) (fun _ _ _ h => h) (Or.inl ⟨by rfl, ?hyC13⟩) hS ?restC13
    case hyC13 =>
      intro w hSw
      have k0 := F0 w hSw; have k1 := F1 w hSw; have k2 := G0 w hSw; have k3 := G1 w hSw; have k4 := G2 w hSw; have k5 := G3 w hSw; have k6 := G4 w hSw; have k7 := G5 w hSw; have k8 := G6 w hSw
      first | (go_simp; done) | (go_simp; with_reducible rfl)
    try simp only [Act.put, List.setIfInBounds_toArray, List.set_cons_zero, List.set_cons_succ]
    refine wpAnyH_take (i := 14) (v := ?vC14) rfl (by kernel_rfl) (by kernel_rfl) (by kernel_rfl) (fun _ _ _ h => h) (Or.inl ⟨by rfl, ?hyC14⟩) hS ?restC14
    case hyC14 =>
      intro w hSw
      have k0 := F0 w hSw; have k1 := F1 w hSw; have k2 := G0 w hSw; have k3 := G1 w hSw; have k4 := G2 w hSw; have k5 := G3 w hSw; have k6 := G4 w hSw; have k7 := G5 w hSw; have k8 := G6 w hSw
      first | (go_simp; done) | (go_simp; with_reducible rfl)
    try simp only [Act.put, List.setIfInBounds_toArray, List.set_cons_zero, List.set_cons_succ]
    refine wpAnyH_ready (rs := [15]) (by kernel_rfl) (by simp) ?_
    refine AllReadyH.cons rfl (fun K hK => ?_) AllReadyH.nil
    go_simp
    have hSp := hS
    have hS : SW wr _ := Below.trans hSp (Below.mono (bel_alloc _ (.cells #[.string noB, .int .i64 0, .int .i64 0, .string noB, .string noB, .int .i64 0, .int .i64 0] sgT)) hSp.size)
    refine hK.out _ _ hS (fun _ => ?_)
    clear hK K
    refine wpAnyH_ready (rs := [16]) (by kernel_rfl) (by simp) ?_
    refine AllReadyH.cons rfl (fun K hK => ?_) AllReadyH.nil
    go_simp
    have hS : SW wr (wr.drew.alloc (.cells #[.string s.car, .int .i64 s.num, .int .i64 s.day, .string s.f, .string s.t, .int .i64 s.dep, .int .i64 s.arr] sgT)) := Below.trans hSp (Below.mono (bel_alloc _ _) hSp.size)
    refine hK.out _ _ hS (fun _ => ?_)
    clear hK K
    refine wpAnyH_done (by kernel_rfl) ?_ _
    try simp only [List.getElem_toArray, List.getElem_cons_succ, List.getElem_cons_zero, List.set_cons_zero, List.set_cons_succ]
    try simp only [List.setIfInBounds_toArray, List.set_cons_zero, List.set_cons_succ]
    have h9 : SW wr (wr.alloc (.cells #[.string s.car, .int .i64 s.num, .int .i64 s.day, .string s.f, .string s.t, .int .i64 s.dep, .int .i64 s.arr] sgT)).drew := Below.drew (bel_alloc wr (.cells #[.string s.car, .int .i64 s.num, .int .i64 s.day, .string s.f, .string s.t, .int .i64 s.dep, .int .i64 s.arr] sgT))
    clear F0 F1 G0 G1 G2 G3 G4 G5 G6 i2 i3 i4 w1
    obtain ⟨w9, hw9⟩ : ∃ w9, w9 = (wr.alloc (.cells #[.string s.car, .int .i64 s.num, .int .i64 s.day, .string s.f, .string s.t, .int .i64 s.dep, .int .i64 s.arr] sgT)).drew := ⟨_, rfl⟩
    obtain ⟨Bx, hBx⟩ : ∃ Bx, Bx = wr.heap.size := ⟨_, rfl⟩
    rw [← hw9] at h9
    rw [← hBx]
    try rw [← hw9]
    have HS9 : Hid (SW w w9) := Lib.hid (HUP.out _ h9)
    have HR9 : Hid (∃ ys, ROwn ptT 1 encPt w.heap.size w9 v ys ∧ lss ys = longP l S fr ((lss ps).take i) ++ extP l S fr x.l 0 ∧ (∀ y ∈ ys, PK y w9) ∧ SW w w9 ∧ w9.heap[Bx]? = some (.cells #[.string s.car, .int .i64 s.num, .int .i64 s.day, .string s.f, .string s.t, .int .i64 s.dep, .int .i64 s.arr] sgT (0, 0))) := Lib.hid (by
      obtain ⟨ys, hO, h1, h2, h3⟩ := HR.out
      exact ⟨ys, hO.more h9, by rw [h1]; simp [extP], fun y hy => (h2 y hy).more h9, HS9.out, by rw [hw9, hBx]; exact heap_alloc_new wr _⟩)
    clear hw9 hBx h9 hS
    go_wp2
    go_loopg [9, 12] sn (fun kx v9 v12 wq => ∃ (k : Nat) (u : Value), u = v9 ∧ v12 = .int .i64 k ∧ k + kx = sn ∧ Hid (∃ ys, ROwn ptT 1 encPt w.heap.size wq u ys ∧ lss ys = longP l S fr ((lss ps).take i) ++ extP l S fr x.l k ∧ (∀ y ∈ ys, PK y wq) ∧ SW w wq ∧ wq.heap[Bx]? = some (.cells #[.string s.car, .int .i64 s.num, .int .i64 s.day, .string s.f, .string s.t, .int .i64 s.dep, .int .i64 s.arr] sgT (0, 0))))
    case atStart => exact ⟨0, _, rfl, rfl, by omega, HR9⟩
    case round =>
      obtain ⟨k, u, rfl, rfl, hkx, HRk⟩ := hrel
      have HKX := Lib.hid hkx
      clear hkx HR HR9
      have HW9 : Hid (SW w wr ∧ wr.heap[Bx]? = some (.cells #[.string s.car, .int .i64 s.num, .int .i64 s.day, .string s.f, .string s.t, .int .i64 s.dep, .int .i64 s.arr] sgT (0, 0))) := Lib.hid (by obtain ⟨ys, _, _, _, h⟩ := HRk.out; exact h)
      have HWW : Hid (∀ W, SW wr W → SW w W) := Lib.hid (fun W h => Below.trans HW9.out.1 (Below.mono h HW9.out.1.size))
      have C : Hid (∀ W, SW wr W → W.heap[Bx]? = some (.cells #[.string s.car, .int .i64 s.num, .int .i64 s.day, .string s.f, .string s.t, .int .i64 s.dep, .int .i64 s.arr] sgT (0, 0))) := Lib.hid (fun W h => (h.block Bx (Array.getElem?_eq_some_iff.1 HW9.out.2).1).trans HW9.out.2)
      by_cases hk : k < sn
      rotate_left
      · have j1 : ¬ (k : Int) < (sn : Int) := by omega
        have HE : Hid (∃ ys, ROwn ptT 1 encPt w.heap.size wr u ys ∧ lss ys = longP l S fr ((lss ps).take (i + 1)) ∧ (∀ y ∈ ys, PK y wr) ∧ SW w wr) := Lib.hid (by
          obtain ⟨ys, hO, h1, h2, h3⟩ := HRk.out
          refine ⟨ys, hO, ?_, h2, HWW.out _ (Below.refl _ _)⟩
          have hks : k = S.length := by have := HSN.out; have := HKX.out; omega
          rw [h1, long_take l S fr (p := x.l) (by unfold lss; rw [List.getElem?_map, HXI.out]; rfl), hks])
        clear HRk
        go_wp2
        go_roundg (n - (i + 1))
        case measure => have := HIX.out; omega
        case rel => exact ⟨i + 1, u, rfl, by go_num, by have := HIX.out; omega, HE⟩
      have j1 : (k : Int) < (sn : Int) := by omega
      have hkS : k < S.length := by have := HSN.out; omega
      obtain ⟨y, hy⟩ : ∃ y, y = sA S k := ⟨_, rfl⟩
      have HTY : Hid (tmB y) := Lib.hid (hy ▸ HT.out _ (List.mem_of_getElem? (sA_get hkS)))
      have HTS : Hid (tmB s) := Lib.hid (HSQ.out ▸ HT.out _ (List.mem_of_getElem? (sA_get (by have := HQ.out; rw [this]; exact (HJ.out x HXM.out).1.2))))
      have HXT : Hid (extB l S fr x.l k = (fitB l s y && !visB S fr x.l y.t)) := Lib.hid (by unfold extB; rw [hy, HSQ.out, HQ.out])
      have HY : Hid (∀ j v, (encSg y)[j]? = some v → ∀ W, SW wr W → W.cell? ⟨bb, off + k * 7 + j, none⟩ = some v) := Lib.hid (fun j v hv W h => HC.out k hkS j v (by rw [← hy]; exact hv) W (HWW.out W h))
      have K0 := Lib.hid (fun W (h : SW wr W) => sw_call (fun W2 h2 => rfits_any (.slice Al l.length cl) l s y W2 (HV.out.more (HWW.out _ h2)) (by have := HSZ.out; omega) HTS.out HTY.out) W h)
      have K1 := Lib.hid (fun W (h : SW wr W) => sw_call (fun W2 h2 => (visits_any (some ⟨bb, off, none⟩) cs S fr y.t (.slice (some ⟨x.b, 0, none⟩) (m + 1) x.c) x.l W2 (HSG.out.more (HWW.out _ h2)) (by have h1 := pthAt_row (pthAt_more (HP.out x HXM.out) (HWW.out _ h2)); rw [HM.out] at h1; exact h1) (HJ.out x HXM.out).2 (HJ.out x HXM.out).1.1.2 (by have := HSZ.out; omega)).mono (by rintro e w' ⟨rfl, rfl⟩; exact ⟨rfl, Below.refl _ _⟩)) W h)
      rw [← HSN.out] at K1
      have hS1 : SW wr wr.drew := (Below.refl _ _).drew
      have f0 : ∀ z : Wd (SW wr), z.w.cell? ⟨bP, oP + i, none⟩ = some (Value.slice (some ⟨x.b, 0, none⟩) (m + 1) x.c) := fun z => HRX.out _ (HWW.out _ z.ok)
      have u0 : ∀ z : Wd (SW wr), z.w.cell? ⟨Bx, 0, none⟩ = some (Value.string s.car) := fun z => sg_at (C.out _ z.ok) 0 _ rfl
      have v0 : ∀ z : Wd (SW wr), z.w.cell? ⟨bb, off + k * 7, none⟩ = some (Value.string y.car) := fun z => HY.out 0 _ rfl _ z.ok
      have u1 : ∀ z : Wd (SW wr), z.w.cell? ⟨Bx, 1, none⟩ = some (Value.int .i64 s.num) := fun z => sg_at (C.out _ z.ok) 1 _ rfl
      have v1 : ∀ z : Wd (SW wr), z.w.cell? ⟨bb, off + k * 7 + 1, none⟩ = some (Value.int .i64 y.num) := fun z => HY.out 1 _ rfl _ z.ok
      have u2 : ∀ z : Wd (SW wr), z.w.cell? ⟨Bx, 2, none⟩ = some (Value.int .i64 s.day) := fun z => sg_at (C.out _ z.ok) 2 _ rfl
      have v2 : ∀ z : Wd (SW wr), z.w.cell? ⟨bb, off + k * 7 + 2, none⟩ = some (Value.int .i64 y.day) := fun z => HY.out 2 _ rfl _ z.ok
      have u3 : ∀ z : Wd (SW wr), z.w.cell? ⟨Bx, 3, none⟩ = some (Value.string s.f) := fun z => sg_at (C.out _ z.ok) 3 _ rfl
      have v3 : ∀ z : Wd (SW wr), z.w.cell? ⟨bb, off + k * 7 + 3, none⟩ = some (Value.string y.f) := fun z => HY.out 3 _ rfl _ z.ok
      have u4 : ∀ z : Wd (SW wr), z.w.cell? ⟨Bx, 4, none⟩ = some (Value.string s.t) := fun z => sg_at (C.out _ z.ok) 4 _ rfl
      have v4 : ∀ z : Wd (SW wr), z.w.cell? ⟨bb, off + k * 7 + 4, none⟩ = some (Value.string y.t) := fun z => HY.out 4 _ rfl _ z.ok
      have u5 : ∀ z : Wd (SW wr), z.w.cell? ⟨Bx, 5, none⟩ = some (Value.int .i64 s.dep) := fun z => sg_at (C.out _ z.ok) 5 _ rfl
      have v5 : ∀ z : Wd (SW wr), z.w.cell? ⟨bb, off + k * 7 + 5, none⟩ = some (Value.int .i64 y.dep) := fun z => HY.out 5 _ rfl _ z.ok
      have u6 : ∀ z : Wd (SW wr), z.w.cell? ⟨Bx, 6, none⟩ = some (Value.int .i64 s.arr) := fun z => sg_at (C.out _ z.ok) 6 _ rfl
      have v6 : ∀ z : Wd (SW wr), z.w.cell? ⟨bb, off + k * 7 + 6, none⟩ = some (Value.int .i64 y.arr) := fun z => HY.out 6 _ rfl _ z.ok
      clear hy hkS
      go_upto_region 9 with fail
      cases hf : fitB l s y with
      | false =>
        rw [hf] at K0 HXT
        have hNe : Nonempty (Wd (SW wr)) := ⟨⟨_, hS1⟩⟩
        refine quietS (S := SW wr) (by kernel_rfl) (by kernel_rfl) (hS1) ?_
        repeat (first | go_big_quiet_skip | (go_big_quiet_want; go_big_quiet_op; first | go_big_quiet_on | go_big_quiet_call (((go_at_call 43; exact quiet_S (K0.out _ (Wd.ok _)))))))
        refine wpQuiet_nil ?_
        rintro W ⟨⟨_, hW⟩, rfl⟩
        clear f0 u0 v0 u1 v1 u2 v2 u3 v3 u4 v4 u5 v5 u6 v6 K0 K1
        have HE : Hid (∃ ys, ROwn ptT 1 encPt w.heap.size W u ys ∧ lss ys = longP l S fr ((lss ps).take i) ++ extP l S fr x.l (k + 1) ∧ (∀ y ∈ ys, PK y W) ∧ SW w W ∧ W.heap[Bx]? = some (.cells #[.string s.car, .int .i64 s.num, .int .i64 s.day, .string s.f, .string s.t, .int .i64 s.dep, .int .i64 s.arr] sgT (0, 0))) := Lib.hid (by
          obtain ⟨ys, hO, h1, h2, h3⟩ := HRk.out
          exact ⟨ys, hO.more hW, by rw [h1, ext_succ, HXT.out]; simp, fun z hz => (h2 z hz).more hW, HWW.out _ hW, C.out _ hW⟩)
        clear hW HRk
        go_wp2
        go_roundg (sn - (k + 1))
        case measure => have := HKX.out; omega
        case rel => exact ⟨k + 1, u, rfl, by go_num, by have := HKX.out; omega, HE⟩
      | true =>
      rw [hf] at K0 HXT
      cases hvv : visB S fr x.l y.t with
      | true =>
        rw [hvv] at K1 HXT
        have hNe : Nonempty (Wd (SW wr)) := ⟨⟨_, hS1⟩⟩
        refine quietS (S := SW wr) (by kernel_rfl) (by kernel_rfl) (hS1) ?_
        repeat (first | go_big_quiet_skip | (go_big_quiet_want; go_big_quiet_op; first | go_big_quiet_on | go_big_quiet_call (((first | (go_at_call 43; exact quiet_S (K0.out _ (Wd.ok _))) | (go_at_call 44; exact quiet_S (K1.out _ (Wd.ok _))))))))
        refine wpQuiet_nil ?_
        rintro W ⟨⟨_, hW⟩, rfl⟩
        clear f0 u0 v0 u1 v1 u2 v2 u3 v3 u4 v4 u5 v5 u6 v6 K0 K1
        have HE : Hid (∃ ys, ROwn ptT 1 encPt w.heap.size W u ys ∧ lss ys = longP l S fr ((lss ps).take i) ++ extP l S fr x.l (k + 1) ∧ (∀ y ∈ ys, PK y W) ∧ SW w W ∧ W.heap[Bx]? = some (.cells #[.string s.car, .int .i64 s.num, .int .i64 s.day, .string s.f, .string s.t, .int .i64 s.dep, .int .i64 s.arr] sgT (0, 0))) := Lib.hid (by
          obtain ⟨ys, hO, h1, h2, h3⟩ := HRk.out
          exact ⟨ys, hO.more hW, by rw [h1, ext_succ, HXT.out]; simp, fun z hz => (h2 z hz).more hW, HWW.out _ hW, C.out _ hW⟩)
        clear hW HRk
        go_wp2
        go_roundg (sn - (k + 1))
        case measure => have := HKX.out; omega
        case rel => exact ⟨k + 1, u, rfl, by go_num, by have := HKX.out; omega, HE⟩
      | false =>
        rw [hvv] at K1 HXT
        have hNe : Nonempty (Wd (SW wr)) := ⟨⟨_, hS1⟩⟩
        refine quietS (S := SW wr) (by kernel_rfl) (by kernel_rfl) (hS1) ?_
        repeat (first | go_big_quiet_skip | (go_big_quiet_want; go_big_quiet_op; first | go_big_quiet_on | go_big_quiet_call (((first | (go_at_call 43; exact quiet_S (K0.out _ (Wd.ok _))) | (go_at_call 44; exact quiet_S (K1.out _ (Wd.ok _))))))))
        refine wpQuiet_nil ?_
        rintro W ⟨⟨_, hW⟩, rfl⟩
        clear f0 u0 v0 u1 v1 u2 v2 u3 v3 u4 v4 u5 v5 u6 v6 K0 K1
        go_upto_region 10 with fail
        have HO0 := Lib.hid (ROwn.new (e := inT) (sz := 1) (enc := encN) (B := W.heap.size) (w := W) (Nat.le_refl _) ([] : List Nat) rtN.len (cs := #[]) rfl (by simp))
        have HB0 : Hid (Below W.heap.size W (W.alloc (.cells #[] inT))) := Lib.hid (bel_alloc _ _)
        have d0 := HRX.out (W.alloc (.cells #[] inT)) (HWW.out _ (Below.trans hW (Below.mono HB0.out hW.size)))
        have HPX : Hid (NmL (W.alloc (.cells #[] inT)) (.slice (some ⟨x.b, 0, none⟩) (m + 1) x.c) x.l) := Lib.hid (by
          have h1 := pthAt_row (pthAt_more (HP.out x HXM.out) (HWW.out _ (Below.trans hW (Below.mono HB0.out hW.size))))
          rw [HM.out] at h1; exact h1)
        have HM1 : Hid (([] : List Nat).length + x.l.length ≤ 100000000) := Lib.hid (by have := (HJ.out x HXM.out).1.1.2; simp only [List.length_nil]; omega)
        have HM2 : Hid ((([] : List Nat) ++ x.l).length ≤ 100000000) := Lib.hid (by have := (HJ.out x HXM.out).1.1.2; simp only [List.nil_append]; omega)
        obtain ⟨ys, hOy, hy1, hy2, hy3⟩ := HRk.out
        have HOy := Lib.hid hOy
        have HY1 := Lib.hid hy1
        have HY2 := Lib.hid hy2
        have HWr := Lib.hid hW
        have HLN : Hid (ys.length ≤ 100000000) := Lib.hid (by
          have h1 := congrArg List.length hy1
          unfold lss at h1
          rw [List.length_map, List.length_append] at h1
          have h2 := long_len l S fr ((ps.map (·.l)).take i)
          have h3 := ext_len l S fr x.l k
          have h4 : ((ps.map (·.l)).take i).length ≤ 10000 := by rw [List.length_take, List.length_map]; have := HSZ.out; omega
          have h5 : ((ps.map (·.l)).take i).length * S.length ≤ 10000 * 1000 := Nat.mul_le_mul h4 HSZ.out.2.1
          have := HSN.out; have := HSZ.out
          omega)
        clear hOy hy1 hy2 hy3 hW HRk
        go_wp2_with (first
          | (at_builtin; refine wpList_rappl rtN rfl _ _ rfl HO0.out rfl x.l _ rfl HPX.out HM1.out ?_; intro v1 w1 hO1 hC1; have HO1 := Lib.hid hO1; have HB1 : Hid (Below W.heap.size W w1) := Lib.hid (Below.trans HB0.out (hC1.below HO0.out)); clear hO1 hC1 HPX HO0)
          | (at_builtin; refine wpList_rapp rtN rfl _ _ rfl HO1.out rfl (bel_alloc _ _) _ k _ rfl (cs := #[.int .i64 (k : Int)]) rfl (heap_alloc_new _ _) HM2.out ?_; intro v2 w2 hO2 hC2; obtain ⟨L, hL⟩ : ∃ L, L = [] ++ x.l ++ [k] := ⟨_, rfl⟩; rw [← hL] at hO2; have HLL := Lib.hid hL; obtain ⟨g, cap, rfl, hpk⟩ := pk_own hO2 (by rw [hL]; simp); clear hL; have HPK := Lib.hid hpk; have HB2 : Hid (Below W.heap.size W w2) := Lib.hid (Below.trans HB1.out (hC2.below HO1.out)); have HOy2 := Lib.hid (HOy.out.more (Below.trans HWr.out (Below.mono HB2.out HWr.out.size))); clear hO2 hC2 hpk HO1 HB1)
          | (at_builtin; refine wpList_rapp rtPt rfl _ _ rfl HOy2.out rfl (bel_alloc _ _) _ (⟨g, cap, L⟩ : Pth) _ rfl (cs := #[.slice (some ⟨g, 0, none⟩) L.length cap]) rfl (heap_alloc_new _ _) HLN.out ?_; intro v3 w3 hO3 hC3))
        have HE : Hid (∃ ys, ROwn ptT 1 encPt w.heap.size w3 v3 ys ∧ lss ys = longP l S fr ((lss ps).take i) ++ extP l S fr x.l (k + 1) ∧ (∀ y ∈ ys, PK y w3) ∧ SW w w3 ∧ w3.heap[Bx]? = some (.cells #[.string s.car, .int .i64 s.num, .int .i64 s.day, .string s.f, .string s.t, .int .i64 s.dep, .int .i64 s.arr] sgT (0, 0))) := Lib.hid (by
          have hb2 : Below wr.heap.size wr w2 := Below.trans HWr.out (Below.mono HB2.out HWr.out.size)
          have hb3 : Below w.heap.size w2 w3 := hC3.below HOy2.out
          refine ⟨_, hO3, ?_, ?_, Below.trans (HWW.out _ hb2) hb3, blk_app (C.out _ hb2) HOy2.out hC3⟩
          · unfold lss at *
            rw [List.map_append, HY1.out, ext_succ, HXT.out]
            simp [HLL.out]
          · intro z hz
            rcases List.mem_append.1 hz with hz | hz
            · exact ((HY2.out z hz).more hb2).app HOy2.out hC3
            · rw [List.mem_singleton] at hz
              subst hz
              exact HPK.out.app HOy2.out hC3)
        clear hO3 hC3
        go_roundg (sn - (k + 1))
        case measure => have := HKX.out; omega
        case rel => exact ⟨k + 1, v3, rfl, by go_num, by have := HKX.out; omega, HE⟩
end Go.Proofs.YtkcdifanhdakhaaDoor.Con

/- What the reference's Paths tells, and that it is what the program tells: plain facts. -/
namespace Go.Proofs.YtkcdifanhdakhaaDoor.Con
open Go.RowKit Go.Shelf
set_option linter.unusedSimpArgs false
set_option linter.unusedVariables false

theorem now_ok {l : List Cn} {S : List Sg} {fr : ByteArray} {n : Nat} (hn : 1 ≤ n ∧ n ≤ 3) {p : List Nat} (h : p ∈ nowP l S fr n) : p.length = n ∧ ∀ i ∈ p, i < S.length := by
  have h3 : n = 1 ∨ n = 2 ∨ n = 3 := by omega
  rcases h3 with rfl | rfl | rfl
  · obtain ⟨i, rfl, hi, _⟩ := mem_now1.1 h
    exact ⟨rfl, by simpa using hi⟩
  · obtain ⟨f, k, rfl, hf, hk, _⟩ := mem_now2.1 h
    refine ⟨rfl, fun i hi => ?_⟩
    simp at hi
    rcases hi with rfl | rfl
    · exact hf.1
    · exact hk
  · obtain ⟨f, k, j, rfl, h2, hj, _⟩ := mem_now3.1 h
    obtain ⟨f', k', e, hf, hk, _⟩ := mem_now2.1 h2
    obtain ⟨rfl, rfl⟩ : f' = f ∧ k' = k := by simpa [eq_comm] using e
    refine ⟨rfl, fun i hi => ?_⟩
    simp at hi
    rcases hi with rfl | rfl | rfl
    · exact hf.1
    · exact hk
    · exact hj
theorem now1_len (S : List Sg) (fr : ByteArray) (n : Nat) : (now1 S fr n).length ≤ n := by
  unfold now1
  rw [List.length_map]
  exact ix_len ..
theorem now_len {l : List Cn} {S : List Sg} {fr : ByteArray} {n : Nat} (hs : S.length ≤ 30) (hn : n ≤ 3) : (nowP l S fr n).length ≤ 27000 ∧ (n ≤ 2 → (nowP l S fr n).length ≤ 900) := by
  have a1 : (nowP l S fr 1).length ≤ 30 := Nat.le_trans (now1_len S fr S.length) hs
  have a2 : (nowP l S fr 2).length ≤ 900 := Nat.le_trans (long_len l S fr (nowP l S fr 1)) (Nat.mul_le_mul a1 hs)
  have a3 : (nowP l S fr 3).length ≤ 27000 := Nat.le_trans (long_len l S fr (nowP l S fr 2)) (Nat.mul_le_mul a2 hs)
  have h3 : n = 0 ∨ n = 1 ∨ n = 2 ∨ n = 3 := by omega
  rcases h3 with rfl | rfl | rfl | rfl
  · exact ⟨Nat.zero_le _, fun _ => Nat.zero_le _⟩
  · exact ⟨by omega, fun _ => by omega⟩
  · exact ⟨by omega, fun _ => a2⟩
  · exact ⟨a3, fun h => by omega⟩
theorem end_le (l : List Cn) (S : List Sg) (fr dn : ByteArray) (n : Nat) : (endP l S fr dn n).length ≤ (nowP l S fr n).length := List.length_filter_le ..
theorem ends_len {l : List Cn} {S : List Sg} {fr dn : ByteArray} (hs : S.length ≤ 30) : ∀ n, n ≤ 3 → (endsP l S fr dn n).length ≤ 27000 * n
  | 0, _ => Nat.zero_le _
  | n + 1, h => by
    have h1 := ends_len (l := l) (fr := fr) (dn := dn) hs n (by omega)
    have h2 := end_le l S fr dn (n + 1)
    have h3 := (now_len (l := l) (fr := fr) hs h).1
    show (endsP l S fr dn n ++ endP l S fr dn (n + 1)).length ≤ _
    rw [List.length_append]
    omega
theorem ends_mono {l : List Cn} {S : List Sg} {fr dn : ByteArray} {a b : Nat} (h : a ≤ b) : (endsP l S fr dn a).length ≤ (endsP l S fr dn b).length := by
  induction b with
  | zero =>
    obtain rfl : a = 0 := by omega
    exact Nat.le_refl _
  | succ b ih =>
    by_cases e : a = b + 1
    · rw [e]; exact Nat.le_refl _
    · refine Nat.le_trans (ih (by omega)) ?_
      show _ ≤ (endsP l S fr dn b ++ endP l S fr dn (b + 1)).length
      rw [List.length_append]
      omega
theorem insAll_len (S : List Sg) (l xs : List (List Nat)) : (insAll S l xs).length = l.length + xs.length := by
  rw [(insAll_perm S xs l).length_eq, List.length_append]
theorem insAll_app (S : List Sg) (l xs ys : List (List Nat)) : insAll S l (xs ++ ys) = insAll S (insAll S l xs) ys := by
  unfold insAll
  rw [List.foldl_append]
theorem insAll_snoc (S : List Sg) (l xs : List (List Nat)) (x : List Nat) : insAll S l (xs ++ [x]) = insP S (insAll S l xs) x := by
  rw [insAll_app]
  rfl
/-- what the reference's Paths tells -/
def RefP (l : List Cn) (S : List Sg) (fr dn : ByteArray) (most : Int) (W : World) (v : Value) (er : Int) : Prop :=
  if most < 1 ∨ 3 < most then v = nilS ∧ er = 2 else if 1024 < (endsP l S fr dn most.toNat).length then v = nilS ∧ er = 4 else er = 0 ∧ PthL W v (insAll S [] (endsP l S fr dn most.toNat))
theorem pthL_nil (W : World) : PthL W nilS [] := ⟨[], rfl, ⟨none, 0, rfl, .inl rfl⟩, by simp⟩
theorem both_same {l : List Cn} {S : List Sg} {fr dn : ByteArray} {most : Int} {W W' : World} {v v' : Value} {er er' : Int} (h : PathsR l S fr dn most W v er) (h' : RefP l S fr dn most W' v' er') :
    er = er' ∧ ∃ L, PthL W v L ∧ PthL W' v' L ∧ L.length ≤ 1024 ∧ ∀ x ∈ L, x.length ≤ 3 := by
  unfold PathsR at h
  unfold RefP at h'
  by_cases h1 : most < 1 ∨ 3 < most
  · rw [if_pos h1] at h h'
    obtain ⟨rfl, rfl⟩ := h
    obtain ⟨rfl, rfl⟩ := h'
    exact ⟨rfl, [], pthL_nil _, pthL_nil _, by simp, by simp⟩
  rw [if_neg h1] at h h'
  have hp := ends_perm l S fr dn most.toNat (by omega)
  rw [show ((most.toNat : Nat) : Int) = most by omega] at hp
  rw [hp.length_eq] at h'
  by_cases h2 : 1024 < (pathsP l S fr dn most).length
  · rw [if_pos h2] at h h'
    obtain ⟨rfl, rfl⟩ := h
    obtain ⟨rfl, rfl⟩ := h'
    exact ⟨rfl, [], pthL_nil _, pthL_nil _, by simp, by simp⟩
  rw [if_neg h2] at h h'
  obtain ⟨rfl, ps, ps', hl, hs⟩ := h
  obtain ⟨rfl, hL⟩ := h'
  have hq : (lss ps').Perm (pathsP l S fr dn most) := by rw [← hl]; exact hs.perm.map _
  have hsrt : (lss ps').Pairwise (leP S) := by unfold lss; rw [List.pairwise_map]; exact hs.ord
  have hi := insAll_perm S (endsP l S fr dn most.toNat) []
  rw [List.nil_append] at hi
  have he : lss ps' = insAll S [] (endsP l S fr dn most.toNat) := sorted_eq (hq.trans (hp.symm.trans hi.symm)) hsrt (insAll_sorted _ _ List.Pairwise.nil)
  refine ⟨rfl, lss ps', ⟨ps', rfl, hs.row, hs.at'⟩, by rw [he]; exact hL, ?_, ?_⟩
  · rw [hq.length_eq]; omega
  · intro x hx
    exact (pathsP_ok (hq.mem_iff.1 hx)).1.2
end Go.Proofs.YtkcdifanhdakhaaDoor.Con

/- Walk of the reference's Paths. -/
namespace Go.Proofs.YtkcdifanhdakhaaDoor.Con
open Go.RowKit Go.Shelf
set_option linter.unusedSimpArgs false
set_option linter.unusedVariables false

def RpR (l : List Cn) (S : List Sg) (fr dn : ByteArray) (most : Int) (w : World) (e : Ending) (w' : World) : Prop :=
  ∃ v er, e = .returned (.tuple #[v, .int .i64 er]) ∧ RefP l S fr dn most w' v er ∧ Below w.heap.size w w'
theorem now1_succ (S : List Sg) (fr : ByteArray) (i : Nat) : now1 S fr (i + 1) = now1 S fr i ++ (if (((sA S i).f.toList == fr.toList) && !((sA S i).t.toList == fr.toList)) = true then [[i]] else []) := by
  unfold now1
  rw [ix_succ, List.map_append]
  congr 1
  show List.map _ (if (((sA S i).f.toList == fr.toList) && !((sA S i).t.toList == fr.toList)) = true then _ else _) = _
  split <;> simp
theorem okj_now {l : List Cn} {S : List Sg} {fr : ByteArray} {n : Nat} (hn : 1 ≤ n ∧ n ≤ 3) {x : Pth} (h : x.l ∈ nowP l S fr n) : OkJ S x ∧ x.l.length = n ∧ ∀ i ∈ x.l, i < S.length := by
  obtain ⟨h1, h2⟩ := now_ok hn h
  obtain ⟨r, hr⟩ : ∃ r, x.l.length = r + 1 := ⟨n - 1, by omega⟩
  exact ⟨⟨⟨by omega, by omega⟩, h2 _ (List.mem_of_getElem? (lst_get hr))⟩, h1, h2⟩
/-- the state at the head of the loop over n -/
structure StN (l : List Cn) (S : List Sg) (fr dn : ByteArray) (M n : Nat) (w W : World) (v u : Value) (L : List (List Nat)) : Prop where
  now : ∃ xs : List Pth, RowL 1 encPt W v xs ∧ (∀ y ∈ xs, PK y W) ∧ (n ≤ M → lss xs = nowP l S fr n)
  out : ∃ (ys : List Pth) (B0 : Nat), ROwn ptT 1 encPt B0 W u ys ∧ (∀ y ∈ ys, PthAt W y) ∧ lss ys = L ∧ ∀ y ∈ ys, OkJ S y
  sw : SW w W
theorem StN.more {l : List Cn} {S : List Sg} {fr dn : ByteArray} {M n : Nat} {w W W' : World} {v u : Value} {L : List (List Nat)} (h : StN l S fr dn M n w W v u L) (hb : Below W.heap.size W W') : StN l S fr dn M n w W' v u L := by
  obtain ⟨⟨xs, h1, h2, h3⟩, ⟨ys, B0, g1, g2, g3, g4⟩, h4⟩ := h
  exact ⟨⟨xs, h1.more hb, fun y hy => (h2 y hy).more hb, h3⟩, ⟨ys, B0, g1.more hb, fun y hy => pthAt_more (g2 y hy) hb, g3, g4⟩, Below.trans h4 (Below.mono hb h4.size)⟩

set_option maxRecDepth 100000 in
set_option maxHeartbeats 16000000 in
theorem rpaths_any (Al : Option Addr) (cl : Nat) (l : List Cn) (As : Option Addr) (cs : Nat) (S : List Sg) (fr dn : ByteArray) (most : Int) (w : World) (hv : CnL w (.slice Al l.length cl) l) (hS : SgL w (.slice As S.length cs) S)
    (hln : l.length ≤ 1000) (hsn : S.length ≤ 30) (ht : ∀ s ∈ S, tmB s) :
    Calls Tryd.prog 8 #[.slice Al l.length cl, .slice As S.length cs, .string fr, .string dn, .int .i64 most] w (RpR l S fr dn most w) := by
  have HV := Lib.hid hv
  have HSG := Lib.hid hS
  have HT := Lib.hid ht
  have HSZ : Hid (l.length ≤ 1000 ∧ S.length ≤ 30) := Lib.hid ⟨hln, hsn⟩
  by_cases h1 : most < 1
  · have HR : Hid (RpR l S fr dn most w (.returned (.tuple #[nilS, .int .i64 2])) w) := Lib.hid ⟨_, _, rfl, by unfold RefP; rw [if_pos (.inl h1)]; exact ⟨rfl, rfl⟩, Below.refl _ _⟩
    clear hv hS ht
    go_enter Tryd.func8, Tryd.ntmps8
    go_wp2
    go_ret2
    exact HR.out
  by_cases h2 : 3 < most
  · have HR : Hid (RpR l S fr dn most w (.returned (.tuple #[nilS, .int .i64 2])) w) := Lib.hid ⟨_, _, rfl, by unfold RefP; rw [if_pos (.inr h2)]; exact ⟨rfl, rfl⟩, Below.refl _ _⟩
    clear hv hS ht
    go_enter Tryd.func8, Tryd.ntmps8
    go_wp2
    go_ret2
    exact HR.out
  obtain ⟨M, hM⟩ : ∃ M : Nat, most = (M : Int) := ⟨most.toNat, by omega⟩
  subst hM
  have hM1 : 1 ≤ M ∧ M ≤ 3 := by omega
  have HM := Lib.hid hM1
  have HBIG : Hid (∀ n W, n ≤ M → 1024 < (endsP l S fr dn n).length → SW w W → RpR l S fr dn (M : Int) w (.returned (.tuple #[nilS, .int .i64 4])) W) := Lib.hid (fun n W hn hb hW => ⟨_, _, rfl, by
    unfold RefP
    rw [if_neg (by omega), if_pos (by rw [show ((M : Int)).toNat = M by omega]; exact Nat.lt_of_lt_of_le hb (ends_mono hn))]
    exact ⟨rfl, rfl⟩, hW⟩)
  have HEND : Hid (∀ W v u, StN l S fr dn M (M + 1) w W v u (insAll S [] (endsP l S fr dn M)) → (endsP l S fr dn M).length ≤ 1024 → RpR l S fr dn (M : Int) w (.returned (.tuple #[u, .int .i64 0])) W) := Lib.hid (fun W v u h hl => by
    obtain ⟨ys, B0, g1, g2, g3, g4⟩ := h.out
    refine ⟨_, _, rfl, ?_, h.sw⟩
    unfold RefP
    rw [if_neg (by omega), show ((M : Int)).toNat = M by omega, if_neg (by omega)]
    exact ⟨rfl, ys, g3, g1.rowL rtPt.len, g2⟩)
  obtain ⟨sn, hss⟩ : ∃ sn, sn = S.length := ⟨_, rfl⟩
  have HSN := Lib.hid hss
  rw [← hss] at hsn
  rw [← hss]
  have H0 : Hid (ROwn ptT 1 encPt w.heap.size w (.slice none 0 0) ([] : List Pth)) := Lib.hid (ROwn.nil (Nat.le_refl _))
  clear hv hS ht hss
  go_enter Tryd.func8, Tryd.ntmps8
  go_wp2
  go_loopg [12, 14] sn (fun kx v12 v14 wq => ∃ (i : Nat) (v : Value), v = v12 ∧ v14 = .int .i64 i ∧ i + kx = sn ∧ Hid (∃ xs, ROwn ptT 1 encPt w.heap.size wq v xs ∧ lss xs = now1 S fr i ∧ (∀ y ∈ xs, PK y wq) ∧ SW w wq))
  case atStart => exact ⟨0, _, rfl, rfl, by omega, Lib.hid ⟨[], H0.out, rfl, by simp, Below.refl _ _⟩⟩
  case round =>
    obtain ⟨i, v, rfl, rfl, hix, HR⟩ := hrel
    have HIX := Lib.hid hix
    clear hix
    by_cases hlt : i < sn
    rotate_left
    · have i1 : ¬ (i : Int) < (sn : Int) := by omega
      have HST : Hid (StN l S fr dn M 1 w wr v (.slice none 0 0) (insAll S [] (endsP l S fr dn 0))) := Lib.hid (by
        obtain ⟨xs, hO, h1, h2, h3⟩ := HR.out
        have hin : i = S.length := by have := HSN.out; have := HIX.out; omega
        exact ⟨⟨xs, hO.rowL rtPt.len, h2, fun _ => by rw [h1, hin]; rfl⟩, ⟨[], w.heap.size, ROwn.nil h3.size, by simp, rfl, by simp⟩, h3⟩)
      clear HR
      have HLE0 : Hid ((endsP l S fr dn 0).length ≤ 1024) := Lib.hid (Nat.zero_le _)
      go_wp2
      go_loopg [12, 13, 15] M (fun kx v12 v13 v15 wq => ∃ (n : Nat) (v u : Value), v = v12 ∧ u = v13 ∧ v15 = .int .i64 ((n + 1 : Nat) : Int) ∧ n + kx = M ∧ Hid (StN l S fr dn M (n + 1) w wq v u (insAll S [] (endsP l S fr dn n))) ∧ Hid ((endsP l S fr dn n).length ≤ 1024))
      case atStart => exact ⟨0, _, _, rfl, rfl, by go_num, by omega, HST, HLE0⟩
      case round =>
        obtain ⟨n, v, u, rfl, rfl, rfl, hnx, HS, HLE⟩ := hrel
        have HNX := Lib.hid hnx
        clear hnx HST
        by_cases hnM : n < M
        rotate_left
        · have j1 : ¬ ((n : Int) + 1 ≤ (M : Int)) := by omega
          have j2 : ¬ (((n + 1 : Nat) : Int) ≤ (M : Int)) := by omega
          have HF : Hid (RpR l S fr dn (M : Int) w (.returned (.tuple #[u, .int .i64 0])) wr) := Lib.hid (by
            obtain rfl : n = M := by have := HNX.out; omega
            exact HEND.out wr v u HS.out HLE.out)
          clear HS HEND HBIG
          go_wp2
          go_ret2
          exact HF.out
        have j1 : ((n : Int) + 1 ≤ (M : Int)) := by omega
        have j2 : (((n + 1 : Nat) : Int) ≤ (M : Int)) := by omega
        have hM3 : M ≤ 3 := HM.out.2
        obtain ⟨xs, hxr, hxp, hxn⟩ := HS.out.now
        obtain ⟨Ax, cx, rfl, _⟩ := id hxr
        have HXR := Lib.hid hxr
        have HXP := Lib.hid hxp
        have HXN := Lib.hid (hxn (by omega))
        have HXM : Hid (∀ y ∈ xs, y.l ∈ nowP l S fr (n + 1)) := Lib.hid (fun y hy => by rw [← HXN.out]; exact List.mem_map.2 ⟨y, hy, rfl⟩)
        have HW0 := Lib.hid HS.out.sw
        have HO0 := Lib.hid HS.out.out
        obtain ⟨m, hm⟩ : ∃ m, m = xs.length := ⟨_, rfl⟩
        have HMX := Lib.hid hm
        rw [← hm]
        have HML : Hid (m = (nowP l S fr (n + 1)).length) := Lib.hid (by rw [← HXN.out, hm]; exact (List.length_map ..).symm)
        have HM27 : Hid (m ≤ 27000) := Lib.hid (by rw [HML.out]; exact (now_len HSZ.out.2 (by omega)).1)
        have hm27 := HM27.out
        obtain ⟨wn, hwn⟩ : ∃ wn, wn = wr := ⟨_, rfl⟩
        subst hwn
        clear hxr hxp hxn hm HS
        go_wp2
        go_loopg [13, 16] m (fun kx v13 v16 wq => ∃ (i : Nat) (u : Value), u = v13 ∧ v16 = .int .i64 i ∧ i + kx = m ∧ Hid (∃ (ys : List Pth) (B0 : Nat), ROwn ptT 1 encPt B0 wq u ys ∧ (∀ y ∈ ys, PthAt wq y) ∧ lss ys = insAll S (insAll S [] (endsP l S fr dn n)) (((lss xs).take i).filter fun p => endB S dn p) ∧ (∀ y ∈ ys, OkJ S y) ∧ SW wn wq))
        case atStart => exact ⟨0, _, rfl, rfl, by omega, Lib.hid (by
          obtain ⟨ys, B0, g1, g2, g3, g4⟩ := HO0.out
          exact ⟨ys, B0, g1, g2, by rw [g3, List.take_zero]; rfl, g4, Below.refl _ _⟩)⟩
        case round =>
          obtain ⟨i, u, rfl, rfl, hix, HY⟩ := hrel
          have HIX2 := Lib.hid hix
          clear hix
          by_cases hlt : i < m
          rotate_left
          · have k1 : ¬ (i : Int) < (m : Int) := by omega
            obtain ⟨ys, B0, g1, g2, g3, g4, g5⟩ := HY.out
            have g3' : lss ys = insAll S [] (endsP l S fr dn (n + 1)) := by
              have him : i = (lss xs).length := by unfold lss; rw [List.length_map, ← HMX.out]; have := HIX2.out; omega
              rw [g3, him, List.take_length, HXN.out, ← insAll_app]
              rfl
            have hlen : ys.length = (endsP l S fr dn (n + 1)).length := by
              have h := congrArg List.length g3'
              unfold lss at h
              rw [List.length_map, insAll_len] at h
              simpa using h
            obtain ⟨Au, cu, rfl, _⟩ := form_own g1
            have HWR : Hid (SW w wr) := Lib.hid (Below.trans HW0.out (Below.mono g5 HW0.out.size))
            have HOUT : Hid (∃ (ys' : List Pth) (B0 : Nat), ROwn ptT 1 encPt B0 wr (.slice Au ys.length cu) ys' ∧ (∀ y ∈ ys', PthAt wr y) ∧ lss ys' = insAll S [] (endsP l S fr dn (n + 1)) ∧ ∀ y ∈ ys', OkJ S y) := Lib.hid ⟨ys, B0, g1, g2, g3', g4⟩
            rw [hlen] at HOUT ⊢
            have HXR5 := Lib.hid (HXR.out.more g5)
            have HXP5 : Hid (∀ y ∈ xs, PK y wr) := Lib.hid (fun y hy => (HXP.out y hy).more g5)
            have HBG : Hid (1024 < (endsP l S fr dn (n + 1)).length → RpR l S fr dn (M : Int) w (.returned (.tuple #[nilS, .int .i64 4])) wr) := Lib.hid (fun h => HBIG.out (n + 1) wr (by omega) h HWR.out)
            obtain ⟨E, hE0⟩ : ∃ E, E = (endsP l S fr dn (n + 1)).length := ⟨_, rfl⟩
            have HEE := Lib.hid hE0
            rw [← hE0] at HOUT HBG ⊢
            clear hE0
            clear g1 g2 g3 g3' g4 g5 hlen HY HO0
            by_cases hE : 1024 < E
            · have k2 : (1024 : Int) < (E : Int) := by omega
              have HF := Lib.hid (HBG.out hE)
              clear HBG HOUT HEND HBIG
              go_wp2
              go_ret2
              exact HF.out
            have k2 : ¬ (1024 : Int) < (E : Int) := by omega
            have HL5 : Hid ((endsP l S fr dn (n + 1)).length ≤ 1024) := Lib.hid (by rw [← HEE.out]; omega)
            clear HBG
            by_cases hnn : n + 1 < M
            · have k3 : (n : Int) + 1 < (M : Int) := by omega
              have k4 : ((n + 1 : Nat) : Int) < (M : Int) := by omega
              have KL := Lib.hid (longer_any Al cl l As cs S fr Ax cx xs wr (HV.out.more HWR.out) (HSG.out.more HWR.out) HXR5.out (fun y hy => (HXP5.out y hy).1) (fun y hy => ⟨(okj_now (by omega) (HXM.out y hy)).1, (okj_now (by omega) (HXM.out y hy)).2.2⟩) HSZ.out.1 (by have := HSZ.out; omega) (by rw [← HMX.out, HML.out]; have := (now_len (l := l) (fr := fr) HSZ.out.2 (show n + 1 ≤ 3 by omega)).2 (by omega); omega) HT.out)
              rw [← HMX.out, ← HSN.out] at KL
              go_wp2_with ((go_at_call 22; refine KL.out.mono ?_; rintro e w6 ⟨v6, zs, rfl, hO6, hl6, hp6, hb6⟩))
              have HST6 : Hid (StN l S fr dn M (n + 1 + 1) w w6 v6 (.slice Au E cu) (insAll S [] (endsP l S fr dn (n + 1)))) := Lib.hid (by
                obtain ⟨ys, B0, g1, g2, g3, g4⟩ := HOUT.out
                exact ⟨⟨zs, hO6.rowL rtPt.len, hp6, fun _ => by rw [hl6, HXN.out]; rfl⟩, ⟨ys, B0, g1.more hb6, fun y hy => pthAt_more (g2 y hy) hb6, g3, g4⟩, Below.trans HWR.out (Below.mono hb6 HWR.out.size)⟩)
              clear hO6 hl6 hp6 hb6
              go_roundg (M - (n + 1))
              case measure => have := HNX.out; omega
              case rel => exact ⟨n + 1, v6, _, rfl, rfl, by go_num, by have := HNX.out; omega, HST6, HL5⟩
            · have k3 : ¬ (n : Int) + 1 < (M : Int) := by omega
              have k4 : ¬ ((n + 1 : Nat) : Int) < (M : Int) := by omega
              have HST6 : Hid (StN l S fr dn M (n + 1 + 1) w wr (.slice Ax m cx) (.slice Au E cu) (insAll S [] (endsP l S fr dn (n + 1)))) := Lib.hid (by
                rw [HMX.out]
                exact ⟨⟨xs, HXR5.out, HXP5.out, fun h => by omega⟩, HOUT.out, HWR.out⟩)
              go_wp2
              go_roundg (M - (n + 1))
              case measure => have := HNX.out; omega
              case rel => exact ⟨n + 1, _, _, rfl, rfl, by go_num, by have := HNX.out; omega, HST6, HL5⟩
          obtain ⟨x, hx⟩ : ∃ x, xs[i]? = some x := ⟨_, List.getElem?_eq_getElem (by have := HMX.out; omega)⟩
          have HXI := Lib.hid hx
          have HMEM := Lib.hid (List.mem_of_getElem? hx)
          have HJX := Lib.hid (okj_now (l := l) (S := S) (fr := fr) (by omega) (HXM.out x HMEM.out))
          have HWN : Hid (SW wn wr) := Lib.hid (by obtain ⟨_, _, _, _, _, _, h⟩ := HY.out; exact h)
          have HWR : Hid (SW w wr) := Lib.hid (Below.trans HW0.out (Below.mono HWN.out HW0.out.size))
          obtain ⟨bP, oP, e1, _, hcx⟩ := row_get (HXR.out.more HWN.out) hx
          have dX := hcx 0 _ rfl
          rw [Nat.add_zero, Nat.mul_one, HJX.out.2.1] at dX
          have hln := lst_get HJX.out.2.1
          obtain ⟨q, hq⟩ : ∃ q, q = lst x.l := ⟨_, rfl⟩
          have dL := (pthAt_more (HXP.out x HMEM.out).1 HWN.out).2 n q (by rw [hq]; exact hln)
          have hqS : q < S.length := by rw [hq]; exact HJX.out.1.2
          obtain ⟨bb, off, e2, _, hc⟩ := row_get (HSG.out.more HWR.out) (sA_get hqS)
          have d4 := hc 4 _ rfl
          have HEB : Hid (endB S dn x.l = ((sA S q).t.toList == dn.toList)) := Lib.hid (by unfold endB; rw [hq]; rfl)
          have HTK : Hid (((lss xs).take (i + 1)).filter (fun p => endB S dn p) = ((lss xs).take i).filter (fun p => endB S dn p) ++ (if endB S dn x.l = true then [x.l] else [])) := Lib.hid (by
            rw [List.take_add_one, show (lss xs)[i]? = some x.l by unfold lss; rw [List.getElem?_map, HXI.out]; rfl, List.filter_append]
            congr 1
            simp only [Option.toList_some, List.filter_cons, List.filter_nil])
          have k1 : (i : Int) < (m : Int) := by omega
          have k2 : (q : Int) < (sn : Int) := by have := HSN.out; omega
          have k3 : (n : Int) < (n : Int) + 1 := by omega
          have k4 : (n : Int) < ((n + 1 : Nat) : Int) := by omega
          have w1 : IntKind.i64.wrap (n : Int) = (n : Int) := IntWalk.i64_in _ (by omega)
          obtain ⟨y, hy⟩ : ∃ y, y = sA S q := ⟨_, rfl⟩
          rw [← hy] at d4 HEB
          clear hx hcx hln hq hqS hc hy
          subst e1 e2
          cases hd : (y.t.toList == dn.toList) with
          | false =>
            rw [hd] at HEB
            have HE : Hid (∃ (ys : List Pth) (B0 : Nat), ROwn ptT 1 encPt B0 wr u ys ∧ (∀ y ∈ ys, PthAt wr y) ∧ lss ys = insAll S (insAll S [] (endsP l S fr dn n)) (((lss xs).take (i + 1)).filter fun p => endB S dn p) ∧ (∀ y ∈ ys, OkJ S y) ∧ SW wn wr) := Lib.hid (by
              obtain ⟨ys, B0, g1, g2, g3, g4, g5⟩ := HY.out
              exact ⟨ys, B0, g1, g2, by rw [g3, HTK.out, HEB.out]; simp, g4, g5⟩)
            clear HY
            go_wp2
            go_roundg (m - (i + 1))
            case measure => have := HIX2.out; omega
            case rel => exact ⟨i + 1, u, rfl, by go_num, by have := HIX2.out; omega, HE⟩
          | true =>
            rw [hd] at HEB
            have KI : Hid (Calls Tryd.prog 21 #[.slice (some ⟨bb, off, none⟩) sn cs, u, .slice (some ⟨x.b, 0, none⟩) (n + 1) x.c] wr fun e w' => ∃ v', e = .returned v' ∧ Hid (∃ (ys : List Pth) (B0 : Nat), ROwn ptT 1 encPt B0 w' v' ys ∧ (∀ y ∈ ys, PthAt w' y) ∧ lss ys = insAll S (insAll S [] (endsP l S fr dn n)) (((lss xs).take (i + 1)).filter fun p => endB S dn p) ∧ (∀ y ∈ ys, OkJ S y) ∧ SW wn w')) := Lib.hid (by
              obtain ⟨ys, B0, g1, g2, g3, g4, g5⟩ := HY.out
              have hyl : ys.length ≤ 1000000 := by
                have h := congrArg List.length g3
                unfold lss at h
                rw [List.length_map, insAll_len, insAll_len] at h
                have h1 := ends_len (l := l) (fr := fr) (dn := dn) HSZ.out.2 n (by omega)
                have h2 := List.length_filter_le (fun p => endB S dn p) ((xs.map (·.l)).take i)
                have h3 : ((xs.map (·.l)).take i).length ≤ 27000 := by rw [List.length_take, List.length_map, ← HMX.out]; omega
                simp only [List.length_nil] at h
                omega
              have h0 := insert_any (some ⟨bb, off, none⟩) cs S u ys x wr (HSG.out.more HWR.out) g1 g2 (pthAt_more (HXP.out x HMEM.out).1 HWN.out) g4 HJX.out.1 hyl (by have := HSZ.out; omega)
              rw [HJX.out.2.1, ← HSN.out] at h0
              refine h0.mono ?_
              rintro e w' ⟨v', zs, rfl, hO, hl, hm, hb⟩
              refine ⟨v', rfl, Lib.hid ⟨zs, _, hO, ?_, ?_, ?_, Below.trans g5 (Below.mono hb g5.size)⟩⟩
              · intro z hz
                rcases hm z hz with rfl | hz
                · exact pthAt_more (HXP.out _ HMEM.out).1 (Below.trans HWN.out (Below.mono hb HWN.out.size))
                · exact pthAt_more (g2 z hz) hb
              · rw [hl, g3, HTK.out, HEB.out]
                simp only [if_true]
                rw [insAll_snoc]
              · intro z hz
                rcases hm z hz with rfl | hz
                · exact HJX.out.1
                · exact g4 z hz)
            clear HY
            go_wp2_with ((go_at_call 21; refine KI.out.mono ?_; rintro e w6 ⟨v6, rfl, hE6⟩))
            go_roundg (m - (i + 1))
            case measure => have := HIX2.out; omega
            case rel => exact ⟨i + 1, v6, rfl, by go_num, by have := HIX2.out; omega, hE6⟩
    have i1 : (i : Int) < (sn : Int) := by omega
    have hiS : i < S.length := by have := HSN.out; omega
    have HW : Hid (SW w wr) := Lib.hid (by obtain ⟨_, _, _, _, h⟩ := HR.out; exact h)
    obtain ⟨bb, off, e1, _, hc⟩ := row_get (HSG.out.more HW.out) (sA_get hiS)
    have d3 := hc 3 _ rfl
    have d4 := hc 4 _ rfl
    have HNS := Lib.hid (now1_succ S fr i)
    obtain ⟨y, hy⟩ : ∃ y, y = sA S i := ⟨_, rfl⟩
    rw [← hy] at d3 d4 HNS
    clear hy hc hiS
    cases e1
    cases hf : (y.f.toList == fr.toList) with
    | false =>
      rw [hf] at HNS
      have HE : Hid (∃ xs, ROwn ptT 1 encPt w.heap.size wr v xs ∧ lss xs = now1 S fr (i + 1) ∧ (∀ y ∈ xs, PK y wr) ∧ SW w wr) := Lib.hid (by
        obtain ⟨xs, hO, h1, h2, h3⟩ := HR.out
        exact ⟨xs, hO, by rw [h1, HNS.out]; simp, h2, h3⟩)
      clear HR
      go_wp2
      go_roundg (sn - (i + 1))
      case measure => have := HIX.out; omega
      case rel => exact ⟨i + 1, v, rfl, by go_num, by have := HIX.out; omega, HE⟩
    | true =>
    rw [hf] at HNS
    cases ht : (y.t.toList == fr.toList) with
    | true =>
      rw [ht] at HNS
      have ht2 : (y.t.toList != fr.toList) = false := by rw [bne, ht]; rfl
      have HE : Hid (∃ xs, ROwn ptT 1 encPt w.heap.size wr v xs ∧ lss xs = now1 S fr (i + 1) ∧ (∀ y ∈ xs, PK y wr) ∧ SW w wr) := Lib.hid (by
        obtain ⟨xs, hO, h1, h2, h3⟩ := HR.out
        exact ⟨xs, hO, by rw [h1, HNS.out]; simp, h2, h3⟩)
      clear HR
      go_wp2
      go_roundg (sn - (i + 1))
      case measure => have := HIX.out; omega
      case rel => exact ⟨i + 1, v, rfl, by go_num, by have := HIX.out; omega, HE⟩
    | false =>
      rw [ht] at HNS
      have ht2 : (y.t.toList != fr.toList) = true := by rw [bne, ht]; rfl
      obtain ⟨xs, hO, h1x, h2x, h3x⟩ := HR.out
      have HB1 : Hid (Below wr.heap.size wr (wr.alloc (.cells #[.int .i64 (i : Int)] inT))) := Lib.hid (bel_alloc _ _)
      have HO1 := Lib.hid (hO.more HB1.out)
      have HX1 := Lib.hid h1x
      have HX2 := Lib.hid h2x
      have HLN : Hid (xs.length ≤ 100000000) := Lib.hid (by
        have h1 := congrArg List.length h1x
        unfold lss at h1
        rw [List.length_map] at h1
        have := now1_len S fr i
        have := HSN.out; have := HSZ.out
        omega)
      have HPN : Hid (PK ⟨wr.heap.size, 1, [i]⟩ (wr.alloc (.cells #[.int .i64 (i : Int)] inT))) := Lib.hid ⟨gvP_at (x := ⟨wr.heap.size, 1, [i]⟩) (heap_alloc_new wr _), _, heap_alloc_new wr _⟩
      have HHP : Hid (((wr.alloc (.cells #[.int .i64 (i : Int)] inT)).alloc (.cells #[.slice (some ⟨wr.heap.size, 0, none⟩) 1 1] ptT)).heap[wr.heap.size + 1]? = some (.cells #[.slice (some ⟨wr.heap.size, 0, none⟩) 1 1] ptT (0, 0))) := Lib.hid (by
        have h := heap_alloc_new (wr.alloc (.cells #[.int .i64 (i : Int)] inT)) (.cells #[.slice (some ⟨wr.heap.size, 0, none⟩) 1 1] ptT)
        rw [World.size_alloc] at h; exact h)
      clear hO h1x h2x h3x HR
      go_wp2_with (at_builtin; refine wpList_rapp rtPt rfl _ _ rfl HO1.out rfl (bel_alloc _ _) _ (⟨wr.heap.size, 1, [i]⟩ : Pth) _ rfl (cs := #[.slice (some ⟨wr.heap.size, 0, none⟩) 1 1]) rfl HHP.out HLN.out ?_; intro v3 w3 hO3 hC3)
      have HE : Hid (∃ xs, ROwn ptT 1 encPt w.heap.size w3 v3 xs ∧ lss xs = now1 S fr (i + 1) ∧ (∀ y ∈ xs, PK y w3) ∧ SW w w3) := Lib.hid (by
        refine ⟨_, hO3, ?_, ?_, Below.trans (Below.trans HW.out (Below.mono HB1.out HW.out.size)) (hC3.below HO1.out)⟩
        · unfold lss at *
          rw [List.map_append, HX1.out, HNS.out]
          rfl
        · intro z hz
          rcases List.mem_append.1 hz with hz | hz
          · exact ((HX2.out z hz).more HB1.out).app HO1.out hC3
          · rw [List.mem_singleton] at hz
            subst hz
            exact HPN.out.app HO1.out hC3)
      clear hO3 hC3
      go_roundg (sn - (i + 1))
      case measure => have := HIX.out; omega
      case rel => exact ⟨i + 1, v3, rfl, by go_num, by have := HIX.out; omega, HE⟩
end Go.Proofs.YtkcdifanhdakhaaDoor.Con

/- far at a list of any length (as in XConG). -/
namespace Go.Proofs.YtkcdifanhdakhaaDoor.Con
open Go.RowKit Go.Shelf
set_option linter.unusedSimpArgs false
set_option linter.unusedVariables false

set_option maxRecDepth 100000 in
set_option maxHeartbeats 8000000 in
theorem farN_any (v : Value) (l : List Sg) (w : World) (hv : SgL w v l) (hn : l.length < 9223372036854775808) : Calls Tryd.prog 5 #[v] w fun e w' => e = .returned (.bool (farB l)) ∧ Below w.heap.size w w' := by
  obtain ⟨A, c, rfl, _⟩ := id hv
  have HV := Lib.hid hv
  clear hv
  have HI : Hid (farB (l.take 0) = false) := Lib.hid rfl
  go_enter Tryd.func5, Tryd.ntmps5
  go_wp2
  go_loopg [3] l.length (fun kx vi wr => ∃ (k : Nat), vi = .int .i64 k ∧ k + kx = l.length ∧ Hid (farB (l.take k) = false) ∧ SW w wr)
  case atStart => exact ⟨0, rfl, by omega, HI, Below.refl _ _⟩
  case round =>
    obtain ⟨k, rfl, hkx, HK, hS⟩ := hrel
    have HKX := Lib.hid hkx
    by_cases hlt : k < l.length
    · obtain ⟨x, hx⟩ : ∃ x, l[k]? = some x := ⟨_, List.getElem?_eq_getElem hlt⟩
      obtain ⟨bb, off, e1, hbl, hc⟩ := row_get (HV.out.more hS) hx
      cases e1
      have i2 : (k : Int) < (l.length : Int) := by omega
      have d0 := hc 0 _ rfl
      have d1 := hc 1 _ rfl
      have d2 := hc 2 _ rfl
      have d3 := hc 3 _ rfl
      have d4 := hc 4 _ rfl
      have d5 := hc 5 _ rfl
      have d6 := hc 6 _ rfl
      rw [Nat.add_zero] at d0
      have HS : Hid (farB (l.take (k + 1)) = (decide (min x.dep x.arr < -1099511627776) || decide (max x.dep x.arr > 1099511627776))) := Lib.hid (by rw [List.take_add_one, hx]; exact (farB_snoc _ _).trans (by rw [HK.out]; rfl))
      have HM := Lib.hid (List.mem_of_getElem? hx)
      have hb1 := bel_alloc wr (.cells #[.string x.car, .int .i64 x.num, .int .i64 x.day, .string x.f, .string x.t, .int .i64 x.dep, .int .i64 x.arr] sgT)
      have q5 := (cells_new wr #[.string x.car, .int .i64 x.num, .int .i64 x.day, .string x.f, .string x.t, .int .i64 x.dep, .int .i64 x.arr] sgT 5).trans (show _ = some (Value.int .i64 x.dep) from rfl)
      have q6 := (cells_new wr #[.string x.car, .int .i64 x.num, .int .i64 x.day, .string x.f, .string x.t, .int .i64 x.dep, .int .i64 x.arr] sgT 6).trans (show _ = some (Value.int .i64 x.arr) from rfl)
      have HS1 := Lib.hid (show SW w (wr.alloc (.cells #[.string x.car, .int .i64 x.num, .int .i64 x.day, .string x.f, .string x.t, .int .i64 x.dep, .int .i64 x.arr] sgT)) from Below.alloc hS hS.size _)
      clear hx hc hbl hkx hb1 hS
      cases h1 : decide (min x.dep x.arr < -1099511627776) with
      | true =>
        have h1' : min x.dep x.arr < -1099511627776 := of_decide_eq_true h1
        have HR : Hid (true = farB l) := Lib.hid (farB_of HM.out (by rw [h1]; rfl)).symm
        go_wp2
        all_goals first
          | (exfalso; omega)
          | (go_ret; exact ⟨ret_bool HR.out, HS1.out⟩)
      | false =>
        have h1' : ¬ min x.dep x.arr < -1099511627776 := of_decide_eq_false h1
        cases h2 : decide (max x.dep x.arr > 1099511627776) with
        | true =>
          have h2' : max x.dep x.arr > 1099511627776 := of_decide_eq_true h2
          have h2'' : 1099511627776 < max x.dep x.arr := h2'
          have HR : Hid (true = farB l) := Lib.hid (farB_of HM.out (by rw [h2, Bool.or_true])).symm
          go_wp2
          all_goals first
            | (exfalso; omega)
            | (go_ret; exact ⟨ret_bool HR.out, HS1.out⟩)
        | false =>
          have h2' : ¬ 1099511627776 < max x.dep x.arr := of_decide_eq_false h2
          have HR : Hid (farB (l.take (k + 1)) = false) := Lib.hid (by rw [HS.out, h1, h2]; rfl)
          go_wp2
          all_goals first
            | (exfalso; omega)
            | (go_roundg (l.length - (k + 1))
               case measure => have := HKX.out; omega
               case rel => exact ⟨k + 1, by go_num, by have := HKX.out; omega, HR, HS1.out⟩)
    · have HR : Hid (false = farB l) := Lib.hid (by rw [← HK.out, show l.take k = l from List.take_of_length_le (by omega)])
      have i2 : ¬ (k : Int) < (l.length : Int) := by omega
      go_wp2
      go_ret
      exact ⟨ret_bool HR.out, hS⟩
end Go.Proofs.YtkcdifanhdakhaaDoor.Con

/- Walk of the law ConnectPaths. -/
namespace Go.Proofs.YtkcdifanhdakhaaDoor.Con
open Go.RowKit Go.Shelf
set_option linter.unusedSimpArgs false
set_option linter.unusedVariables false

set_option maxRecDepth 100000 in
set_option maxHeartbeats 16000000 in
theorem connectPaths_walk (A : Option Addr) (c : Nat) (l : List Cn) (As : Option Addr) (cs : Nat) (S : List Sg) (fr dn : ByteArray) (most : Int) (w : World)
    (hv : CnL w (.slice A l.length c) l) (hs : SgL w (.slice As S.length cs) S) (hz : ∀ s ∈ S, s.f.size ≤ maxLen ∧ s.t.size ≤ maxLen) (hs63 : S.length < 9223372036854775808) :
    Calls Tryd.prog 3 #[.agg #[.slice A l.length c, .slice As S.length cs], .string fr, .string dn, .int .i64 most] w fun e w' => e = .returned (.bool true) ∧ Below w.heap.size w w' := by
  have hb := bel_alloc w (.cells #[.slice A l.length c, .slice As S.length cs] 25)
  have p2 := (cells_new w #[.slice A l.length c, .slice As S.length cs] 25 0).trans (show _ = some (Value.slice A l.length c) from rfl)
  have p3 := (cells_new w #[.slice A l.length c, .slice As S.length cs] 25 1).trans (show _ = some (Value.slice As S.length cs) from rfl)
  have hv5 := hv.more hb
  have hs5 := hs.more hb
  have HB := Lib.hid hb
  go_enter Tryd.func3, Tryd.ntmps3
  go_upto_region 1 with fail
  generalize w.alloc (.cells #[.slice A l.length c, .slice As S.length cs] 25) = w5 at *
  generalize hB : w.heap.size = B at *
  have HBE : Hid (∀ W, SW w5 W → Below w.heap.size w W) := Lib.hid (fun W h => by subst hB; exact HB.out.trans (Below.mono h HB.out.size))
  have Q2 := Lib.hid (bel_get p2)
  have Q3 := Lib.hid (bel_get p3)
  have HV := Lib.hid hv5
  have HSG := Lib.hid hs5
  have HZ := Lib.hid hz
  have KF : Hid (∀ W, SW w5 W → Calls Tryd.prog 5 #[.slice As S.length cs] W fun e w' => e = .returned (.bool (farB S)) ∧ SW w5 w') := Lib.hid (fun W h => (farN_any _ S W (hs5.more h) hs63).mono (by rintro e w' ⟨rfl, h2⟩; exact ⟨rfl, Below.trans h (Below.mono h2 h.size)⟩))
  have KK : Hid (∀ W, SW w5 W → Calls Tryd.prog 6 #[] W fun e w' => e = .returned (.bool true) ∧ SW w5 w') := Lib.hid (fun W h => (knows_any W).mono (by rintro e w' ⟨rfl, hb⟩; exact ⟨rfl, Below.trans h (Below.mono hb h.size)⟩))
  have hS : SW w5 w5 := Below.refl _ _
  have q2 := Q2.out _ hS
  have q3 := Q3.out _ hS
  clear p2 p3 hv hs hv5 hs5 hb hz
  by_cases i1 : 30 < l.length
  · have j1 : (30 : Int) < (l.length : Int) := by omega
    go_wp2_with (first
      | (go_at_call 5; refine (KF.out _ hS).mono ?_; rintro e w6 ⟨rfl, hS⟩; clear q2 q3; have q2 := Q2.out _ hS; have q3 := Q3.out _ hS)
      | (go_at_call 6; refine (KK.out _ hS).mono ?_; rintro e w8 ⟨rfl, hS⟩))
    go_ret
    exact ⟨rfl, HBE.out _ hS⟩
  have j1 : ¬ (30 : Int) < (l.length : Int) := by omega
  by_cases i2 : 30 < S.length
  · have j2 : (30 : Int) < (S.length : Int) := by omega
    go_wp2_with (first
      | (go_at_call 5; refine (KF.out _ hS).mono ?_; rintro e w6 ⟨rfl, hS⟩; clear q2 q3; have q2 := Q2.out _ hS; have q3 := Q3.out _ hS)
      | (go_at_call 6; refine (KK.out _ hS).mono ?_; rintro e w8 ⟨rfl, hS⟩))
    go_ret
    exact ⟨rfl, HBE.out _ hS⟩
  have j2 : ¬ (30 : Int) < (S.length : Int) := by omega
  cases hf : farB S with
  | true =>
    rw [hf] at KF
    go_wp2_with (first
      | (go_at_call 5; refine (KF.out _ hS).mono ?_; rintro e w6 ⟨rfl, hS⟩; clear q2 q3; have q2 := Q2.out _ hS; have q3 := Q3.out _ hS)
      | (go_at_call 6; refine (KK.out _ hS).mono ?_; rintro e w8 ⟨rfl, hS⟩))
    go_ret
    exact ⟨rfl, HBE.out _ hS⟩
  | false =>
  rw [hf] at KF
  have HT := Lib.hid (far_no hf)
  have HI : Hid (l.length ≤ 30 ∧ S.length ≤ 30) := Lib.hid ⟨by omega, by omega⟩
  have KP : Hid (∀ W, SW w5 W → Calls Tryd.prog 7 #[.slice A l.length c, .slice As S.length cs, .string fr, .string dn, .int .i64 most] W fun e w' => ∃ v er, e = .returned (.tuple #[v, .int .i64 er]) ∧ Hid (PathsR l S fr dn most w' v er) ∧ SW w5 w') := Lib.hid (fun W h => (paths_any A c l As cs S fr dn most W (HV.out.more h) (HSG.out.more h) (by have := HI.out; omega) (by have := HI.out; omega) HZ.out HT.out).mono (by
    rintro e w' ⟨v, er, rfl, hP, hb⟩
    exact ⟨v, er, rfl, Lib.hid hP, Below.trans h (Below.mono hb h.size)⟩))
  have KR : Hid (∀ W, SW w5 W → Calls Tryd.prog 8 #[.slice A l.length c, .slice As S.length cs, .string fr, .string dn, .int .i64 most] W fun e w' => ∃ v er, e = .returned (.tuple #[v, .int .i64 er]) ∧ Hid (RefP l S fr dn most w' v er) ∧ SW w5 w' ∧ Below W.heap.size W w') := Lib.hid (fun W h => (rpaths_any A c l As cs S fr dn most W (HV.out.more h) (HSG.out.more h) (by have := HI.out; omega) (by have := HI.out; omega) HT.out).mono (by
    rintro e w' ⟨v, er, rfl, hP, hb⟩
    exact ⟨v, er, rfl, Lib.hid hP, Below.trans h (Below.mono hb h.size), hb⟩))
  clear hf i1 i2 hs63
  go_upto_region 4 with (first
    | (go_at_call 5; refine (KF.out _ hS).mono ?_; rintro e w6 ⟨rfl, hS⟩; clear q2 q3; have q2 := Q2.out _ hS; have q3 := Q3.out _ hS)
    | (go_at_call 7; refine (KP.out _ hS).mono ?_; rintro e w7 ⟨va, ea, rfl, HPa, hS⟩; clear q2 q3; have q2 := Q2.out _ hS; have q3 := Q3.out _ hS))
  go_upto_region 5 with ((go_at_call 8; refine (KR.out _ hS).mono ?_; rintro e w8 ⟨vb, eb, rfl, HPb, hS8, hb8⟩))
  obtain ⟨e1, L, hL1, hL2, hL3, hL4⟩ := both_same HPa.out HPb.out
  have HE := Lib.hid e1
  have KS : Hid (Calls Tryd.prog 9 #[va, vb] w8 fun e w' => e = .returned (.bool true) ∧ SW w5 w') := Lib.hid ((same_any va vb L w8 (pthL_more hL1 hb8) hL2 (by omega) (fun x hx => by have := hL4 x hx; omega)).mono (by rintro e w' ⟨rfl, hb⟩; exact ⟨rfl, Below.trans hS8 (Below.mono hb hS8.size)⟩))
  clear hL1 hL2 hL3 hL4 HPa HPb KP KR KF hb8 q2 q3
  subst e1
  have e2 : (ea == ea) = true := by simp
  go_wp2_with (first
    | (go_at_call 9; refine KS.out.mono ?_; rintro e w9 ⟨rfl, hS9⟩)
    | (go_at_call 6; refine (KK.out _ hS9).mono ?_; rintro e w10 ⟨rfl, hS10⟩))
  go_ret
  exact ⟨rfl, HBE.out _ hS10⟩
end Go.Proofs.YtkcdifanhdakhaaDoor.Con

/- What all the rows of this seat ask besides the walks: a world for the witness; arguments opened (places, texts, lists of texts). -/
namespace Go.Proofs.YtkcdifanhdakhaaDoor
open Go.ChangeShapes Go.WideShapes Go.ChangeAt Go.RowKit
set_option linter.unusedSimpArgs false
set_option linter.unusedVariables false

theorem own : ownKnob Tryd.prog.godebug = none := by kernel_rfl
theorem laidOut : laidOutB Tryd.prog = true := by kernel_rfl
/-- the listed variables are not asked for -/
def Env (_ : World) : Prop := True
theorem env_of {W : World} (h : laidMetH Tryd.prog Rows.connectPathsRow.laid W) : Env W := trivial

/-! ### A world for the witness -/
noncomputable def low : Nat := (World.holding Tryd.prog default ⟨#[], #[], []⟩).heap.size
def putCells (cs : Array Value) : Obj → Obj
  | .cells _ t frozen => .cells cs t frozen
  | o => o
def litsOf (k : IntKind) : DataW Unit → List Value
  | .agg ps => ps.map fun | .lit (.int _ z) => .int k z | _ => .int k 0
  | _ => []
noncomputable def laidWorld (os : Os) : World :=
  let w0 := World.holding Tryd.prog os ⟨#[], #[], []⟩
  let h3 := w0.heap.modify 0 (putCells (litsOf .u64 Rows.laid_internal_strconv_uint64pow10).toArray)
  let h4 := h3.modify 1 (putCells (litsOf .u8 Rows.laid_math_bits_deBruijn32tab).toArray)
  let h5 := h4.modify 2 (putCells (litsOf .u8 Rows.laid_math_bits_deBruijn64tab).toArray)
  { w0 with heap := h5 }
theorem laidWorld_met (os : Os) (args : Array Value) : laidMet Tryd.prog Rows.connectPathsRow.laid ((laidWorld os).forCall (fun _ _ => 0) ⟨#[], args, []⟩).memory :=
  laidMet_of_run3 8 (by kernel_rfl) (by kernel_rfl) (by kernel_rfl)

/-! ### Places among the arguments -/
theorem int_bounds {a : Int} (h : (Lit.int .i64 a).wf = true) : -9223372036854775808 ≤ a ∧ a ≤ 9223372036854775807 := by
  have e1 : IntKind.i64.min = -9223372036854775808 := rfl
  have e2 : IntKind.i64.max = 9223372036854775807 := rfl
  simp only [Lit.wf, e1, e2, Bool.and_eq_true, decide_eq_true_eq] at h
  omega
theorem bytes_string : Tryd.prog.bytesOf 9 = 16 := by kernel_rfl
theorem cells_string : Tryd.prog.cellsOf 9 = 1 := by kernel_rfl
theorem cells_int : Tryd.prog.cellsOf 3 = 1 := by kernel_rfl
theorem cells_shift : Tryd.prog.cellsOf 114 = 2 := by kernel_rfl
theorem cells_zone : Tryd.prog.cellsOf 42 = 2 := by kernel_rfl
theorem cells_shs : Tryd.prog.cellsOf 40 = 1 := by kernel_rfl
theorem cells_air : Tryd.prog.cellsOf 44 = 5 := by kernel_rfl
theorem cells_dst : Tryd.prog.cellsOf 97 = 3 := by kernel_rfl
theorem cells_places : Tryd.prog.cellsOf 37 = 2 := by kernel_rfl
theorem sized_str {H : Type} {P : Program} {ts : List TypeId} {ds : List (DataW H)} (h : (DataW.weightsEach P ts ds).all (· ≤ reachBytes) = true) {j : Nat} {t : TypeId} {s : ByteArray} (ht : ts[j]? = some t) (hd : ds[j]? = some (.lit (.string s.data.toList))) : s.size ≤ 140737488355328 := by
  have h1 := sized_string h ht hd
  have h2 := reachBytes_lt
  have e3 : (2 : Nat) ^ 47 = 140737488355328 := by decide
  have e1 : s.data.toList.length = s.size := Array.length_toList
  omega
theorem shs_at (f : Nat → Int × Int) (n i : Nat) (h : i < n) : ((List.range n).map f).getD i (0, 0) = f i := by
  rw [List.getD_eq_getElem?_getD, List.getElem?_map, List.getElem?_range h]; rfl
theorem open_shs {H : Type} {enc : TypeId × Value → H} {W : World} {n : Nat} {v : Value} {y : DataW H × List MemPlace} (h : DataW.trod enc Tryd.prog W 0 (fun _ => true) true n 40 [v] = some y) :
    ∃ (A : Option Addr) (c : Nat) (l : Shs), v = .slice A l.length c ∧ ShL W A l ∧ (∀ k, k < l.length → -9223372036854775808 ≤ shA l k ∧ shA l k ≤ 9223372036854775807) ∧ l.length < 9223372036854775808 := by
  rcases Deep.open_slice_pairs Tryd.underlying40 Tryd.underlying114 cells_shift rfl rfl cells_int cells_int h with ⟨hcs, rfl⟩ | ⟨a, len, cap, m', n, V0, V1, D0, D1, P0, P1, hcs, _, hl, hm, hmm, rfl, hx⟩
  · simp at hcs
    subst hcs
    exact ⟨none, 0, [], rfl, .inl rfl, fun k hk => by simp at hk, by simp⟩
  · simp at hcs
    subst hcs
    simp at hmm
    subst hmm
    have em : maxLen = 9223372036854775807 := by decide
    have each : ∀ i, i < m' → ∃ q : Int × Int, V0 i = .int .i64 q.1 ∧ V1 i = .int .i64 q.2 ∧ -9223372036854775808 ≤ q.1 ∧ q.1 ≤ 9223372036854775807 := fun i hi => by
      obtain ⟨_, _, g0, g1⟩ := hx i hi
      obtain ⟨x, e0, _, w0⟩ := DataW.trod_int Tryd.underlying3 g0
      obtain ⟨y, e1, _, w1⟩ := DataW.trod_int Tryd.underlying3 g1
      simp at e0 e1
      exact ⟨(x, y), e0, e1, int_bounds w0⟩
    obtain ⟨f, hf⟩ := Deep.choose_lt each
    have el : ((List.range len).map f).length = len := by simp
    refine ⟨some a, m', (List.range len).map f, by rw [el], ?_, ?_, by rw [el]; omega⟩
    · rcases Nat.eq_zero_or_pos len with h0 | h0
      · left; rw [h0]; rfl
      · right
        obtain ⟨b, off, spot⟩ := a
        have h1 := (hx 0 (by omega)).1
        have hspot : spot = none := by simpa [Addr.add] using World.cell?_spot h1
        subst hspot
        have hadd : ∀ i, (⟨b, off, none⟩ : Addr).add i = ⟨b, off + i, none⟩ := fun i => by unfold Addr.add; split <;> simp_all
        refine ⟨b, off, rfl, by simpa [Addr.add] using World.block_lt_of_cell? _ _ h1, fun i hi => ?_⟩
        rw [el] at hi
        obtain ⟨g0, g1, _, _⟩ := hx i (by omega)
        obtain ⟨e0, e1, _⟩ := hf i (by omega)
        rw [hadd, e0] at g0
        rw [hadd, e1] at g1
        unfold shA shF
        rw [shs_at f len i hi]
        exact ⟨g0, by rw [Nat.add_assoc]; exact g1⟩
    · intro k hk
      rw [el] at hk
      unfold shA
      rw [shs_at f len k hk]
      exact (hf k (by omega)).2.2
instance : Inhabited Air := ⟨airZ⟩
instance : Inhabited Dst := ⟨⟨noB, noB, 0⟩⟩
theorem len2 {α : Type} : ∀ {l : List α}, l.length = 2 → ∃ a b, l = [a, b]
  | [a, b], _ => ⟨a, b, rfl⟩
theorem len3 {α : Type} : ∀ {l : List α}, l.length = 3 → ∃ a b c, l = [a, b, c]
  | [a, b, c], _ => ⟨a, b, c, rfl⟩
theorem len4 {α : Type} : ∀ {l : List α}, l.length = 4 → ∃ a b c d, l = [a, b, c, d]
  | [a, b, c, d], _ => ⟨a, b, c, d, rfl⟩
theorem len5 {α : Type} : ∀ {l : List α}, l.length = 5 → ∃ a b c d e, l = [a, b, c, d, e]
  | [a, b, c, d, e], _ => ⟨a, b, c, d, e, rfl⟩
set_option maxRecDepth 100000 in
theorem open_air {H : Type} {enc : TypeId × Value → H} {W : World} {n b o : Nat} {cs : List Value} {y : DataW H × List MemPlace} (hc : W.cells? 0 ⟨b, o, none⟩ 5 = some cs) (h : DataW.trod enc Tryd.prog W 0 (fun _ => true) true n 44 cs = some y) :
    ∃ a : Air, AirAt W b o a ∧ OkA a := by
  obtain ⟨_, hlen, hcell⟩ := World.cells?_some hc
  obtain ⟨xs, k, _, _, _, hxl, hf⟩ := DataW.trod_struct Tryd.underlying44 h
  obtain ⟨y0, y1, y2, y3, rfl⟩ := len4 hxl
  obtain ⟨v0, v1, v2, v3, v4, rfl⟩ := len5 hlen
  all_goals
    have g0 := hf 0 _ rfl
    have g1 := hf 1 _ rfl
    have g2 := hf 2 _ rfl
    have g3 := hf 3 _ rfl
    simp [cells_string, cells_zone] at g0 g1 g2 g3
    obtain ⟨s0, e0, _, z0⟩ := DataW.trod_string Tryd.underlying9 g0
    obtain ⟨s1, e1, _, z1⟩ := DataW.trod_string Tryd.underlying9 g1
    obtain ⟨s2, e2, _, z2⟩ := DataW.trod_string Tryd.underlying9 g2
    obtain ⟨zs, k2, _, _, _, hzl, hz⟩ := DataW.trod_struct Tryd.underlying42 g3
    obtain ⟨u0, u1, rfl⟩ := len2 hzl
    all_goals
      have q0 := hz 0 _ rfl
      have q1 := hz 1 _ rfl
      simp [cells_int, cells_shs] at q0 q1
      obtain ⟨x, e3, _, w3⟩ := DataW.trod_int Tryd.underlying3 q0
      obtain ⟨A, c, l, e4, hL, hr, hl⟩ := open_shs q1
      simp at e0 e1 e2 e3
      subst e0 e1 e2 e3 e4
      have hadd : ∀ j, (⟨b, o, none⟩ : Addr).add j = ⟨b, o + j, none⟩ := fun j => by unfold Addr.add; split <;> simp_all
      have c0 := hcell 0 (by omega)
      have c1 := hcell 1 (by omega)
      have c2 := hcell 2 (by omega)
      have c3 := hcell 3 (by omega)
      have c4 := hcell 4 (by omega)
      rw [hadd] at c0 c1 c2 c3 c4
      exact ⟨⟨s0, s1, s2, x, A, c, l⟩, ⟨by simpa using c0, by simpa using c1, by simpa using c2, by simpa using c3, by simpa using c4, hL⟩, ⟨z0, z1, z2, hl, hr⟩⟩
set_option maxRecDepth 100000 in
theorem open_dst {H : Type} {enc : TypeId × Value → H} {W : World} {n b o : Nat} {cs : List Value} {y : DataW H × List MemPlace} (hc : W.cells? 0 ⟨b, o, none⟩ 3 = some cs) (h : DataW.trod enc Tryd.prog W 0 (fun _ => true) true n 97 cs = some y) :
    ∃ d : Dst, DstAt W b o d ∧ OkD d := by
  obtain ⟨_, hlen, hcell⟩ := World.cells?_some hc
  obtain ⟨xs, k, _, _, _, hxl, hf⟩ := DataW.trod_struct Tryd.underlying97 h
  obtain ⟨y0, y1, y2, rfl⟩ := len3 hxl
  obtain ⟨v0, v1, v2, rfl⟩ := len3 hlen
  all_goals
    have g0 := hf 0 _ rfl
    have g1 := hf 1 _ rfl
    have g2 := hf 2 _ rfl
    simp [cells_string, cells_int] at g0 g1 g2
    obtain ⟨s0, e0, _, z0⟩ := DataW.trod_string Tryd.underlying9 g0
    obtain ⟨s1, e1, _, z1⟩ := DataW.trod_string Tryd.underlying9 g1
    obtain ⟨x, e2, _, w2⟩ := DataW.trod_int Tryd.underlying3 g2
    simp at e0 e1 e2
    subst e0 e1 e2
    have hadd : ∀ j, (⟨b, o, none⟩ : Addr).add j = ⟨b, o + j, none⟩ := fun j => by unfold Addr.add; split <;> simp_all
    have c0 := hcell 0 (by omega)
    have c1 := hcell 1 (by omega)
    have c2 := hcell 2 (by omega)
    rw [hadd] at c0 c1 c2
    exact ⟨⟨s0, s1, x⟩, ⟨by simpa using c0, by simpa using c1, by simpa using c2⟩, ⟨z0, z1⟩⟩
theorem list_at {α : Type} (f : Nat → α) (n i : Nat) (a : α) (h : ((List.range n).map f)[i]? = some a) : i < n ∧ a = f i := by
  have hi : i < n := by have := (List.getElem?_eq_some_iff.1 h).1; simpa using this
  rw [List.getElem?_map, List.getElem?_range hi] at h
  exact ⟨hi, (Option.some.inj h).symm⟩
set_option maxRecDepth 100000 in
/-- places by value, opened -/
theorem open_places {H : Type} {enc : TypeId × Value → H} {W : World} {b0 : Nat} {v : Value} {d : DataW H} {p : List MemPlace} (hv : Value.okWide Tryd.prog W .any b0 37 v) (h : DataW.Trod enc Tryd.prog W 0 (fun _ => true) true 37 v d p) :
    ∃ pv : PV, v = encP pv ∧ PlL W pv ∧ (∀ a ∈ pv.l, OkA a) ∧ (∀ d ∈ pv.ds, OkD d) ∧ pv.l.length < 9223372036854775808 ∧ pv.ds.length < 9223372036854775808 := by
  have em : maxLen = 9223372036854775807 := by decide
  obtain ⟨v0, v1, y0, y1, m, rfl, rfl, rfl, hy0, hy1⟩ := Joins.open_agg2 Tryd.underlying37 (by kernel_rfl) cells_places hv h
  have hA : ∃ (A : Option Addr) (c : Nat) (l : List Air), v0 = .slice A l.length c ∧ AirL W A l ∧ (∀ a ∈ l, OkA a) ∧ l.length < 9223372036854775808 := by
    rcases Deep.open_slice Tryd.underlying34 hy0 with ⟨hcs, _⟩ | ⟨a, len, cap, m', n, D, Pl, hcs, _, hl, hm, hmm, _, hx⟩
    · simp at hcs
      exact ⟨none, 0, [], hcs, .inl rfl, fun a ha => by simp at ha, by simp⟩
    · simp at hcs hmm
      subst hcs hmm
      rcases Nat.eq_zero_or_pos len with h0 | h0
      · exact ⟨some a, m', [], by rw [h0]; rfl, .inl rfl, fun a ha => by simp at ha, by simp⟩
      obtain ⟨b, off, spot⟩ := a
      obtain ⟨cs0, hc0, _⟩ := hx 0 (by omega)
      have hspot : spot = none := by
        rw [cells_air] at hc0
        obtain ⟨_, hl0, hcell⟩ := World.cells?_some hc0
        have h1 := hcell 0 (by omega)
        rw [List.getElem?_eq_getElem (by omega)] at h1
        simpa [Addr.add] using World.cell?_spot h1
      subst hspot
      have hadd : ∀ i, (⟨b, off, none⟩ : Addr).add i = ⟨b, off + i, none⟩ := fun i => by unfold Addr.add; split <;> simp_all
      have each : ∀ i, i < len → ∃ a : Air, AirAt W b (off + i * 5) a ∧ OkA a := fun i hi => by
        obtain ⟨cs', h1, h2⟩ := hx i (by omega)
        rw [cells_air, hadd] at h1
        exact open_air h1 h2
      obtain ⟨f, hf⟩ := Deep.choose_lt each
      have el : ((List.range len).map f).length = len := by simp
      refine ⟨some ⟨b, off, none⟩, m', (List.range len).map f, by rw [el], .inr ⟨b, off, rfl, World.block_lt_of_cell? _ _ (hf 0 h0).1.c0, fun i a hi => ?_⟩, fun a ha => ?_, by rw [el]; omega⟩
      · obtain ⟨h1, rfl⟩ := list_at f len i a hi
        exact (hf i h1).1
      · obtain ⟨i, hi, rfl⟩ := List.mem_map.1 ha
        exact (hf i (List.mem_range.1 hi)).2
  have hD : ∃ (A : Option Addr) (c : Nat) (l : List Dst), v1 = .slice A l.length c ∧ DstL W A l ∧ (∀ a ∈ l, OkD a) ∧ l.length < 9223372036854775808 := by
    rcases Deep.open_slice Tryd.underlying35 hy1 with ⟨hcs, _⟩ | ⟨a, len, cap, m', n, D, Pl, hcs, _, hl, hm, hmm, _, hx⟩
    · simp at hcs
      exact ⟨none, 0, [], hcs, .inl rfl, fun a ha => by simp at ha, by simp⟩
    · simp at hcs hmm
      subst hcs hmm
      rcases Nat.eq_zero_or_pos len with h0 | h0
      · exact ⟨some a, m', [], by rw [h0]; rfl, .inl rfl, fun a ha => by simp at ha, by simp⟩
      obtain ⟨b, off, spot⟩ := a
      obtain ⟨cs0, hc0, _⟩ := hx 0 (by omega)
      have hspot : spot = none := by
        rw [cells_dst] at hc0
        obtain ⟨_, hl0, hcell⟩ := World.cells?_some hc0
        have h1 := hcell 0 (by omega)
        rw [List.getElem?_eq_getElem (by omega)] at h1
        simpa [Addr.add] using World.cell?_spot h1
      subst hspot
      have hadd : ∀ i, (⟨b, off, none⟩ : Addr).add i = ⟨b, off + i, none⟩ := fun i => by unfold Addr.add; split <;> simp_all
      have each : ∀ i, i < len → ∃ a : Dst, DstAt W b (off + i * 3) a ∧ OkD a := fun i hi => by
        obtain ⟨cs', h1, h2⟩ := hx i (by omega)
        rw [cells_dst, hadd] at h1
        exact open_dst h1 h2
      obtain ⟨f, hf⟩ := Deep.choose_lt each
      have el : ((List.range len).map f).length = len := by simp
      refine ⟨some ⟨b, off, none⟩, m', (List.range len).map f, by rw [el], .inr ⟨b, off, rfl, World.block_lt_of_cell? _ _ (hf 0 h0).1.c0, fun i a hi => ?_⟩, fun a ha => ?_, by rw [el]; omega⟩
      · obtain ⟨h1, rfl⟩ := list_at f len i a hi
        exact (hf i h1).1
      · obtain ⟨i, hi, rfl⟩ := List.mem_map.1 ha
        exact (hf i (List.mem_range.1 hi)).2
  obtain ⟨A, ca, l, rfl, h1, h2, h3⟩ := hA
  obtain ⟨D, cd, ds, rfl, h4, h5, h6⟩ := hD
  exact ⟨⟨A, ca, l, D, cd, ds⟩, rfl, ⟨h1, h4⟩, h2, h5, h3, h6⟩

/-! ### A list of texts among the arguments -/
theorem weights_strs {P : Program} {H : Type} {e : TypeId} : ∀ {l : List ByteArray} {s : ByteArray}, s ∈ l → s.size ∈ DataW.weightsAll P e (strs l : List (DataW H))
  | a :: r, s, h => by
    simp only [strs, List.map_cons, DataW.weightsAll, List.mem_append]
    rcases List.mem_cons.1 h with rfl | h
    · left
      simp [DataW.weights]
    · right
      exact weights_strs h
theorem open_strL {H : Type} {enc : TypeId × Value → H} {P : Program} {W : World} {t e : TypeId} (ht : P.underlying t = some (.slice e)) (he : P.underlying e = some .string) (hc : P.cellsOf e = 1) (hb : P.bytesOf e = 16)
    {A : Option Addr} {n c : Nat} {d : DataW H} {p : List MemPlace} (h : DataW.Trod enc P W 0 (fun _ => true) true t (.slice A n c) d p)
    {ts : List TypeId} {ds : List (DataW H)} (hsz : (DataW.weightsEach P ts ds).all (· ≤ reachBytes) = true) {j : Nat} (hj : ts[j]? = some t) (hd : ds[j]? = some d) :
    ∃ ss : List ByteArray, n = ss.length ∧ StrL W (.slice A ss.length c) ss ∧ ss.length ≤ 140737488355328 ∧ ∀ s ∈ ss, s.size ≤ 140737488355328 := by
  have hr := reachBytes_lt
  have e3 : (2 : Nat) ^ 47 = 140737488355328 := by decide
  obtain ⟨fuel, hf⟩ := h
  rcases open_strings ht he hc hf with ⟨hcs, _⟩ | ⟨a, len, cap, ss, hcs, _, hl, hm, hz, hx, hcell, _⟩
  · simp [Value.cells] at hcs
    obtain ⟨rfl, rfl, rfl⟩ := hcs
    exact ⟨[], rfl, ⟨none, 0, rfl, .inl rfl⟩, by simp, by simp⟩
  · simp [Value.cells] at hcs
    obtain ⟨rfl, rfl, rfl⟩ := hcs
    simp at hz
    have hlen : (ss.take n).length = n := by rw [List.length_take]; omega
    injection hx with hx _
    subst hx
    have w1 := sized_slice hsz hj hd ht
    rw [hb] at w1
    have el : (strs (H := H) (ss.take n)).length = n := by rw [strs, List.length_map, hlen]
    refine ⟨ss.take n, hlen.symm, ?_, by omega, fun s hs => ?_⟩
    · rw [hlen]
      refine ⟨some a, c, by rw [hlen], ?_⟩
      rcases Nat.eq_zero_or_pos n with h0 | h0
      · left
        rw [h0]; rfl
      · right
        obtain ⟨b, off, spot⟩ := a
        have h1 := hcell 0 (by omega)
        have hspot : spot = none := by simpa [Addr.add] using World.cell?_spot h1
        subst hspot
        refine ⟨b, off, rfl, World.block_lt_of_cell? _ _ h1, fun i hi => ?_⟩
        have h2 := hcell i (by omega)
        rw [List.getElem_take]
        have : ss.getD i ByteArray.empty = ss[i]'(by omega) := by rw [List.getD_eq_getElem?_getD, List.getElem?_eq_getElem (by omega)]; rfl
        rw [this] at h2
        have hadd : (⟨b, off, none⟩ : Addr).add i = ⟨b, off + i, none⟩ := by unfold Addr.add; split <;> simp_all
        rw [hadd] at h2
        exact h2
    · have w2 := List.all_eq_true.1 hsz _ (DataW.weights_mem_each hj hd s.size (by
        simp only [DataW.weights, ht, List.mem_cons, List.mem_append]
        exact .inr (.inl (weights_strs hs))))
      simp at w2
      omega

/-! ### connecting times, a segment -/
open Con
theorem u8_bounds {a : Int} (h : (Lit.int .u8 a).wf = true) : 0 ≤ a ∧ a ≤ 255 := by
  have e1 : IntKind.u8.min = 0 := rfl
  have e2 : IntKind.u8.max = 255 := rfl
  simp only [Lit.wf, e1, e2, Bool.and_eq_true, decide_eq_true_eq] at h
  omega
theorem cells_cn : Tryd.prog.cellsOf 54 = 4 := by kernel_rfl
theorem cells_sgK : Tryd.prog.cellsOf 47 = 7 := by kernel_rfl
instance : Inhabited Cn := ⟨⟨noB, noB, noB, 0⟩⟩
instance : Inhabited Sg := ⟨sgZ⟩
structure OkCn (c : Cn) : Prop where
  a : c.a.size ≤ maxLen
  i : c.i.size ≤ maxLen
  o : c.o.size ≤ maxLen
theorem len7K {α : Type} : ∀ {l : List α}, l.length = 7 → ∃ a b c d e f g, l = [a, b, c, d, e, f, g]
  | [a, b, c, d, e, f, g], _ => ⟨a, b, c, d, e, f, g, rfl⟩
theorem array7K {α : Type} {cs : Array α} (h : cs.size = 7) : ∃ c0 c1 c2 c3 c4 c5 c6, cs = #[c0, c1, c2, c3, c4, c5, c6] := by
  obtain ⟨l⟩ := cs
  match l, h with
  | [c0, c1, c2, c3, c4, c5, c6], _ => exact ⟨c0, c1, c2, c3, c4, c5, c6, rfl⟩
set_option maxRecDepth 100000 in
theorem read_seg {H : Type} {enc : TypeId × Value → H} {W : World} {n : Nat} {c0 c1 c2 c3 c4 c5 c6 : Value} {y : DataW H × List MemPlace} (h : DataW.trod enc Tryd.prog W 0 (fun _ => true) true n 47 [c0, c1, c2, c3, c4, c5, c6] = some y) :
    ∃ sv : Sg, (#[c0, c1, c2, c3, c4, c5, c6] : Array Value) = #[.string sv.car, .int .i64 sv.num, .int .i64 sv.day, .string sv.f, .string sv.t, .int .i64 sv.dep, .int .i64 sv.arr] ∧ sv.f.size ≤ maxLen ∧ sv.t.size ≤ maxLen := by
  obtain ⟨xs, k, _, _, _, hxl, hf⟩ := DataW.trod_struct Tryd.underlying47 h
  obtain ⟨y0, y1, y2, y3, y4, y5, y6, rfl⟩ := len7K hxl
  all_goals
    have g0 := hf 0 _ rfl
    have g1 := hf 1 _ rfl
    have g2 := hf 2 _ rfl
    have g3 := hf 3 _ rfl
    have g4 := hf 4 _ rfl
    have g5 := hf 5 _ rfl
    have g6 := hf 6 _ rfl
    simp [cells_string, cells_int] at g0 g1 g2 g3 g4 g5 g6
    obtain ⟨s0, e0, _, z0⟩ := DataW.trod_string Tryd.underlying9 g0
    obtain ⟨x1, e1, _, w1⟩ := DataW.trod_int Tryd.underlying3 g1
    obtain ⟨x2, e2, _, w2⟩ := DataW.trod_int Tryd.underlying3 g2
    obtain ⟨s3, e3, _, z3⟩ := DataW.trod_string Tryd.underlying9 g3
    obtain ⟨s4, e4, _, z4⟩ := DataW.trod_string Tryd.underlying9 g4
    obtain ⟨x5, e5, _, w5⟩ := DataW.trod_int Tryd.underlying3 g5
    obtain ⟨x6, e6, _, w6⟩ := DataW.trod_int Tryd.underlying3 g6
    simp at e0 e1 e2 e3 e4 e5 e6
    subst e0 e1 e2 e3 e4 e5 e6
    exact ⟨⟨s0, x1, x2, s3, s4, x5, x6⟩, rfl, z3, z4⟩
set_option maxRecDepth 100000 in
/-- a segment by value, opened -/
theorem open_seg {H : Type} {enc : TypeId × Value → H} {W : World} {b0 : Nat} {v : Value} {d : DataW H} {p : List MemPlace} (hv : Value.okWide Tryd.prog W .any b0 47 v) (h : DataW.Trod enc Tryd.prog W 0 (fun _ => true) true 47 v d p) :
    ∃ sv : Sg, v = aggSg sv ∧ sv.f.size ≤ maxLen ∧ sv.t.size ≤ maxLen := by
  obtain ⟨cs, rfl, hsz⟩ := okWide_struct Tryd.underlying47 hv
  obtain ⟨c0, c1, c2, c3, c4, c5, c6, rfl⟩ := array7K (hsz.trans cells_sgK)
  obtain ⟨fuel, hf⟩ := h
  obtain ⟨sv, e, h2⟩ := read_seg hf
  exact ⟨sv, by rw [e], h2⟩
set_option maxRecDepth 100000 in
theorem read_cn {H : Type} {enc : TypeId × Value → H} {W : World} {n : Nat} {c0 c1 c2 c3 : Value} {y : DataW H × List MemPlace} (h : DataW.trod enc Tryd.prog W 0 (fun _ => true) true n 54 [c0, c1, c2, c3] = some y) :
    ∃ x : Cn, [c0, c1, c2, c3] = encCn x ∧ OkCn x := by
  obtain ⟨xs, k, _, _, _, hxl, hf⟩ := DataW.trod_struct Tryd.underlying54 h
  obtain ⟨y0, y1, y2, y3, rfl⟩ := len4 hxl
  all_goals
    have g0 := hf 0 _ rfl
    have g1 := hf 1 _ rfl
    have g2 := hf 2 _ rfl
    have g3 := hf 3 _ rfl
    simp [cells_string, cells_int] at g0 g1 g2 g3
    obtain ⟨s0, e0, _, z0⟩ := DataW.trod_string Tryd.underlying9 g0
    obtain ⟨s1, e1, _, z1⟩ := DataW.trod_string Tryd.underlying9 g1
    obtain ⟨s2, e2, _, z2⟩ := DataW.trod_string Tryd.underlying9 g2
    obtain ⟨x3, e3, _, w3⟩ := DataW.trod_int Tryd.underlying3 g3
    simp at e0 e1 e2 e3
    subst e0 e1 e2 e3
    exact ⟨⟨s0, s1, s2, x3⟩, rfl, ⟨z0, z1, z2⟩⟩

set_option maxRecDepth 100000 in
theorem read_rowK {α : Type} [Inhabited α] {sz : Nat} {enc' : α → List Value} {Ok : α → Prop} {H : Type} {enc : TypeId × Value → H} {W : World} {n : Nat} {v : Value} {y : DataW H × List MemPlace} {ts te : TypeId} (hu : Tryd.prog.underlying ts = some (.slice te)) (hce : Tryd.prog.cellsOf te = sz) (h1 : 0 < sz) (he : ∀ x, (enc' x).length = sz)
    (hread : ∀ m cs yy, cs.length = sz → DataW.trod enc Tryd.prog W 0 (fun _ => true) true m te cs = some yy → ∃ x : α, cs = enc' x ∧ Ok x) (h : DataW.trod enc Tryd.prog W 0 (fun _ => true) true n ts [v] = some y) :
    ∃ (A : Option Addr) (c : Nat) (l : List α), v = .slice A l.length c ∧ RowL sz enc' W (.slice A l.length c) l ∧ (∀ f ∈ l, Ok f) ∧ l.length < 9223372036854775808 := by
  have em : maxLen = 9223372036854775807 := by decide
  rcases Deep.open_slice hu h with ⟨hcs, _⟩ | ⟨a, len, cap, m', n, D, Pl, hcs, _, hl, hm, hmm, _, hx⟩
  · simp at hcs
    exact ⟨none, 0, [], hcs, ⟨none, 0, rfl, .inl rfl⟩, fun a ha => by simp at ha, by simp⟩
  · simp at hcs hmm
    subst hcs hmm
    rcases Nat.eq_zero_or_pos len with h0 | h0
    · exact ⟨some a, m', [], by rw [h0]; rfl, ⟨some a, m', rfl, .inl rfl⟩, fun a ha => by simp at ha, by simp⟩
    obtain ⟨b, off, spot⟩ := a
    obtain ⟨cs0, hc0, _⟩ := hx 0 (by omega)
    have hspot : spot = none := by
      rw [hce] at hc0
      obtain ⟨_, hl0, hcell⟩ := World.cells?_some hc0
      have h1 := hcell 0 (by omega)
      rw [List.getElem?_eq_getElem (by omega)] at h1
      simpa [Addr.add] using World.cell?_spot h1
    subst hspot
    have hadd : ∀ i, (⟨b, off, none⟩ : Addr).add i = ⟨b, off + i, none⟩ := fun i => by unfold Addr.add; split <;> simp_all
    have each : ∀ i, i < len → ∃ x : α, (∀ j u, (enc' x)[j]? = some u → W.cell? ⟨b, off + i * sz + j, none⟩ = some u) ∧ Ok x := fun i hi => by
      obtain ⟨cs', h1, h2⟩ := hx i (by omega)
      rw [hce, hadd] at h1
      obtain ⟨_, hlen, hcell⟩ := World.cells?_some h1
      obtain ⟨x, e, hok⟩ := hread _ _ _ hlen h2
      rw [e] at hcell
      refine ⟨x, fun j u hu => ?_, hok⟩
      have hj : j < sz := by have := (List.getElem?_eq_some_iff.1 hu).1; rw [he] at this; exact this
      have hadd2 : ∀ i, (⟨b, off + i * sz, none⟩ : Addr).add j = ⟨b, off + i * sz + j, none⟩ := fun i => by unfold Addr.add; split <;> simp_all
      have hc2 := hcell j hj
      rw [hadd2] at hc2
      rw [hc2]
      exact hu
    obtain ⟨f, hf⟩ := Deep.choose_lt each
    have el : ((List.range len).map f).length = len := by simp
    have hlt : b < W.heap.size := by
      have h3 := (hf 0 h0).1 0 ((enc' (f 0))[0]'(by rw [he]; exact h1)) (List.getElem?_eq_getElem _)
      exact World.block_lt_of_cell? _ _ h3
    refine ⟨some ⟨b, off, none⟩, m', (List.range len).map f, by rw [el], ⟨some ⟨b, off, none⟩, m', rfl, .inr ⟨b, off, rfl, hlt, fun i x j u hi hu => ?_⟩⟩, fun a ha => ?_, by rw [el]; omega⟩
    · obtain ⟨h1, rfl⟩ := list_at f len i x hi
      exact (hf i h1).1 j u hu
    · obtain ⟨i, hi, rfl⟩ := List.mem_map.1 ha
      exact (hf i (List.mem_range.1 hi)).2
set_option maxRecDepth 100000 in
/-- a list of connecting times by value, opened -/
theorem open_connects {H : Type} {enc : TypeId × Value → H} {W : World} {b0 : Nat} {v : Value} {d : DataW H} {p : List MemPlace} (hv : Value.okWide Tryd.prog W .any b0 22 v) (h : DataW.Trod enc Tryd.prog W 0 (fun _ => true) true 22 v d p) :
    ∃ (A : Option Addr) (c : Nat) (l : List Cn), v = .slice A l.length c ∧ CnL W (.slice A l.length c) l ∧ (∀ x ∈ l, OkCn x) ∧ l.length < 9223372036854775808 := by
  obtain ⟨a, len, cap, rfl⟩ := okWide_slice Tryd.underlying22 hv
  obtain ⟨fuel, hf⟩ := h
  refine read_rowK (enc' := encCn) (Ok := OkCn) Tryd.underlying22 cells_cn (by omega) (fun _ => rfl) (fun m cs yy hl h => ?_) hf
  obtain ⟨c0, c1, c2, c3, rfl⟩ := len4 hl
  exact read_cn h
set_option maxRecDepth 100000 in
/-- a list of segments by value, opened -/
theorem open_segs {H : Type} {enc : TypeId × Value → H} {W : World} {b0 : Nat} {v : Value} {d : DataW H} {p : List MemPlace} (hv : Value.okWide Tryd.prog W .any b0 23 v) (h : DataW.Trod enc Tryd.prog W 0 (fun _ => true) true 23 v d p) :
    ∃ (A : Option Addr) (c : Nat) (l : List Sg), v = .slice A l.length c ∧ SgL W (.slice A l.length c) l ∧ (∀ x ∈ l, x.f.size ≤ maxLen ∧ x.t.size ≤ maxLen) ∧ l.length < 9223372036854775808 := by
  obtain ⟨a, len, cap, rfl⟩ := okWide_slice Tryd.underlying23 hv
  obtain ⟨fuel, hf⟩ := h
  refine read_rowK (enc' := encSg) (Ok := fun x : Sg => x.f.size ≤ maxLen ∧ x.t.size ≤ maxLen) Tryd.underlying23 cells_sgK (by omega) (fun _ => rfl) (fun m cs yy hl h => ?_) hf
  obtain ⟨c0, c1, c2, c3, c4, c5, c6, rfl⟩ := len7K hl
  obtain ⟨sv, e, h2⟩ := read_seg h
  exact ⟨sv, congrArg Array.toList e, h2⟩
end Go.Proofs.YtkcdifanhdakhaaDoor

/- A Case of the laws of connections by value, opened. -/
namespace Go.Proofs.YtkcdifanhdakhaaDoor
open Go.ChangeShapes Go.WideShapes Go.ChangeAt Go.RowKit
set_option linter.unusedSimpArgs false
set_option linter.unusedVariables false

theorem cells_case : Tryd.prog.cellsOf 25 = 2 := by kernel_rfl
set_option maxRecDepth 100000 in
theorem open_case {H : Type} {enc : TypeId × Value → H} {W : World} {b0 : Nat} {v : Value} {d : DataW H} {p : List MemPlace} (hv : Value.okWide Tryd.prog W .any b0 25 v) (h : DataW.Trod enc Tryd.prog W 0 (fun _ => true) true 25 v d p) :
    ∃ (A : Option Addr) (c : Nat) (l : List Con.Cn) (As : Option Addr) (cs : Nat) (S : List Con.Sg), v = .agg #[.slice A l.length c, .slice As S.length cs] ∧ Con.CnL W (.slice A l.length c) l ∧ Con.SgL W (.slice As S.length cs) S ∧ (∀ x ∈ S, x.f.size ≤ maxLen ∧ x.t.size ≤ maxLen) ∧ l.length < 9223372036854775808 ∧ S.length < 9223372036854775808 := by
  obtain ⟨v0, v1, y0, y1, m, rfl, rfl, rfl, hy0, hy1⟩ := Joins.open_agg2 Tryd.underlying25 (by kernel_rfl) cells_case hv h
  obtain ⟨A, c, l, rfl, hA, _, hl⟩ := read_rowK (enc' := Con.encCn) (Ok := OkCn) Tryd.underlying22 cells_cn (by omega) (fun _ => rfl) (fun m cs yy hl h => by
    obtain ⟨c0, c1, c2, c3, rfl⟩ := len4 hl
    exact read_cn h) hy0
  obtain ⟨As, cs, S, rfl, hS, hz, hs⟩ := read_rowK (enc' := Con.encSg) (Ok := fun x : Con.Sg => x.f.size ≤ maxLen ∧ x.t.size ≤ maxLen) Tryd.underlying23 cells_sgK (by omega) (fun _ => rfl) (fun m cs yy hl h => by
    obtain ⟨c0, c1, c2, c3, c4, c5, c6, rfl⟩ := len7K hl
    obtain ⟨sv, e, h2⟩ := read_seg h
    exact ⟨sv, congrArg Array.toList e, h2⟩) hy1
  exact ⟨A, c, l, As, cs, S, rfl, hA, hS, hz, hl, hs⟩
end Go.Proofs.YtkcdifanhdakhaaDoor

/- Proved here, one card a law: airlinelaw11/ConnectPaths return true at every input and leave what they were given as it was. Conditions: those of the given rows alone (the arguments within the form's reach; the listed library variables as their initialisers lay them). -/
namespace Go.Proofs.YtkcdifanhdakhaaDoor
open Go.ChangeShapes Go.WideShapes Go.ChangeAt Go.RowKit
open Go.ChangeMaps (open_string shut_string)
set_option linter.unusedSimpArgs false
set_option linter.unusedVariables false

theorem connectPaths_params : Tryd.f3.params = #[25, 9, 9, 3] := by kernel_rfl
set_option maxRecDepth 100000 in
theorem connectPaths_contract (H : Type) (enc : TypeId × Value → H) (W : World) (base : Nat) (args : Array Value) (ds gs : List (DataW H)) (before : List MemPlace)
    (hval0 : ∀ (j : Nat) t v, Tryd.f3.params[j]? = some t → args[j]? = some v → Value.okWide Tryd.prog W .any base t v)
    (hW : DataW.Whole enc Tryd.prog Tryd.f3.params.toList Rows.connectPathsSpec.vars false W args.toList ds gs before)
    (hsz0 : (DataW.weightsEach Tryd.prog (Tryd.f3.params.toList ++ Rows.connectPathsSpec.plain.varTypes Tryd.prog) (ds ++ gs)).all (· ≤ reachBytes) = true) (hL : laidMetH Tryd.prog Rows.connectPathsRow.laid W) :
    Calls Tryd.prog 3 args W fun e W' => ∃ v, e = .returned v ∧ Rows.connectPathsSpec.post enc Tryd.prog Tryd.f3 false true false false W args v W' := by
  have hE : Env W := env_of hL
  have hval := hval0
  have hsz := hsz0
  clear hval0 hsz0
  have hW' := hW
  obtain ⟨p, q, hA0, hV, rfl, hfz, hnd⟩ := hW
  have hA : DataW.TrodAll enc Tryd.prog W 0 (fun _ => true) true Tryd.f3.params.toList args.toList ds p := hA0
  rw [connectPaths_params] at hA hval hsz
  obtain ⟨v0, vs0, d0, ds0, p0, q0, hargs, rfl, rfl, h0, r0⟩ := trodAll_cons hA
  obtain ⟨v1, vs1, d1, ds1, p1, q1, rfl, rfl, rfl, h1, r1⟩ := trodAll_cons r0
  obtain ⟨v2, vs2, d2, ds2, p2, q2, rfl, rfl, rfl, h2, r2⟩ := trodAll_cons r1
  obtain ⟨v3, vs3, d3, ds3, p3, q3, rfl, rfl, rfl, h3, r3⟩ := trodAll_cons r2
  obtain ⟨rfl, rfl, rfl⟩ := trodAll_nil r3
  obtain rfl : args = #[v0, v1, v2, v3] := by cases args; simp_all
  obtain ⟨rfl, rfl⟩ := trodVars_none hV
  have k0 := h0
  have lt0 : ∀ x ∈ p0, x.block < W.heap.size := by obtain ⟨m, hm⟩ := k0; exact DataW.trod_lt m _ _ _ hm
  obtain ⟨A0, c0, l0, B0, e0, S0, rfl, hL0, hM0, zs0, le0, ls0⟩ := open_case (hval 0 25 v0 rfl rfl) h0
  have k1 := h1
  have lt1 : ∀ x ∈ p1, x.block < W.heap.size := by obtain ⟨m, hm⟩ := k1; exact DataW.trod_lt m _ _ _ hm
  obtain ⟨s1, rfl, rfl, rfl, z1⟩ := open_string Tryd.underlying9 (hval 1 9 v1 rfl rfl) h1
  have y1 := sized_str hsz (j := 1) (t := 9) rfl rfl
  have k2 := h2
  have lt2 : ∀ x ∈ p2, x.block < W.heap.size := by obtain ⟨m, hm⟩ := k2; exact DataW.trod_lt m _ _ _ hm
  obtain ⟨s2, rfl, rfl, rfl, z2⟩ := open_string Tryd.underlying9 (hval 2 9 v2 rfl rfl) h2
  have y2 := sized_str hsz (j := 2) (t := 9) rfl rfl
  have k3 := h3
  have lt3 : ∀ x ∈ p3, x.block < W.heap.size := by obtain ⟨m, hm⟩ := k3; exact DataW.trod_lt m _ _ _ hm
  obtain ⟨a3, rfl, rfl, rfl, w3⟩ := open_int Tryd.underlying3 (hval 3 3 v3 rfl rfl) h3
  have b3 := int_bounds w3
  clear hA0 hval hsz
  refine (Con.connectPaths_walk A0 c0 l0 B0 e0 S0 s1 s2 a3 W hL0 hM0 zs0 ls0).mono fun e W' ⟨he, bel⟩ => ?_
  subst he
  exact ⟨_, rfl, _, _, _, [], _, [], hW', trodAll_mk1 (shut_bool Tryd.underlying4 _), (trodAll_cons_mk (Below.trod laidOut (by kernel_rfl) (of_decide_eq_true (by kernel_rfl)) k0 bel lt0) (trodAll_cons_mk (Below.trod laidOut (by kernel_rfl) (of_decide_eq_true (by kernel_rfl)) k1 bel lt1) (trodAll_cons_mk (Below.trod laidOut (by kernel_rfl) (of_decide_eq_true (by kernel_rfl)) k2 bel lt2) (trodAll_cons_mk (Below.trod laidOut (by kernel_rfl) (of_decide_eq_true (by kernel_rfl)) k3 bel lt3) (trodAll_mk0))))), rfl, bel.frame _, fun h => by cases h⟩
theorem connectPaths_reads (os : Os) {H : Type} (enc : TypeId × Value → H) : ∃ places, DataW.whole enc Tryd.prog ((laidWorld os).forCall (fun _ _ => 0) ⟨#[], #[.agg #[.slice none 0 0, .slice none 0 0], .string ⟨#[]⟩, .string ⟨#[]⟩, .int .i64 0], []⟩).memory Tryd.f3.params.toList Rows.connectPathsSpec.vars false (#[.agg #[.slice none 0 0, .slice none 0 0], .string ⟨#[]⟩, .string ⟨#[]⟩, .int .i64 0] : Array Value).toList 8 = some ([.agg [.nil, .nil], .lit (.string []), .lit (.string []), .lit (.int .i64 0)], [], places) :=
  ⟨[], by kernel_rfl⟩
set_option maxRecDepth 100000 in
theorem connectPaths_lifted (os : Os) (started : os.Started) (H : Type) (enc : TypeId × Value → H) (F : Stop.Interp) :
    ReturnsInHanded {} Tryd.checked os 3 .any ((OpenSpec.ofChange Rows.connectPathsSpec).preRow enc Tryd.prog Tryd.f3 Rows.connectPathsRow.domain false Rows.connectPathsRow.laid) (((OpenSpec.ofChange Rows.connectPathsSpec).at F).post enc Tryd.prog Tryd.f3 false true false false) := by
  obtain ⟨places, hx⟩ := connectPaths_reads os enc
  refine returnsInHanded_of_row (C := Tryd.checked) (s := (OpenSpec.ofChange Rows.connectPathsSpec)) own started (by kernel_rfl) Tryd.func3
    (witness_row_atRef (enc := enc) (C := Tryd.checked) false (laidWorld os) #[.agg #[.slice none 0 0, .slice none 0 0], .string ⟨#[]⟩, .string ⟨#[]⟩, .int .i64 0] rfl (by kernel_rfl) (by kernel_rfl) (by kernel_rfl)
      (OpenSpec.preRow_of_cond 8 hx (by kernel_rfl) (fun k hk => by cases hk) (by kernel_rfl) (laidWorld_met os _))) ?_
  intro W base args ds gs before hval hW _ _ hsz hL _ _
  exact connectPaths_contract H enc W base args ds gs before hval hW hsz hL
theorem connectPaths_said : Rows.ConnectPathsSaid :=
  OpenClaim.holds_of_cond 3 Tryd.f3 rfl rfl rfl rfl rfl rfl rfl ⟨rfl, rfl, rfl, rfl, rfl⟩ rfl rfl rfl rfl rfl (by kernel_rfl) Tryd.func3 (by kernel_rfl)
    (of_decide_eq_true (by kernel_rfl)) (by unfold Func.isWrapper; first | (rw [if_pos (by decide +kernel)]; kernel_rfl) | (rw [if_neg (by decide +kernel)]; exact ⟨rfl, rfl⟩))
    (fun os started H enc _ F => by rw [OpenClaim.pre_eq_preRow]; exact connectPaths_lifted os started H enc F)
theorem connectPaths_plain (f : FuncId) (fn : Func) (hf : Tryd.pinned.checked.prog.funcNamed "airline/airlinelaw11.ConnectPaths" = some f) (hfn : Tryd.pinned.checked.prog.funcs[f]? = some fn) :
    false = Tryd.pinned.checked.prog.looks [] ∧ ∀ (j : Nat) t, fn.params[j]? = some t → Tryd.pinned.checked.prog.wantsStandIn t = false := by
  obtain rfl : f = 3 := Option.some.inj ((show Tryd.prog.funcNamed "airline/airlinelaw11.ConnectPaths" = some 3 by kernel_rfl).symm.trans hf) |>.symm
  obtain rfl : fn = Tryd.f3 := (Option.some.inj (Tryd.func3.symm.trans hfn)).symm
  refine ⟨by kernel_rfl, fun j t ht => ?_⟩
  rw [connectPaths_params] at ht
  have h := Array.mem_of_getElem? ht
  simp only [List.mem_toArray, List.mem_cons, List.not_mem_nil, or_false] at h
  rcases h with rfl | rfl | rfl | rfl
  · exact (show Tryd.prog.wantsStandIn 25 = false by kernel_rfl)
  · exact (show Tryd.prog.wantsStandIn 9 = false by kernel_rfl)
  · exact (show Tryd.prog.wantsStandIn 9 = false by kernel_rfl)
  · exact (show Tryd.prog.wantsStandIn 3 = false by kernel_rfl)
/-- the card -/
theorem connectPaths_card : Rows.ConnectPathsCardSaid :=
  Claim7.holds_tied_plain_at .later [] _ _ _ _ connectPaths_said (fun _ h => by cases h) (by kernel_rfl) (fun _ h => by cases h) connectPaths_row_tie rfl ⟨rfl, rfl⟩ (by kernel_rfl) rfl connectPaths_plain (by kernel_rfl)

end Go.Proofs.YtkcdifanhdakhaaDoor
