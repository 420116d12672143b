/- ConO, ConZ, ConY, FrameK, FrameW, FramesCD in one text. -/
import Derived.Test.YtkcdifanhdakhaaDoorConQ
import Derived.Test.YtkcdifanhdakhaaDoorConV
import Derived.Test.YtkcdifanhdakhaaDoorConE
import Derived.Test.YtkcdifanhdakhaaDoorPlaQC
import Derived.Test.YtkcdifanhdakhaaDoorPlaR
import Derived.Deep.RegionHeld3
import Derived.OrdersHeld
import Derived.Deep.CutRange
import Derived.BigQuiet
import Derived.Test.YtkcdifanhdakhaaDoorCards
import Derived.Test.YtkcdifanhdakhaaDoorTie
import Derived.WalkKit
import Derived.ProofKit
import Derived.OpenShut
import Derived.ShutString
import Derived.Carry
import Derived.SizedLaws
import Derived.SliceStrings
import Derived.Stop.LaidErr
import Derived.Deep.DeepHandedRow
import Derived.Deep.DeepWitnessRowRef
import Derived.Deep.DeepLaidRun
import Derived.Lib.LaidTab
import Derived.Lib.SmallJoins
import Derived.Deep.SlicePairs
import Derived.Test.YtkcdifanhdakhaaDoorRows
import Derived.ChangeSlices
import Derived.Test.YtkcdifanhdakhaaDoorPlaB
import Derived.Test.YtkcdifanhdakhaaDoorConA
/- What every journey holds: plain facts for the law of journeys that follow. -/
namespace Go.Proofs.YtkcdifanhdakhaaDoor.Con
open Go.RowKit Go.Shelf
set_option linter.unusedSimpArgs false
set_option linter.unusedVariables false

structure FolP (l : List Cn) (S : List Sg) (fr dn : ByteArray) (most : Int) (p : List Nat) : Prop where
  one : 1 ≤ p.length
  le3 : p.length ≤ 3
  mst : (p.length : Int) ≤ most
  lt : ∀ i ∈ p, i < S.length
  beg : eqS (sA S (p.headD 0)).f fr = true
  fin : eqS (sA S (lst p)).t dn = true
  fit : ∀ k a b, p[k]? = some a → p[k + 1]? = some b → fitB l (sA S a) (sA S b) = true
theorem kd1 {fr dn : ByteArray} {s : Sg} (h : (kd fr dn s == 1) = true) : eqS s.f fr = true ∧ eqS s.t dn = true := by
  unfold kd at h
  split at h
  · simp at h
  · split at h
    · rename_i h2; simpa using h2
    · split at h
      · simp at h
      · split at h <;> simp at h
theorem kd2 {fr dn : ByteArray} {s : Sg} (h : (kd fr dn s == 2) = true) : eqS s.f fr = true := by
  unfold kd at h
  split at h
  · simp at h
  · split at h
    · simp at h
    · split at h
      · assumption
      · split at h <;> simp at h
theorem kd3 {fr dn : ByteArray} {s : Sg} (h : (kd fr dn s == 3) = true) : eqS s.t dn = true := by
  unfold kd at h
  split at h
  · simp at h
  · split at h
    · simp at h
    · split at h
      · simp at h
      · split at h
        · assumption
        · simp at h
theorem bef_of {l : List Cn} {S : List Sg} {fr dn : ByteArray} {k f : Nat} (h : f ∈ befP l S fr dn k) : f < S.length ∧ eqS (sA S f).f fr = true ∧ fitB l (sA S f) (sA S k) = true := by
  obtain ⟨h1, h2⟩ := List.mem_filter.1 h
  have h3 := ix_lt h1
  have h4 := h3.2
  rw [Bool.and_eq_true] at h4
  exact ⟨h3.1, kd2 h4.1, h2⟩
theorem aft_of {l : List Cn} {S : List Sg} {fr dn : ByteArray} {k j : Nat} (h : j ∈ aftP l S fr dn k) : j < S.length ∧ eqS (sA S j).t dn = true ∧ fitB l (sA S k) (sA S j) = true := by
  obtain ⟨h1, h2⟩ := List.mem_filter.1 h
  have h3 := ix_lt h1
  have h4 := h3.2
  rw [Bool.and_eq_true] at h4
  exact ⟨h3.1, kd3 h4.1, h2⟩
theorem fol_of {l : List Cn} {S : List Sg} {fr dn : ByteArray} {most : Int} {p : List Nat} (hm : 1 ≤ most) (h : p ∈ pathsP l S fr dn most) : FolP l S fr dn most p := by
  unfold pathsP at h
  rcases List.mem_append.1 h with h | h
  · obtain ⟨i, hi, rfl⟩ := List.mem_map.1 h
    have h1 := ix_lt hi
    have h2 := kd1 h1.2
    exact ⟨by simp, by simp, by simpa using hm, by simpa using h1.1, h2.1, h2.2, fun k a b ha hb => by simp at hb⟩
  · by_cases h2 : most < 2
    · rw [if_pos h2] at h; cases h
    · rw [if_neg h2] at h
      rcases List.mem_append.1 h with h | h
      · obtain ⟨k, hk, h⟩ := List.mem_flatMap.1 h
        obtain ⟨f, hf, rfl⟩ := List.mem_map.1 h
        have h1 := ix_lt hk
        have h3 := bef_of hf
        refine ⟨by simp, by simp, by simp; omega, ?_, h3.2.1, kd3 h1.2, ?_⟩
        · intro i hi
          simp at hi
          rcases hi with rfl | rfl
          · exact h3.1
          · exact h1.1
        · intro q a b ha hb
          cases q with
          | zero => simp at ha hb; subst ha hb; exact h3.2.2
          | succ q => simp at hb
      · by_cases h4 : most < 3
        · rw [if_pos h4] at h; cases h
        · rw [if_neg h4] at h
          obtain ⟨k, hk, h⟩ := List.mem_flatMap.1 h
          obtain ⟨f, hf, h⟩ := List.mem_flatMap.1 h
          obtain ⟨j, hj, rfl⟩ := List.mem_map.1 h
          have h1 := ix_lt hk
          have h3 := bef_of hf
          have h5 := aft_of hj
          refine ⟨by simp, by simp, by simp; omega, ?_, h3.2.1, h5.2.1, ?_⟩
          · intro i hi
            simp at hi
            rcases hi with rfl | rfl | rfl
            · exact h3.1
            · exact h1.1
            · exact h5.1
          · intro q a b ha hb
            cases q with
            | zero => simp at ha hb; subst ha hb; exact h3.2.2
            | succ q =>
              cases q with
              | zero => simp at ha hb; subst ha hb; exact h5.2.2
              | succ q => simp at hb
/-- the segments of a journey -/
def wayP (S : List Sg) (p : List Nat) : List Sg := p.map (sA S)
/-- whether the law asks that the journey be valid -/
def takeB (P : PV) (S : List Sg) (p : List Nat) : Bool := p.all fun i => decide ((sA S i).dep < (sA S i).arr) && (findC P.l (sA S i).t).isSome
theorem take_snoc (P : PV) (S : List Sg) (p : List Nat) (i : Nat) : takeB P S (p ++ [i]) = ((takeB P S p && decide ((sA S i).dep < (sA S i).arr)) && (findC P.l (sA S i).t).isSome) := by
  unfold takeB
  rw [List.all_append, Bool.and_assoc]
  simp
theorem sA_way {S : List Sg} {p : List Nat} {k i : Nat} (h : p[k]? = some i) : sA (wayP S p) k = sA S i := by
  unfold wayP
  have h2 : (p.map (sA S))[k]? = some (sA S i) := by rw [List.getElem?_map, h]; rfl
  have h3 : k < (p.map (sA S)).length := (List.getElem?_eq_some_iff.1 h2).1
  have h4 := sA_get h3
  rw [h2] at h4
  exact (Option.some.inj h4).symm
theorem fit_of {l : List Cn} {x y : Sg} (h : fitB l x y = true) : eqS y.f x.t = true ∧ minC l x.t x.car y.car ≤ y.dep - x.arr := by
  unfold fitB at h
  rw [Bool.and_eq_true, Bool.and_eq_true] at h
  exact ⟨h.1.1, of_decide_eq_true h.2⟩
theorem val_zero {P : PV} {l : List Cn} {S : List Sg} {fr dn : ByteArray} {most : Int} {p : List Nat} (h : FolP l S fr dn most p) (ht : takeB P S p = true) (hf : airB P fr = true) : valP P l (wayP S p) = 0 := by
  have hlen : (wayP S p).length = p.length := List.length_map ..
  have hat : ∀ k, k < p.length → vAt P l (wayP S p) k = 0 := by
    intro k hk
    obtain ⟨i, hi⟩ : ∃ i, p[k]? = some i := ⟨_, List.getElem?_eq_getElem hk⟩
    have hti := List.all_eq_true.1 ht i (List.mem_of_getElem? hi)
    rw [Bool.and_eq_true] at hti
    unfold vAt
    rw [sA_way hi]
    have ht2 : airB P (sA S i).t = true := hti.2
    have hti1 := of_decide_eq_true hti.1
    cases k with
    | zero =>
      have hfi : airB P (sA S i).f = true := by
        have h0 : p.headD 0 = i := by
          cases p with
          | nil => simp at hi
          | cons a r => simpa using hi
        have := h.beg
        rw [h0, eqS_iff] at this
        rw [show (sA S i).f = fr from this]; exact hf
      rw [hfi, ht2]
      simp only [Bool.not_true, Bool.or_false, Bool.false_eq_true, if_false]
      rw [if_neg (by omega)]
      rfl
    | succ k =>
      obtain ⟨j, hj⟩ : ∃ j, p[k]? = some j := ⟨_, List.getElem?_eq_getElem (by omega)⟩
      have htj := List.all_eq_true.1 ht j (List.mem_of_getElem? hj)
      rw [Bool.and_eq_true] at htj
      have hfit := fit_of (h.fit k j i hj hi)
      have hfi : airB P (sA S i).f = true := by
        rw [show (sA S i).f = (sA S j).t from (eqS_iff _ _).1 hfit.1]; exact htj.2
      rw [hfi, ht2]
      simp only [Bool.not_true, Bool.or_false, Bool.false_eq_true, if_false]
      rw [if_neg (by omega), if_neg (by omega), Nat.add_sub_cancel, sA_way hj]
      unfold chgP
      rw [hfit.1]
      simp only [if_true]
      rw [if_neg (by omega)]
  have hfr : ∀ n k, k + n = p.length → vFr P l (wayP S p) n k = 0 := by
    intro n
    induction n with
    | zero => intro k _; rfl
    | succ n ih =>
      intro k hk
      unfold vFr
      rw [hat k (by omega)]
      simp only [ne_eq, not_true_eq_false, if_false]
      exact ih (k + 1) (by omega)
  unfold valP
  rw [hlen, if_neg (by have := h.one; have := h.le3; omega)]
  exact hfr _ 0 (by omega)
theorem cf_arr {S : List Sg} {a b : List Nat} (h : ¬ cfP S b a < 0) : (sA S (lst a)).arr ≤ (sA S (lst b)).arr := by
  unfold cfP at h
  by_cases h1 : Lib.compareInt (sA S (lst b)).arr (sA S (lst a)).arr ≠ 0
  · rw [if_pos h1] at h
    rw [cmpI_lt] at h
    omega
  · have : (sA S (lst b)).arr = (sA S (lst a)).arr := (cmpI_zero _ _).1 (by omega)
    omega
theorem pair_adj {α : Type} {R : α → α → Prop} {l : List α} (h : l.Pairwise R) {k : Nat} {a b : α} (ha : l[k]? = some a) (hb : l[k + 1]? = some b) : R a b := by
  obtain ⟨h1, rfl⟩ := List.getElem?_eq_some_iff.1 ha
  obtain ⟨h2, rfl⟩ := List.getElem?_eq_some_iff.1 hb
  exact List.pairwise_iff_getElem.1 h k (k + 1) h1 h2 (by omega)
theorem way_first {l : List Cn} {S : List Sg} {fr dn : ByteArray} {most : Int} {p : List Nat} (h : FolP l S fr dn most p) : (wayP S p)[0]? = some (sA S (p.headD 0)) := by
  have := h.one
  cases p with
  | nil => simp at this
  | cons a r => rfl
theorem way_last {S : List Sg} {p : List Nat} {r : Nat} (h : p.length = r + 1) : (wayP S p)[r]? = some (sA S (lst p)) := by
  unfold wayP
  rw [List.getElem?_map, lst_get h]
  rfl
theorem way_take {S : List Sg} {p : List Nat} {k q : Nat} (h : p[k]? = some q) : wayP S (p.take (k + 1)) = wayP S (p.take k) ++ [sA S q] := by
  unfold wayP
  rw [List.take_add_one, h, List.map_append]
  rfl
theorem way_at {S : List Sg} {p : List Nat} {j k q : Nat} (h : p[j]? = some q) (hj : j < k) : (wayP S (p.take k))[j]? = some (sA S q) := by
  unfold wayP
  rw [List.getElem?_map, List.getElem?_take_of_lt hj, h]
  rfl
theorem take_take (P : PV) {S : List Sg} {p : List Nat} {k q : Nat} (h : p[k]? = some q) : takeB P S (p.take (k + 1)) = ((takeB P S (p.take k) && decide ((sA S q).dep < (sA S q).arr)) && (findC P.l (sA S q).t).isSome) := by
  rw [List.take_add_one, h]
  exact take_snoc P S _ q
end Go.Proofs.YtkcdifanhdakhaaDoor.Con

/- far at a list of any length (as in XConG). -/
namespace Go.Proofs.YtkcdifanhdakhaaDoor.Con
open Go.RowKit Go.Shelf
set_option linter.unusedSimpArgs false
set_option linter.unusedVariables false

set_option maxRecDepth 100000 in
set_option maxHeartbeats 8000000 in
theorem farN_any (v : Value) (l : List Sg) (w : World) (hv : SgL w v l) (hn : l.length < 9223372036854775808) : Calls Tryd.prog 5 #[v] w fun e w' => e = .returned (.bool (farB l)) ∧ Below w.heap.size w w' := by
  obtain ⟨A, c, rfl, _⟩ := id hv
  have HV := Lib.hid hv
  clear hv
  have HI : Hid (farB (l.take 0) = false) := Lib.hid rfl
  go_enter Tryd.func5, Tryd.ntmps5
  go_wp2
  go_loopg [3] l.length (fun kx vi wr => ∃ (k : Nat), vi = .int .i64 k ∧ k + kx = l.length ∧ Hid (farB (l.take k) = false) ∧ SW w wr)
  case atStart => exact ⟨0, rfl, by omega, HI, Below.refl _ _⟩
  case round =>
    obtain ⟨k, rfl, hkx, HK, hS⟩ := hrel
    have HKX := Lib.hid hkx
    by_cases hlt : k < l.length
    · obtain ⟨x, hx⟩ : ∃ x, l[k]? = some x := ⟨_, List.getElem?_eq_getElem hlt⟩
      obtain ⟨bb, off, e1, hbl, hc⟩ := row_get (HV.out.more hS) hx
      cases e1
      have i2 : (k : Int) < (l.length : Int) := by omega
      have d0 := hc 0 _ rfl
      have d1 := hc 1 _ rfl
      have d2 := hc 2 _ rfl
      have d3 := hc 3 _ rfl
      have d4 := hc 4 _ rfl
      have d5 := hc 5 _ rfl
      have d6 := hc 6 _ rfl
      rw [Nat.add_zero] at d0
      have HS : Hid (farB (l.take (k + 1)) = (decide (min x.dep x.arr < -1099511627776) || decide (max x.dep x.arr > 1099511627776))) := Lib.hid (by rw [List.take_add_one, hx]; exact (farB_snoc _ _).trans (by rw [HK.out]; rfl))
      have HM := Lib.hid (List.mem_of_getElem? hx)
      have hb1 := bel_alloc wr (.cells #[.string x.car, .int .i64 x.num, .int .i64 x.day, .string x.f, .string x.t, .int .i64 x.dep, .int .i64 x.arr] sgT)
      have q5 := (cells_new wr #[.string x.car, .int .i64 x.num, .int .i64 x.day, .string x.f, .string x.t, .int .i64 x.dep, .int .i64 x.arr] sgT 5).trans (show _ = some (Value.int .i64 x.dep) from rfl)
      have q6 := (cells_new wr #[.string x.car, .int .i64 x.num, .int .i64 x.day, .string x.f, .string x.t, .int .i64 x.dep, .int .i64 x.arr] sgT 6).trans (show _ = some (Value.int .i64 x.arr) from rfl)
      have HS1 := Lib.hid (show SW w (wr.alloc (.cells #[.string x.car, .int .i64 x.num, .int .i64 x.day, .string x.f, .string x.t, .int .i64 x.dep, .int .i64 x.arr] sgT)) from Below.alloc hS hS.size _)
      clear hx hc hbl hkx hb1 hS
      cases h1 : decide (min x.dep x.arr < -1099511627776) with
      | true =>
        have h1' : min x.dep x.arr < -1099511627776 := of_decide_eq_true h1
        have HR : Hid (true = farB l) := Lib.hid (farB_of HM.out (by rw [h1]; rfl)).symm
        go_wp2
        all_goals first
          | (exfalso; omega)
          | (go_ret; exact ⟨ret_bool HR.out, HS1.out⟩)
      | false =>
        have h1' : ¬ min x.dep x.arr < -1099511627776 := of_decide_eq_false h1
        cases h2 : decide (max x.dep x.arr > 1099511627776) with
        | true =>
          have h2' : max x.dep x.arr > 1099511627776 := of_decide_eq_true h2
          have h2'' : 1099511627776 < max x.dep x.arr := h2'
          have HR : Hid (true = farB l) := Lib.hid (farB_of HM.out (by rw [h2, Bool.or_true])).symm
          go_wp2
          all_goals first
            | (exfalso; omega)
            | (go_ret; exact ⟨ret_bool HR.out, HS1.out⟩)
        | false =>
          have h2' : ¬ 1099511627776 < max x.dep x.arr := of_decide_eq_false h2
          have HR : Hid (farB (l.take (k + 1)) = false) := Lib.hid (by rw [HS.out, h1, h2]; rfl)
          go_wp2
          all_goals first
            | (exfalso; omega)
            | (go_roundg (l.length - (k + 1))
               case measure => have := HKX.out; omega
               case rel => exact ⟨k + 1, by go_num, by have := HKX.out; omega, HR, HS1.out⟩)
    · have HR : Hid (false = farB l) := Lib.hid (by rw [← HK.out, show l.take k = l from List.take_of_length_le (by omega)])
      have i2 : ¬ (k : Int) < (l.length : Int) := by omega
      go_wp2
      go_ret
      exact ⟨ret_bool HR.out, hS⟩
end Go.Proofs.YtkcdifanhdakhaaDoor.Con

/- Walk of the law ConnectFollows. -/
namespace Go.Proofs.YtkcdifanhdakhaaDoor.Con
open Go.RowKit Go.Shelf
set_option linter.unusedSimpArgs false
set_option linter.unusedVariables false

theorem rtSg : RT Tryd.prog 23 sgT 7 encSg where
  ht := Tryd.underlying23
  info := ⟨.agg #[.string noB, .int .i64 0, .int .i64 0, .string noB, .string noB, .int .i64 0, .int .i64 0], 80, by kernel_rfl, rfl, by omega⟩
  len x := rfl
  one x u hu := by simp [encSg] at hu; rcases hu with rfl | rfl | rfl | rfl | rfl | rfl | rfl <;> rfl
  pos := by omega
theorem chk_nilF {p : PV} (h : chkP p = []) : (∀ (k : Nat) (a : Air), p.l[k]? = some a → okE (airE (p.l.take k) a) = []) := by
  intro k a hk
  have h1 : airF p.l p.l.length = [] := (List.append_eq_nil_iff.1 h).1
  unfold airF at h1
  rw [List.flatMap_eq_nil_iff] at h1
  have := h1 k (List.mem_range.2 (List.getElem?_eq_some_iff.1 hk).1)
  rw [hk] at this
  unfold pick at this
  exact List.map_eq_nil_iff.1 this
theorem chk_fewF {p : PV} (h : chkP p = []) : ∀ a ∈ p.l, a.shs.length ≤ 300 := by
  intro a ha
  obtain ⟨k, hk⟩ := List.getElem?_of_mem ha
  have h1 := chk_nilF h k a hk
  have h2 := List.filter_eq_nil_iff.1 h1 (errZ a.off a.shs) (by simp [airE])
  exact Nat.le_trans (errZ_ok (by simpa using h2)).len (by omega)
theorem air_mem {p : PV} {k : Nat} {a : Air} (h : p.l[k]? = some a) : airB p a.code = true := by
  unfold airB findC
  rw [List.find?_isSome]
  exact ⟨a, List.mem_of_getElem? h, (eqS_iff _ _).2 rfl⟩
/-- what the law needs of the list that Paths tells -/
structure FolL (l : List Cn) (S : List Sg) (fr dn : ByteArray) (most : Int) (W : World) (v : Value) (ps : List Pth) : Prop where
  row : RowL 1 encPt W v ps
  at' : ∀ x ∈ ps, PthAt W x
  fol : ∀ x ∈ ps, FolP l S fr dn most x.l
  ord : ∀ k (a b : Pth), ps[k]? = some a → ps[k + 1]? = some b → (sA S (lst a.l)).arr ≤ (sA S (lst b.l)).arr
  len : ps.length ≤ 1024
theorem fol_paths {l : List Cn} {S : List Sg} {fr dn : ByteArray} {most : Int} {W : World} {v : Value} {er : Int} (h : PathsR l S fr dn most W v er) : ∃ ps, FolL l S fr dn most W v ps := by
  have hnil : v = nilS → ∃ ps, FolL l S fr dn most W v ps := fun e => ⟨[], e ▸ ⟨none, 0, rfl, .inl rfl⟩, by simp, by simp, by simp, by simp⟩
  unfold PathsR at h
  by_cases h1 : most < 1 ∨ 3 < most
  · rw [if_pos h1] at h; exact hnil h.1
  rw [if_neg h1] at h
  by_cases h2 : 1024 < (pathsP l S fr dn most).length
  · rw [if_pos h2] at h; exact hnil h.1
  rw [if_neg h2] at h
  obtain ⟨_, ps, ps', hl, hs⟩ := h
  refine ⟨ps', hs.row, hs.at', fun x hx => ?_, fun k a b ha hb => cf_arr (pair_adj hs.ord ha hb), ?_⟩
  · refine fol_of (by omega) ?_
    rw [← hl]
    exact List.mem_map.2 ⟨x, hs.perm.mem_iff.1 hx, rfl⟩
  · have : (lss ps).length = ps.length := List.length_map ..
    rw [hs.perm.length_eq, ← this, hl]
    omega
theorem FolL.more {l : List Cn} {S : List Sg} {fr dn : ByteArray} {most : Int} {W W' : World} {v : Value} {ps : List Pth} (h : FolL l S fr dn most W v ps) (hb : Below W.heap.size W W') : FolL l S fr dn most W' v ps :=
  ⟨h.row.more hb, fun x hx => pthAt_more (h.at' x hx) hb, h.fol, h.ord, h.len⟩

set_option maxRecDepth 100000 in
set_option maxHeartbeats 16000000 in
theorem connectFollows_walk (p : PV) (A : Option Addr) (c : Nat) (l : List Cn) (As : Option Addr) (cs : Nat) (S : List Sg) (most : Int) (w : World) (hP : PlL w p) (oA : ∀ a ∈ p.l, OkA a) (oD : ∀ d ∈ p.ds, OkD d)
    (hv : CnL w (.slice A l.length c) l) (hs : SgL w (.slice As S.length cs) S) (hz : ∀ s ∈ S, s.f.size ≤ maxLen ∧ s.t.size ≤ maxLen) (hs63 : S.length < 9223372036854775808) :
    Calls Tryd.prog 4 #[encP p, .agg #[.slice A l.length c, .slice As S.length cs], .int .i64 most] w fun e w' => e = .returned (.bool true) ∧ Below w.heap.size w w' := by
  have hb1 := bel_alloc w (.cells #[.slice p.A p.l.length p.ca, .slice p.D p.ds.length p.cd] placesT)
  have hb2 := bel_alloc (w.alloc (.cells #[.slice p.A p.l.length p.ca, .slice p.D p.ds.length p.cd] placesT)) (.cells #[.slice A l.length c, .slice As S.length cs] 25)
  have hb : Below w.heap.size w ((w.alloc (.cells #[.slice p.A p.l.length p.ca, .slice p.D p.ds.length p.cd] placesT)).alloc (.cells #[.slice A l.length c, .slice As S.length cs] 25)) := hb1.trans (hb2.mono hb1.size)
  have p0 := bel_cell hb2 ((cells_new w #[.slice p.A p.l.length p.ca, .slice p.D p.ds.length p.cd] placesT 0).trans (show _ = some (Value.slice p.A p.l.length p.ca) from rfl))
  have p1 := bel_cell hb2 ((cells_new w #[.slice p.A p.l.length p.ca, .slice p.D p.ds.length p.cd] placesT 1).trans (show _ = some (Value.slice p.D p.ds.length p.cd) from rfl))
  have p2 := (cells_new (w.alloc (.cells #[.slice p.A p.l.length p.ca, .slice p.D p.ds.length p.cd] placesT)) #[.slice A l.length c, .slice As S.length cs] 25 0).trans (show _ = some (Value.slice A l.length c) from rfl)
  have p3 := (cells_new (w.alloc (.cells #[.slice p.A p.l.length p.ca, .slice p.D p.ds.length p.cd] placesT)) #[.slice A l.length c, .slice As S.length cs] 25 1).trans (show _ = some (Value.slice As S.length cs) from rfl)
  have hP5 := hP.more hb
  have hv5 := hv.more hb
  have hs5 := hs.more hb
  have HB := Lib.hid hb
  clear hb1 hb2
  rw [World.size_alloc] at p2 p3
  go_enter Tryd.func4, Tryd.ntmps4
  go_upto_region 1 with fail
  try simp only [World.size_alloc]
  generalize (w.alloc (.cells #[.slice p.A p.l.length p.ca, .slice p.D p.ds.length p.cd] placesT)).alloc (.cells #[.slice A l.length c, .slice As S.length cs] 25) = w5 at *
  generalize hB : w.heap.size = B at *
  have HBE : Hid (∀ W, SW w5 W → Below w.heap.size w W) := Lib.hid (fun W h => by subst hB; exact HB.out.trans (Below.mono h HB.out.size))
  have Q0 := Lib.hid (bel_get p0)
  have Q1 := Lib.hid (bel_get p1)
  have Q2 := Lib.hid (bel_get p2)
  have Q3 := Lib.hid (bel_get p3)
  have HV := Lib.hid hv5
  have HSG := Lib.hid hs5
  have HPL := Lib.hid hP5
  have HZ := Lib.hid hz
  have KF : Hid (∀ W, SW w5 W → Calls Tryd.prog 5 #[.slice As S.length cs] W fun e w' => e = .returned (.bool (farB S)) ∧ SW w5 w') := Lib.hid (fun W h => (farN_any _ S W (hs5.more h) hs63).mono (by rintro e w' ⟨rfl, h2⟩; exact ⟨rfl, Below.trans h (Below.mono h2 h.size)⟩))
  have KK : Hid (∀ W, SW w5 W → Calls Tryd.prog 6 #[] W fun e w' => e = .returned (.bool true) ∧ SW w5 w') := Lib.hid (fun W h => (knows_any W).mono (by rintro e w' ⟨rfl, hb⟩; exact ⟨rfl, Below.trans h (Below.mono hb h.size)⟩))
  have KR : p.l.length ≤ 20 → p.ds.length ≤ 40 → Hid (∀ W, SW w5 W → Calls Tryd.prog 10 #[.agg #[.slice p.A p.l.length p.ca, .slice p.D p.ds.length p.cd]] W fun e w' => ∃ A' c', e = .returned (.slice A' (chkP p).length c') ∧ SW w5 w') := fun h1 h2 => Lib.hid (fun W h => (rcheck6_any p W ⟨oA, oD, by omega, by omega⟩ (hP5.more h)).mono (by
    rintro e w' ⟨v', rfl, hO, hb2⟩
    obtain ⟨A', c', rfl, _⟩ := hO.rowL rtF.len
    exact ⟨A', c', rfl, Below.trans h (Below.mono hb2 h.size)⟩))
  have hS : SW w5 w5 := Below.refl _ _
  have q0 := Q0.out _ hS
  have q1 := Q1.out _ hS
  have q2 := Q2.out _ hS
  have q3 := Q3.out _ hS
  clear p0 p1 p2 p3 hP hv hs hP5 hv5 hs5 oA oD hb hz
  by_cases i1 : 30 < l.length
  · have j1 : (30 : Int) < (l.length : Int) := by omega
    clear KR
    go_wp2_with (first
      | (go_at_call 5; refine (KF.out _ hS).mono ?_; rintro e w6 ⟨rfl, hS⟩; clear q0 q1 q2 q3; have q0 := Q0.out _ hS; have q1 := Q1.out _ hS; have q2 := Q2.out _ hS; have q3 := Q3.out _ hS)
      | (go_at_call 10; refine (KR.out _ hS).mono ?_; rintro e w7 ⟨A', c', rfl, hS⟩; clear q0 q1 q2 q3; have q0 := Q0.out _ hS; have q1 := Q1.out _ hS; have q2 := Q2.out _ hS; have q3 := Q3.out _ hS)
      | (go_at_call 6; refine (KK.out _ hS).mono ?_; rintro e w8 ⟨rfl, hS⟩))
    go_ret
    exact ⟨rfl, HBE.out _ hS⟩
  have j1 : ¬ (30 : Int) < (l.length : Int) := by omega
  by_cases i2 : 30 < S.length
  · have j2 : (30 : Int) < (S.length : Int) := by omega
    clear KR
    go_wp2_with (first
      | (go_at_call 5; refine (KF.out _ hS).mono ?_; rintro e w6 ⟨rfl, hS⟩; clear q0 q1 q2 q3; have q0 := Q0.out _ hS; have q1 := Q1.out _ hS; have q2 := Q2.out _ hS; have q3 := Q3.out _ hS)
      | (go_at_call 10; refine (KR.out _ hS).mono ?_; rintro e w7 ⟨A', c', rfl, hS⟩; clear q0 q1 q2 q3; have q0 := Q0.out _ hS; have q1 := Q1.out _ hS; have q2 := Q2.out _ hS; have q3 := Q3.out _ hS)
      | (go_at_call 6; refine (KK.out _ hS).mono ?_; rintro e w8 ⟨rfl, hS⟩))
    go_ret
    exact ⟨rfl, HBE.out _ hS⟩
  have j2 : ¬ (30 : Int) < (S.length : Int) := by omega
  cases hf : farB S with
  | true =>
    rw [hf] at KF
    clear KR
    go_wp2_with (first
      | (go_at_call 5; refine (KF.out _ hS).mono ?_; rintro e w6 ⟨rfl, hS⟩; clear q0 q1 q2 q3; have q0 := Q0.out _ hS; have q1 := Q1.out _ hS; have q2 := Q2.out _ hS; have q3 := Q3.out _ hS)
      | (go_at_call 10; refine (KR.out _ hS).mono ?_; rintro e w7 ⟨A', c', rfl, hS⟩; clear q0 q1 q2 q3; have q0 := Q0.out _ hS; have q1 := Q1.out _ hS; have q2 := Q2.out _ hS; have q3 := Q3.out _ hS)
      | (go_at_call 6; refine (KK.out _ hS).mono ?_; rintro e w8 ⟨rfl, hS⟩))
    go_ret
    exact ⟨rfl, HBE.out _ hS⟩
  | false =>
  rw [hf] at KF
  have HT := Lib.hid (far_no hf)
  clear hf
  by_cases i3 : p.l.length < 2
  · have j3 : (p.l.length : Int) < (2 : Int) := by omega
    clear KR
    go_wp2_with (first
      | (go_at_call 5; refine (KF.out _ hS).mono ?_; rintro e w6 ⟨rfl, hS⟩; clear q0 q1 q2 q3; have q0 := Q0.out _ hS; have q1 := Q1.out _ hS; have q2 := Q2.out _ hS; have q3 := Q3.out _ hS)
      | (go_at_call 10; refine (KR.out _ hS).mono ?_; rintro e w7 ⟨A', c', rfl, hS⟩; clear q0 q1 q2 q3; have q0 := Q0.out _ hS; have q1 := Q1.out _ hS; have q2 := Q2.out _ hS; have q3 := Q3.out _ hS)
      | (go_at_call 6; refine (KK.out _ hS).mono ?_; rintro e w8 ⟨rfl, hS⟩))
    go_ret
    exact ⟨rfl, HBE.out _ hS⟩
  have j3 : ¬ (p.l.length : Int) < (2 : Int) := by omega
  by_cases i4 : 20 < p.l.length
  · have j4 : (20 : Int) < (p.l.length : Int) := by omega
    clear KR
    go_wp2_with (first
      | (go_at_call 5; refine (KF.out _ hS).mono ?_; rintro e w6 ⟨rfl, hS⟩; clear q0 q1 q2 q3; have q0 := Q0.out _ hS; have q1 := Q1.out _ hS; have q2 := Q2.out _ hS; have q3 := Q3.out _ hS)
      | (go_at_call 10; refine (KR.out _ hS).mono ?_; rintro e w7 ⟨A', c', rfl, hS⟩; clear q0 q1 q2 q3; have q0 := Q0.out _ hS; have q1 := Q1.out _ hS; have q2 := Q2.out _ hS; have q3 := Q3.out _ hS)
      | (go_at_call 6; refine (KK.out _ hS).mono ?_; rintro e w8 ⟨rfl, hS⟩))
    go_ret
    exact ⟨rfl, HBE.out _ hS⟩
  have j4 : ¬ (20 : Int) < (p.l.length : Int) := by omega
  by_cases i5 : 40 < p.ds.length
  · have j5 : (40 : Int) < (p.ds.length : Int) := by omega
    clear KR
    go_wp2_with (first
      | (go_at_call 5; refine (KF.out _ hS).mono ?_; rintro e w6 ⟨rfl, hS⟩; clear q0 q1 q2 q3; have q0 := Q0.out _ hS; have q1 := Q1.out _ hS; have q2 := Q2.out _ hS; have q3 := Q3.out _ hS)
      | (go_at_call 10; refine (KR.out _ hS).mono ?_; rintro e w7 ⟨A', c', rfl, hS⟩; clear q0 q1 q2 q3; have q0 := Q0.out _ hS; have q1 := Q1.out _ hS; have q2 := Q2.out _ hS; have q3 := Q3.out _ hS)
      | (go_at_call 6; refine (KK.out _ hS).mono ?_; rintro e w8 ⟨rfl, hS⟩))
    go_ret
    exact ⟨rfl, HBE.out _ hS⟩
  have j5 : ¬ (40 : Int) < (p.ds.length : Int) := by omega
  have KR := KR (by omega) (by omega)
  by_cases i6 : chkP p = []
  rotate_left
  · have j6 : (0 : Int) < ((chkP p).length : Int) := by have := List.length_pos_iff.2 i6; omega
    go_wp2_with (first
      | (go_at_call 5; refine (KF.out _ hS).mono ?_; rintro e w6 ⟨rfl, hS⟩; clear q0 q1 q2 q3; have q0 := Q0.out _ hS; have q1 := Q1.out _ hS; have q2 := Q2.out _ hS; have q3 := Q3.out _ hS)
      | (go_at_call 10; refine (KR.out _ hS).mono ?_; rintro e w7 ⟨A', c', rfl, hS⟩; clear q0 q1 q2 q3; have q0 := Q0.out _ hS; have q1 := Q1.out _ hS; have q2 := Q2.out _ hS; have q3 := Q3.out _ hS)
      | (go_at_call 6; refine (KK.out _ hS).mono ?_; rintro e w8 ⟨rfl, hS⟩))
    go_ret
    exact ⟨rfl, HBE.out _ hS⟩
  have HCH := Lib.hid (chk_fewF i6)
  rw [i6] at KR
  have HI : Hid (l.length ≤ 30 ∧ S.length ≤ 30 ∧ 2 ≤ p.l.length ∧ p.l.length ≤ 20) := Lib.hid ⟨by omega, by omega, by omega, by omega⟩
  clear i6 i1 i2 i3 i4 i5 hs63
  go_upto_region 3 with (first
    | (go_at_call 5; refine (KF.out _ hS).mono ?_; rintro e w6 ⟨rfl, hS⟩; clear q0 q1 q2 q3; have q0 := Q0.out _ hS; have q1 := Q1.out _ hS; have q2 := Q2.out _ hS; have q3 := Q3.out _ hS)
    | (go_at_call 10; refine (KR.out _ hS).mono ?_; rintro e w7 ⟨A', c', rfl, hS⟩; clear q0 q1 q2 q3; have q0 := Q0.out _ hS; have q1 := Q1.out _ hS; have q2 := Q2.out _ hS; have q3 := Q3.out _ hS))
  clear KF KR j1 j2 j3 j4 j5
  obtain ⟨fr, dn, hfr, hfd⟩ : ∃ fr dn : ByteArray, Hid (airB p fr = true) ∧ Hid (∃ b o, p.A = some ⟨b, o, none⟩ ∧ (∀ W, SW w5 W → W.cell? ⟨b, o, none⟩ = some (.string fr)) ∧ ∀ W, SW w5 W → W.cell? ⟨b, o + 5, none⟩ = some (.string dn)) := by
    obtain ⟨b, o, a0, e0, _, h0, c0⟩ := HPL.out.air.at (k := 0) (by have := HI.out; omega)
    obtain ⟨b', o', a1, e1, _, h1, c1⟩ := HPL.out.air.at (k := 1) (by have := HI.out; omega)
    rw [e0] at e1
    cases e1
    have d0 := c0.c0
    have d1 := c1.c0
    rw [Nat.zero_mul, Nat.add_zero] at d0
    rw [Nat.one_mul] at d1
    exact ⟨a0.code, a1.code, Lib.hid (air_mem h0), Lib.hid ⟨b, o, e0, bel_get d0, bel_get d1⟩⟩
  obtain ⟨b, o, eA, G0, G1⟩ := hfd.out
  have f0 : ∀ x : Wd (SW w5), x.w.cell? ⟨B, 0, none⟩ = some (Value.slice (some ⟨b, o, none⟩) p.l.length p.ca) := fun x => by have h := Q0.out _ x.ok; rw [eA] at h; exact h
  have f1 : ∀ x : Wd (SW w5), x.w.cell? ⟨b, o, none⟩ = some (Value.string fr) := fun x => G0 _ x.ok
  have f2 : ∀ x : Wd (SW w5), x.w.cell? ⟨b, o + 5, none⟩ = some (Value.string dn) := fun x => G1 _ x.ok
  have i1 : (0 : Int) < (p.l.length : Int) := by have := HI.out; omega
  have i2 : (1 : Int) < (p.l.length : Int) := by have := HI.out; omega
  have i3 : 0 < p.l.length := by omega
  have i4 : 1 < p.l.length := by omega
  clear G0 G1 eA hfd q0 q1 q2 q3
  have hS0 : SW w5 _ := Below.drew hS
  have hNe : Nonempty (Wd (SW w5)) := ⟨⟨_, hS0⟩⟩
  refine quietS (S := SW w5) (by kernel_rfl) (by kernel_rfl) (hS0) ?_
  repeat (first | go_big_quiet_skip | (go_big_quiet_want; go_big_quiet_op; first | go_big_quiet_on | go_big_quiet_call ((fail))))
  refine wpQuiet_nil ?_
  rintro W ⟨⟨_, hW⟩, rfl⟩
  clear f0 f1 f2 i1 i2 i3 i4 hS hS0
  have KP : Hid (∀ W, SW w5 W → Calls Tryd.prog 7 #[.slice A l.length c, .slice As S.length cs, .string fr, .string dn, .int .i64 most] W fun e w' => ∃ v er ps, e = .returned (.tuple #[v, .int .i64 er]) ∧ FolL l S fr dn most w' v ps ∧ SW w5 w') := Lib.hid (fun W h => (paths_any A c l As cs S fr dn most W (HV.out.more h) (HSG.out.more h) (by have := HI.out; omega) (by have := HI.out; omega) HZ.out HT.out).mono (by
    rintro e w' ⟨v, er, rfl, hP, hb⟩
    obtain ⟨ps, hp⟩ := fol_paths hP
    exact ⟨v, er, ps, rfl, hp, Below.trans h (Below.mono hb h.size)⟩))
  have q2 := Q2.out _ hW
  have q3 := Q3.out _ hW
  have q0 := Q0.out _ hW
  have q1 := Q1.out _ hW
  go_upto_region 5 with ((go_at_call 7; refine (KP.out _ hW).mono ?_; rintro e w8 ⟨v, er, ps, rfl, hL, hS8⟩))
  clear KP q0 q1 q2 q3 hW
  obtain ⟨Ap, cp, rfl, hz9⟩ := id hL.row
  clear hz9
  have HL := Lib.hid hL
  have HS8 := Lib.hid hS8
  obtain ⟨n, hn⟩ : ∃ n, n = ps.length := ⟨_, rfl⟩
  have HN := Lib.hid hn
  rw [← hn]
  have hn4 : n ≤ 1024 := by have := hL.len; omega
  clear hL hn hS8
  go_wp2
  go_loopg [11] n (fun kx v11 wr => ∃ i : Nat, v11 = .int .i64 i ∧ i + kx = n ∧ SW w8 wr)
  case atStart => exact ⟨0, rfl, by omega, Below.refl _ _⟩
  case round =>
    obtain ⟨i, rfl, hix, hS⟩ := hrel
    have HIX := Lib.hid hix
    by_cases hlt : i < n
    rotate_left
    · have i1 : ¬ (i : Int) < (n : Int) := by omega
      have hS5 : SW w5 wr := Below.trans HS8.out (Below.mono hS HS8.out.size)
      go_wp2_with ((go_at_call 6; refine (KK.out _ hS5).mono ?_; rintro e w9 ⟨rfl, hS⟩))
      go_ret
      exact ⟨rfl, HBE.out _ hS⟩
    obtain ⟨x, hx⟩ : ∃ x, ps[i]? = some x := ⟨_, List.getElem?_eq_getElem (by have := HN.out; omega)⟩
    have HXI := Lib.hid hx
    have HFO := Lib.hid (HL.out.fol x (List.mem_of_getElem? hx))
    obtain ⟨m, hm⟩ : ∃ m, m = x.l.length := ⟨_, rfl⟩
    have HM := Lib.hid hm
    have HM3 : Hid (1 ≤ m ∧ m ≤ 3 ∧ (m : Int) ≤ most) := Lib.hid (by rw [hm]; exact ⟨HFO.out.one, HFO.out.le3, HFO.out.mst⟩)
    have HROW : Hid (∃ bP oP, Ap = some ⟨bP, oP, none⟩ ∧ ∀ (j : Nat) (y : Pth), ps[j]? = some y → ∀ W, SW w8 W → W.cell? ⟨bP, oP + j, none⟩ = some (.slice (some ⟨y.b, 0, none⟩) y.l.length y.c)) := Lib.hid (by
      obtain ⟨A', c', e, hc⟩ := HL.out.row
      cases e
      rcases hc with hc | ⟨b, o, e2, hlt, hc⟩
      · rw [hc] at hx; simp at hx
      · refine ⟨b, o, e2, fun j y hy W hW => ?_⟩
        have := hc j y 0 _ hy rfl
        rw [Nat.add_zero, Nat.mul_one] at this
        exact bel_get this _ hW)
    have HSC : Hid (∃ bb off, As = some ⟨bb, off, none⟩ ∧ ∀ q, q < S.length → ∀ j u, (encSg (sA S q))[j]? = some u → ∀ W, SW w8 W → W.cell? ⟨bb, off + q * 7 + j, none⟩ = some u) := Lib.hid (by
      obtain ⟨A', c', e, hc⟩ := HSG.out.more HS8.out
      cases e
      rcases hc with hc | ⟨b, o, e2, hlt, hc⟩
      · obtain ⟨q, hq⟩ : ∃ q, x.l[0]? = some q := ⟨_, List.getElem?_eq_getElem (by have := HFO.out.one; omega)⟩
        have := HFO.out.lt q (List.mem_of_getElem? hq)
        rw [hc] at this; simp at this
      · exact ⟨b, o, e2, fun q hq j u hu W hW => bel_get (hc q _ j u (sA_get hq) hu) _ hW⟩)
    have HAT := Lib.hid (fun (y : Pth) (hy : y ∈ ps) => HL.out.at' y hy)
    obtain ⟨bP, oP, eP, hROW⟩ := HROW.out
    obtain ⟨bb, off, eS, hSC⟩ := HSC.out
    have HR := Lib.hid hROW
    have HC := Lib.hid hSC
    subst eP eS
    clear hROW hSC HROW HSC
    have i1 : (i : Int) < (n : Int) := by omega
    have KFd : Hid (∀ s W, SW w8 W → Calls Tryd.prog 11 #[.agg #[.slice p.A p.l.length p.ca, .slice p.D p.ds.length p.cd], .string s] W fun e w' => e = .returned (.tuple #[encA ((findC p.l s).getD airZ), .bool (findC p.l s).isSome]) ∧ Below W.heap.size W w') := Lib.hid (fun s W h => rfind_any p s W (by have := HI.out; omega) (HPL.out.air.more (Below.trans HS8.out (Below.mono h HS8.out.size))))
    have HW5 : Hid (∀ W, SW w8 W → SW w5 W) := Lib.hid (fun W h => Below.trans HS8.out (Below.mono h HS8.out.size))
    clear hx hm hix
    go_wp2
    go_loopg [12, 13, 14] m (fun kx v12 v13 v14 wq => ∃ (k : Nat) (v : Value), v = v12 ∧ v13 = .bool (takeB p S (x.l.take k)) ∧ v14 = .int .i64 k ∧ k + kx = m ∧ Hid (ROwn sgT 7 encSg w8.heap.size wq v (wayP S (x.l.take k)) ∧ SW w8 wq))
    case atStart => exact ⟨0, _, rfl, rfl, rfl, by omega, Lib.hid ⟨ROwn.nil hS.size, hS⟩⟩
    case round =>
      obtain ⟨k, v, rfl, rfl, rfl, hkx, HO⟩ := hrel
      have HKX := Lib.hid hkx
      clear hS
      by_cases hk : k < m
      rotate_left
      · obtain rfl : k = m := by have := HKX.out; omega
        clear hk
        obtain ⟨r, rfl⟩ : ∃ r, k = r + 1 := ⟨k - 1, by have := HM3.out; omega⟩
        have HW1 : Hid (ROwn sgT 7 encSg w8.heap.size wr v (wayP S x.l)) := Lib.hid (by have h := HO.out.1; rw [HM.out, List.take_length] at h; exact h)
        have hl : (wayP S x.l).length = r + 1 := by unfold wayP; rw [List.length_map]; exact HM.out.symm
        obtain ⟨A2, c2, ev, hc2⟩ := HW1.out.rowL rtSg.len
        rw [hl] at ev
        subst ev
        obtain ⟨b2, o2, e2, HK0, HK1⟩ : ∃ b2 o2, A2 = some ⟨b2, o2, none⟩ ∧ Hid (∀ W, SW wr W → W.cell? ⟨b2, o2 + 3, none⟩ = some (.string fr)) ∧ Hid (∀ W, SW wr W → W.cell? ⟨b2, o2 + r * 7 + 4, none⟩ = some (.string dn) ∧ W.cell? ⟨b2, o2 + r * 7 + 6, none⟩ = some (.int .i64 (sA S (lst x.l)).arr)) := by
          rcases hc2 with hc2 | ⟨b2, o2, e2, _, hc2⟩
          · rw [hc2] at hl; simp at hl
          · have h0 := hc2 0 _ 3 _ (way_first HFO.out) rfl
            have h1 := hc2 r _ 4 _ (way_last HM.out.symm) rfl
            have h2 := hc2 r _ 6 _ (way_last HM.out.symm) rfl
            rw [Nat.zero_mul, Nat.add_zero, (eqS_iff _ _).1 HFO.out.beg] at h0
            rw [(eqS_iff _ _).1 HFO.out.fin] at h1
            exact ⟨b2, o2, e2, Lib.hid (bel_get h0), Lib.hid (fun W h => ⟨bel_get h1 W h, bel_get h2 W h⟩)⟩
        clear hc2
        subst e2
        have HWS : Hid (SgL wr (.slice (some ⟨b2, o2, none⟩) (r + 1) c2) (wayP S x.l)) := Lib.hid (HW1.out.rowL rtSg.len)
        have HV0 : Hid (takeB p S x.l = true → valP p l (wayP S x.l) = 0) := Lib.hid (fun h => val_zero HFO.out h hfr.out)
        have HTB : Hid (takeB p S (x.l.take (r + 1)) = takeB p S x.l) := Lib.hid (by rw [HM.out, List.take_length])
        rw [HTB.out]
        have KV : Hid (∀ W, SW wr W → Calls Tryd.prog 13 #[.agg #[.slice p.A p.l.length p.ca, .slice p.D p.ds.length p.cd], .slice A l.length c, .slice (some ⟨b2, o2, none⟩) (r + 1) c2] W fun e w' => e = .returned (.int .i64 (valP p l (wayP S x.l))) ∧ SW wr w') := Lib.hid (fun W h => by
          have h5 : SW w5 W := HW5.out _ (Below.trans HO.out.2 (Below.mono h HO.out.2.size))
          have hS2 := HWS.out.more h
          rw [← hl] at hS2 ⊢
          refine (valid_any p (.slice A l.length c) l _ (wayP S x.l) W ⟨by have := HI.out; omega, HCH.out⟩ (HPL.out.air.more h5) (HV.out.more h5) (by have := HI.out; omega) hS2 (by rw [hl]; have := HM3.out; omega) ?_).mono ?_
          · intro y hy
            obtain ⟨q, hq, rfl⟩ := List.mem_map.1 hy
            exact HT.out _ (List.mem_of_getElem? (sA_get (HFO.out.lt q hq)))
          · rintro e w' ⟨rfl, hb⟩
            exact ⟨rfl, Below.trans h (Below.mono hb h.size)⟩)
        have d0 : wr.cell? ⟨bP, oP + i, none⟩ = some (.slice (some ⟨x.b, 0, none⟩) (r + 1) x.c) := by have := HR.out i x HXI.out wr HO.out.2; rw [← HM.out] at this; exact this
        have q0 := Q0.out _ (HW5.out _ HO.out.2)
        have q1 := Q1.out _ (HW5.out _ HO.out.2)
        have q2 := Q2.out _ (HW5.out _ HO.out.2)
        have q3 := Q3.out _ (HW5.out _ HO.out.2)
        have d3 := HK0.out wr (Below.refl _ _)
        have d4 := (HK1.out wr (Below.refl _ _)).1
        have k1 : ¬ ((r : Int) + 1 < 1) := by omega
        have k2 : ¬ (most < (r : Int) + 1) := by have := HM3.out; omega
        have k3 : (0 : Int) < ((r + 1 : Nat) : Int) := by omega
        have k4 : 0 < (r : Int) + 1 := by omega
        have k5 : (r : Int) < (r : Int) + 1 := by omega
        have k6 : (r : Int) < ((r + 1 : Nat) : Int) := by omega
        have w1 : IntKind.i64.wrap (r : Int) = (r : Int) := IntWalk.i64_in _ (by have := HM3.out; omega)
        have hSr : SW wr wr := Below.refl _ _
        have HS8r := Lib.hid HO.out.2
        clear hl HTB HWS HW1
        go_upto_region 22 with fail
        clear d0
        generalize takeB p S x.l = tb at *
        cases tb with
        | false =>
          clear KV HV0
          go_upto_region 24 with fail
          clear d3 d4 q0 q1 q2 q3 k1 k2 k3 k4
          have hS0 := Below.drew hSr
          cases i with
          | zero =>
            have hNe : Nonempty (Wd (SW wr)) := ⟨⟨_, hS0⟩⟩
            refine quietS (S := SW wr) (by kernel_rfl) (by kernel_rfl) (hS0) ?_
            repeat (first | go_big_quiet_skip | (go_big_quiet_want; go_big_quiet_op; first | go_big_quiet_on | go_big_quiet_call ((fail))))
            refine wpQuiet_nil ?_
            rintro W ⟨⟨_, hW⟩, rfl⟩
            have HE : Hid (SW w8 W) := Lib.hid (Below.trans HS8r.out (Below.mono hW HS8r.out.size))
            clear hW hS0 hSr
            go_wp2
            go_roundg (n - (0 + 1))
            case measure => have := HIX.out; omega
            case rel => exact ⟨0 + 1, by go_num, by have := HIX.out; omega, HE.out⟩
          | succ i =>
            obtain ⟨y, hy⟩ : ∃ y, ps[i]? = some y := ⟨_, List.getElem?_eq_getElem (by have := HN.out; omega)⟩
            have hfy := HL.out.fol y (List.mem_of_getElem? hy)
            obtain ⟨t, ht⟩ : ∃ t, y.l.length = t + 1 := ⟨y.l.length - 1, by have := hfy.one; omega⟩
            have hg := lst_get ht
            have hlt2 := hfy.lt _ (List.mem_of_getElem? hg)
            have ht3 : t < 3 := by have := hfy.le3; omega
            have HOR := Lib.hid (HL.out.ord i y x hy HXI.out)
            have F0 : Hid (∀ W, SW wr W → W.cell? ⟨bP, oP + i, none⟩ = some (.slice (some ⟨y.b, 0, none⟩) (t + 1) y.c)) := Lib.hid (fun W h => by have := HR.out i y hy W (Below.trans HS8r.out (Below.mono h HS8r.out.size)); rw [ht] at this; exact this)
            have F1 : Hid (∀ W, SW wr W → W.cell? ⟨y.b, t, none⟩ = some (.int .i64 ((lst y.l : Nat) : Int))) := Lib.hid (fun W h => bel_get ((HAT.out y (List.mem_of_getElem? hy)).2 t _ hg) W (Below.trans HS8r.out (Below.mono h HS8r.out.size)))
            have F3 : Hid (∀ W, SW wr W → W.cell? ⟨bb, off + lst y.l * 7 + 6, none⟩ = some (.int .i64 (sA S (lst y.l)).arr)) := Lib.hid (fun W h => HC.out _ hlt2 6 _ rfl W (Below.trans HS8r.out (Below.mono h HS8r.out.size)))
            generalize (sA S (lst y.l)).arr = ay at *
            generalize (sA S (lst x.l)).arr = az at *
            generalize lst y.l = la at *
            have hor : ¬ (az < ay) := by have := HOR.out; omega
            have f0 : ∀ z : Wd (SW wr), z.w.cell? ⟨bP, oP + i, none⟩ = some (Value.slice (some ⟨y.b, 0, none⟩) (t + 1) y.c) := fun z => F0.out _ z.ok
            have f1 : ∀ z : Wd (SW wr), z.w.cell? ⟨y.b, t, none⟩ = some (Value.int .i64 (la : Int)) := fun z => F1.out _ z.ok
            have f2 : ∀ z : Wd (SW wr), z.w.cell? ⟨B + 1, 1, none⟩ = some (Value.slice (some ⟨bb, off, none⟩) S.length cs) := fun z => Q3.out _ (HW5.out _ (Below.trans HS8r.out (Below.mono z.ok HS8r.out.size)))
            have f3 : ∀ z : Wd (SW wr), z.w.cell? ⟨bb, off + la * 7 + 6, none⟩ = some (Value.int .i64 ay) := fun z => F3.out _ z.ok
            have f4 : ∀ z : Wd (SW wr), z.w.cell? ⟨b2, o2 + r * 7 + 6, none⟩ = some (Value.int .i64 az) := fun z => (HK1.out _ z.ok).2
            have k1 : 0 < (i : Int) + 1 := by omega
            have k2 : (0 : Int) < ((i + 1 : Nat) : Int) := by omega
            have k3 : (i : Int) < (n : Int) := by omega
            have k4 : (la : Int) < (S.length : Int) := by omega
            have k7 : (t : Int) < (t : Int) + 1 := by omega
            have k8 : (t : Int) < ((t + 1 : Nat) : Int) := by omega
            have w2 : IntKind.i64.wrap (i : Int) = (i : Int) := IntWalk.i64_in _ (by omega)
            have w3 : IntKind.i64.wrap (t : Int) = (t : Int) := IntWalk.i64_in _ (by omega)
            clear hy hfy ht hg
            have hNe : Nonempty (Wd (SW wr)) := ⟨⟨_, hS0⟩⟩
            refine quietS (S := SW wr) (by kernel_rfl) (by kernel_rfl) (hS0) ?_
            repeat (first | go_big_quiet_skip | (go_big_quiet_want; go_big_quiet_op; first | go_big_quiet_on | go_big_quiet_call ((fail))))
            refine wpQuiet_nil ?_
            rintro W ⟨⟨_, hW⟩, rfl⟩
            clear f0 f1 f2 f3 f4 k1 k2 k3 k4 k7 k8 w2 w3
            have HE : Hid (SW w8 W) := Lib.hid (Below.trans HS8r.out (Below.mono hW HS8r.out.size))
            clear hW hS0 hSr
            go_wp2
            go_roundg (n - (i + 1 + 1))
            case measure => have := HIX.out; omega
            case rel => exact ⟨i + 1 + 1, by go_num, by have := HIX.out; omega, HE.out⟩
        | true =>
          rw [HV0.out rfl] at KV
          clear HV0
          go_upto_region 24 with ((go_at_call 13; refine (KV.out _ hSr).mono ?_; rintro e wv ⟨rfl, hSr⟩))
          clear KV
          clear d3 d4 q0 q1 q2 q3 k1 k2 k3 k4
          have hS0 := Below.drew hSr
          cases i with
          | zero =>
            have hNe : Nonempty (Wd (SW wr)) := ⟨⟨_, hS0⟩⟩
            refine quietS (S := SW wr) (by kernel_rfl) (by kernel_rfl) (hS0) ?_
            repeat (first | go_big_quiet_skip | (go_big_quiet_want; go_big_quiet_op; first | go_big_quiet_on | go_big_quiet_call ((fail))))
            refine wpQuiet_nil ?_
            rintro W ⟨⟨_, hW⟩, rfl⟩
            have HE : Hid (SW w8 W) := Lib.hid (Below.trans HS8r.out (Below.mono hW HS8r.out.size))
            clear hW hS0 hSr
            go_wp2
            go_roundg (n - (0 + 1))
            case measure => have := HIX.out; omega
            case rel => exact ⟨0 + 1, by go_num, by have := HIX.out; omega, HE.out⟩
          | succ i =>
            obtain ⟨y, hy⟩ : ∃ y, ps[i]? = some y := ⟨_, List.getElem?_eq_getElem (by have := HN.out; omega)⟩
            have hfy := HL.out.fol y (List.mem_of_getElem? hy)
            obtain ⟨t, ht⟩ : ∃ t, y.l.length = t + 1 := ⟨y.l.length - 1, by have := hfy.one; omega⟩
            have hg := lst_get ht
            have hlt2 := hfy.lt _ (List.mem_of_getElem? hg)
            have ht3 : t < 3 := by have := hfy.le3; omega
            have HOR := Lib.hid (HL.out.ord i y x hy HXI.out)
            have F0 : Hid (∀ W, SW wr W → W.cell? ⟨bP, oP + i, none⟩ = some (.slice (some ⟨y.b, 0, none⟩) (t + 1) y.c)) := Lib.hid (fun W h => by have := HR.out i y hy W (Below.trans HS8r.out (Below.mono h HS8r.out.size)); rw [ht] at this; exact this)
            have F1 : Hid (∀ W, SW wr W → W.cell? ⟨y.b, t, none⟩ = some (.int .i64 ((lst y.l : Nat) : Int))) := Lib.hid (fun W h => bel_get ((HAT.out y (List.mem_of_getElem? hy)).2 t _ hg) W (Below.trans HS8r.out (Below.mono h HS8r.out.size)))
            have F3 : Hid (∀ W, SW wr W → W.cell? ⟨bb, off + lst y.l * 7 + 6, none⟩ = some (.int .i64 (sA S (lst y.l)).arr)) := Lib.hid (fun W h => HC.out _ hlt2 6 _ rfl W (Below.trans HS8r.out (Below.mono h HS8r.out.size)))
            generalize (sA S (lst y.l)).arr = ay at *
            generalize (sA S (lst x.l)).arr = az at *
            generalize lst y.l = la at *
            have hor : ¬ (az < ay) := by have := HOR.out; omega
            have f0 : ∀ z : Wd (SW wr), z.w.cell? ⟨bP, oP + i, none⟩ = some (Value.slice (some ⟨y.b, 0, none⟩) (t + 1) y.c) := fun z => F0.out _ z.ok
            have f1 : ∀ z : Wd (SW wr), z.w.cell? ⟨y.b, t, none⟩ = some (Value.int .i64 (la : Int)) := fun z => F1.out _ z.ok
            have f2 : ∀ z : Wd (SW wr), z.w.cell? ⟨B + 1, 1, none⟩ = some (Value.slice (some ⟨bb, off, none⟩) S.length cs) := fun z => Q3.out _ (HW5.out _ (Below.trans HS8r.out (Below.mono z.ok HS8r.out.size)))
            have f3 : ∀ z : Wd (SW wr), z.w.cell? ⟨bb, off + la * 7 + 6, none⟩ = some (Value.int .i64 ay) := fun z => F3.out _ z.ok
            have f4 : ∀ z : Wd (SW wr), z.w.cell? ⟨b2, o2 + r * 7 + 6, none⟩ = some (Value.int .i64 az) := fun z => (HK1.out _ z.ok).2
            have k1 : 0 < (i : Int) + 1 := by omega
            have k2 : (0 : Int) < ((i + 1 : Nat) : Int) := by omega
            have k3 : (i : Int) < (n : Int) := by omega
            have k4 : (la : Int) < (S.length : Int) := by omega
            have k7 : (t : Int) < (t : Int) + 1 := by omega
            have k8 : (t : Int) < ((t + 1 : Nat) : Int) := by omega
            have w2 : IntKind.i64.wrap (i : Int) = (i : Int) := IntWalk.i64_in _ (by omega)
            have w3 : IntKind.i64.wrap (t : Int) = (t : Int) := IntWalk.i64_in _ (by omega)
            clear hy hfy ht hg
            have hNe : Nonempty (Wd (SW wr)) := ⟨⟨_, hS0⟩⟩
            refine quietS (S := SW wr) (by kernel_rfl) (by kernel_rfl) (hS0) ?_
            repeat (first | go_big_quiet_skip | (go_big_quiet_want; go_big_quiet_op; first | go_big_quiet_on | go_big_quiet_call ((fail))))
            refine wpQuiet_nil ?_
            rintro W ⟨⟨_, hW⟩, rfl⟩
            clear f0 f1 f2 f3 f4 k1 k2 k3 k4 k7 k8 w2 w3
            have HE : Hid (SW w8 W) := Lib.hid (Below.trans HS8r.out (Below.mono hW HS8r.out.size))
            clear hW hS0 hSr
            go_wp2
            go_roundg (n - (i + 1 + 1))
            case measure => have := HIX.out; omega
            case rel => exact ⟨i + 1 + 1, by go_num, by have := HIX.out; omega, HE.out⟩
      obtain ⟨q, hq⟩ : ∃ q, x.l[k]? = some q := ⟨_, List.getElem?_eq_getElem (by have := HM.out; omega)⟩
      have hqS : q < S.length := HFO.out.lt q (List.mem_of_getElem? hq)
      have HQ := Lib.hid hq
      have i2 : (k : Int) < (m : Int) := by omega
      have i3 : ¬ (q : Int) < 0 := by omega
      have i4 : ¬ (S.length : Int) ≤ (q : Int) := by omega
      have i5 : (q : Int) < (S.length : Int) := by omega
      have F0 : ∀ W, SW wr W → W.cell? ⟨bP, oP + i, none⟩ = some (.slice (some ⟨x.b, 0, none⟩) m x.c) := fun W h => by have := HR.out i x HXI.out W (Below.trans HO.out.2 (Below.mono h HO.out.2.size)); rw [← HM.out] at this; exact this
      have F1 : ∀ W, SW wr W → W.cell? ⟨x.b, k, none⟩ = some (.int .i64 (q : Int)) := fun W h => bel_get ((HAT.out x (List.mem_of_getElem? HXI.out)).2 k q HQ.out) W (Below.trans HO.out.2 (Below.mono h HO.out.2.size))
      have F2 : ∀ W, SW wr W → W.cell? ⟨B + 1, 1, none⟩ = some (.slice (some ⟨bb, off, none⟩) S.length cs) := fun W h => Q3.out W (HW5.out _ (Below.trans HO.out.2 (Below.mono h HO.out.2.size)))
      obtain ⟨s, hs⟩ : ∃ s, s = sA S q := ⟨_, rfl⟩
      have HSQ := Lib.hid hs
      have HTS : Hid (tmB s) := Lib.hid (hs ▸ HT.out _ (List.mem_of_getElem? (sA_get hqS)))
      have G0 : ∀ W, SW wr W → W.cell? ⟨bb, off + q * 7, none⟩ = some (.string s.car) := fun W h => hs ▸ HC.out q hqS 0 _ rfl W (Below.trans HO.out.2 (Below.mono h HO.out.2.size))
      have G1 : ∀ W, SW wr W → W.cell? ⟨bb, off + q * 7 + 1, none⟩ = some (.int .i64 s.num) := fun W h => hs ▸ HC.out q hqS 1 _ rfl W (Below.trans HO.out.2 (Below.mono h HO.out.2.size))
      have G2 : ∀ W, SW wr W → W.cell? ⟨bb, off + q * 7 + 2, none⟩ = some (.int .i64 s.day) := fun W h => hs ▸ HC.out q hqS 2 _ rfl W (Below.trans HO.out.2 (Below.mono h HO.out.2.size))
      have G3 : ∀ W, SW wr W → W.cell? ⟨bb, off + q * 7 + 3, none⟩ = some (.string s.f) := fun W h => hs ▸ HC.out q hqS 3 _ rfl W (Below.trans HO.out.2 (Below.mono h HO.out.2.size))
      have G4 : ∀ W, SW wr W → W.cell? ⟨bb, off + q * 7 + 4, none⟩ = some (.string s.t) := fun W h => hs ▸ HC.out q hqS 4 _ rfl W (Below.trans HO.out.2 (Below.mono h HO.out.2.size))
      have G5 : ∀ W, SW wr W → W.cell? ⟨bb, off + q * 7 + 5, none⟩ = some (.int .i64 s.dep) := fun W h => hs ▸ HC.out q hqS 5 _ rfl W (Below.trans HO.out.2 (Below.mono h HO.out.2.size))
      have G6 : ∀ W, SW wr W → W.cell? ⟨bb, off + q * 7 + 6, none⟩ = some (.int .i64 s.arr) := fun W h => hs ▸ HC.out q hqS 6 _ rfl W (Below.trans HO.out.2 (Below.mono h HO.out.2.size))
      have r0 : ∀ z : Wd (SW wr), z.w.cell? ⟨bP, oP + i, none⟩ = some (.slice (some ⟨x.b, 0, none⟩) m x.c) := fun z => F0 _ z.ok
      have r1 : ∀ z : Wd (SW wr), z.w.cell? ⟨x.b, k, none⟩ = some (.int .i64 (q : Int)) := fun z => F1 _ z.ok
      have r2 : ∀ z : Wd (SW wr), z.w.cell? ⟨B + 1, 1, none⟩ = some (.slice (some ⟨bb, off, none⟩) S.length cs) := fun z => F2 _ z.ok
      have hS0 : SW wr wr.drew := (Below.refl _ _).drew
      clear hq hs hkx
      have d0 := F0 wr (Below.refl _ _)
      go_upto_region 13 with fail
      clear d0
      have hNe : Nonempty (Wd (SW wr)) := ⟨⟨_, hS0⟩⟩
      refine quietS (S := SW wr) (by kernel_rfl) (by kernel_rfl) (hS0) ?_
      repeat (first | go_big_quiet_skip | (go_big_quiet_want; go_big_quiet_op; first | go_big_quiet_on | go_big_quiet_call ((fail))))
      refine wpQuiet_nil ?_
      rintro W ⟨⟨_, hW⟩, rfl⟩
      clear r0 r1 r2 hS0
      go_upto_region 15 with fail
      have hS : (SW wr) _ := Below.drew hW
      refine wp_region_held_drew (S := SW wr) (by kernel_rfl) hS (fun _ => ?_)
      refine wpAnyH_take (i := 0) (v := ?vC0) rfl (by kernel_rfl) (by kernel_rfl) (by kernel_rfl) (fun _ _ _ h => h) (Or.inl ⟨by rfl, ?hyC0⟩) hS ?restC0
      case hyC0 =>
        intro w hSw
        first | (go_simp; done) | (go_simp; with_reducible rfl)
      try simp only [Act.put, List.setIfInBounds_toArray, List.set_cons_zero, List.set_cons_succ]
      refine wpAnyH_take (i := 1) (v := ?vC1) rfl (by kernel_rfl) (by kernel_rfl) (by kernel_rfl) (fun _ _ _ h => h) (Or.inl ⟨by rfl, ?hyC1⟩) hS ?restC1
      case hyC1 =>
        intro w hSw
        have k0 := F0 w hSw; have k1 := F1 w hSw; have k2 := F2 w hSw; have k3 := G0 w hSw; have k4 := G1 w hSw; have k5 := G2 w hSw; have k6 := G3 w hSw; have k7 := G4 w hSw; have k8 := G5 w hSw; have k9 := G6 w hSw
        first | (go_simp; done) | (go_simp; with_reducible rfl)
      try simp only [Act.put, List.setIfInBounds_toArray, List.set_cons_zero, List.set_cons_succ]
      refine wpAnyH_take (i := 2) (v := ?vC2) rfl (by kernel_rfl) (by kernel_rfl) (by kernel_rfl) (fun _ _ _ h => h) (Or.inl ⟨by rfl, ?hyC2⟩) hS ?restC2
      case hyC2 =>
        intro w hSw
        first | (go_simp; done) | (go_simp; with_reducible rfl)
      try simp only [Act.put, List.setIfInBounds_toArray, List.set_cons_zero, List.set_cons_succ]
      refine wpAnyH_take (i := 3) (v := ?vC3) rfl (by kernel_rfl) (by kernel_rfl) (by kernel_rfl) (fun _ _ _ h => h) (Or.inl ⟨by rfl, ?hyC3⟩) hS ?restC3
      case hyC3 =>
        intro w hSw
        first | (go_simp; done) | (go_simp; with_reducible rfl)
      try simp only [Act.put, List.setIfInBounds_toArray, List.set_cons_zero, List.set_cons_succ]
      refine wpAnyH_take (i := 4) (v := ?vC4) rfl (by kernel_rfl) (by kernel_rfl) (by kernel_rfl) (fun _ _ _ h => h) (Or.inl ⟨by rfl, ?hyC4⟩) hS ?restC4
      case hyC4 =>
        intro w hSw
        have k0 := F0 w hSw; have k1 := F1 w hSw; have k2 := F2 w hSw; have k3 := G0 w hSw; have k4 := G1 w hSw; have k5 := G2 w hSw; have k6 := G3 w hSw; have k7 := G4 w hSw; have k8 := G5 w hSw; have k9 := G6 w hSw
        first | (go_simp; done) | (go_simp; with_reducible rfl)
      try simp only [Act.put, List.setIfInBounds_toArray, List.set_cons_zero, List.set_cons_succ]
      refine wpAnyH_take (i := 5) (v := ?vC5) rfl (by kernel_rfl) (by kernel_rfl) (by kernel_rfl) (fun _ _ _ h => h) (Or.inl ⟨by rfl, ?hyC5⟩) hS ?restC5
      case hyC5 =>
        intro w hSw
        have k0 := F0 w hSw; have k1 := F1 w hSw; have k2 := F2 w hSw; have k3 := G0 w hSw; have k4 := G1 w hSw; have k5 := G2 w hSw; have k6 := G3 w hSw; have k7 := G4 w hSw; have k8 := G5 w hSw; have k9 := G6 w hSw
        first | (go_simp; done) | (go_simp; with_reducible rfl)
      try simp only [Act.put, List.setIfInBounds_toArray, List.set_cons_zero, List.set_cons_succ]
      refine wpAnyH_take (i := 6) (v := ?vC6) rfl (by kernel_rfl) (by kernel_rfl) (by kernel_rfl) (fun _ _ _ h => h) (Or.inl ⟨by rfl, ?hyC6⟩) hS ?restC6
      case hyC6 =>
        intro w hSw
        first | (go_simp; done) | (go_simp; with_reducible rfl)
      try simp only [Act.put, List.setIfInBounds_toArray, List.set_cons_zero, List.set_cons_succ]
      refine wpAnyH_take (i := 7) (v := ?vC7) rfl (by kernel_rfl) (by kernel_rfl) (by kernel_rfl) (fun _ _ _ h => h) (Or.inl ⟨by rfl, ?hyC7⟩) hS ?restC7
      case hyC7 =>
        intro w hSw
        have k0 := F0 w hSw; have k1 := F1 w hSw; have k2 := F2 w hSw; have k3 := G0 w hSw; have k4 := G1 w hSw; have k5 := G2 w hSw; have k6 := G3 w hSw; have k7 := G4 w hSw; have k8 := G5 w hSw; have k9 := G6 w hSw
        first | (go_simp; done) | (go_simp; with_reducible rfl)
      try simp only [Act.put, List.setIfInBounds_toArray, List.set_cons_zero, List.set_cons_succ]
      refine wpAnyH_take (i := 8) (v := ?vC8) rfl (by kernel_rfl) (by kernel_rfl) (by kernel_rfl) (fun _ _ _ h => h) (Or.inl ⟨by rfl, ?hyC8⟩) hS ?restC8
      case hyC8 =>
        intro w hSw
        have k0 := F0 w hSw; have k1 := F1 w hSw; have k2 := F2 w hSw; have k3 := G0 w hSw; have k4 := G1 w hSw; have k5 := G2 w hSw; have k6 := G3 w hSw; have k7 := G4 w hSw; have k8 := G5 w hSw; have k9 := G6 w hSw
        first | (go_simp; done) | (go_simp; with_reducible rfl)
      try simp only [Act.put, List.setIfInBounds_toArray, List.set_cons_zero, List.set_cons_succ]
      refine wpAnyH_take (i := 9) (v := ?vC9) rfl (by kernel_rfl) (by kernel_rfl) (by kernel_rfl) (fun _ _ _ h => h) (Or.inl ⟨by rfl, ?hyC9⟩) hS ?restC9
      case hyC9 =>
        intro w hSw
        have k0 := F0 w hSw; have k1 := F1 w hSw; have k2 := F2 w hSw; have k3 := G0 w hSw; have k4 := G1 w hSw; have k5 := G2 w hSw; have k6 := G3 w hSw; have k7 := G4 w hSw; have k8 := G5 w hSw; have k9 := G6 w hSw
        first | (go_simp; done) | (go_simp; with_reducible rfl)
      try simp only [Act.put, List.setIfInBounds_toArray, List.set_cons_zero, List.set_cons_succ]
      refine wpAnyH_take (i := 10) (v := ?vC10) rfl (by kernel_rfl) (by kernel_rfl) (by kernel_rfl) (fun _ _ _ h => h) (Or.inl ⟨by rfl, ?hyC10⟩) hS ?restC10
      case hyC10 =>
        intro w hSw
        have k0 := F0 w hSw; have k1 := F1 w hSw; have k2 := F2 w hSw; have k3 := G0 w hSw; have k4 := G1 w hSw; have k5 := G2 w hSw; have k6 := G3 w hSw; have k7 := G4 w hSw; have k8 := G5 w hSw; have k9 := G6 w hSw
        first | (go_simp; done) | (go_simp; with_reducible rfl)
      try simp only [Act.put, List.setIfInBounds_toArray, List.set_cons_zero, List.set_cons_succ]
      refine wpAnyH_ready (rs := [11]) (by kernel_rfl) (by simp) ?_
      refine AllReadyH.cons rfl (fun K hK => ?_) AllReadyH.nil
      go_simp
      have hSp := hS
      have hS : SW wr _ := Below.trans hSp (Below.mono (bel_alloc _ (.cells #[.string noB, .int .i64 0, .int .i64 0, .string noB, .string noB, .int .i64 0, .int .i64 0] sgT)) hSp.size)
      refine hK.out _ _ hS (fun _ => ?_)
      clear hK K
      refine wpAnyH_ready (rs := [12]) (by kernel_rfl) (by simp) ?_
      refine AllReadyH.cons rfl (fun K hK => ?_) AllReadyH.nil
      go_simp
      have hS : SW wr (W.drew.alloc (.cells #[.string s.car, .int .i64 s.num, .int .i64 s.day, .string s.f, .string s.t, .int .i64 s.dep, .int .i64 s.arr] sgT)) := Below.trans hSp (Below.mono (bel_alloc _ _) hSp.size)
      refine hK.out _ _ hS (fun _ => ?_)
      clear hK K
      refine wpAnyH_done (by kernel_rfl) ?_ _
      try simp only [List.getElem_toArray, List.getElem_cons_succ, List.getElem_cons_zero, List.set_cons_zero, List.set_cons_succ]
      try simp only [List.setIfInBounds_toArray, List.set_cons_zero, List.set_cons_succ]
      have c0 := (cells_new W #[.string s.car, .int .i64 s.num, .int .i64 s.day, .string s.f, .string s.t, .int .i64 s.dep, .int .i64 s.arr] sgT 0).trans (show _ = some (Value.string s.car) from rfl)
      have c1 := (cells_new W #[.string s.car, .int .i64 s.num, .int .i64 s.day, .string s.f, .string s.t, .int .i64 s.dep, .int .i64 s.arr] sgT 1).trans (show _ = some (Value.int .i64 s.num) from rfl)
      have c2 := (cells_new W #[.string s.car, .int .i64 s.num, .int .i64 s.day, .string s.f, .string s.t, .int .i64 s.dep, .int .i64 s.arr] sgT 2).trans (show _ = some (Value.int .i64 s.day) from rfl)
      have c3 := (cells_new W #[.string s.car, .int .i64 s.num, .int .i64 s.day, .string s.f, .string s.t, .int .i64 s.dep, .int .i64 s.arr] sgT 3).trans (show _ = some (Value.string s.f) from rfl)
      have c4 := (cells_new W #[.string s.car, .int .i64 s.num, .int .i64 s.day, .string s.f, .string s.t, .int .i64 s.dep, .int .i64 s.arr] sgT 4).trans (show _ = some (Value.string s.t) from rfl)
      have c5 := (cells_new W #[.string s.car, .int .i64 s.num, .int .i64 s.day, .string s.f, .string s.t, .int .i64 s.dep, .int .i64 s.arr] sgT 5).trans (show _ = some (Value.int .i64 s.dep) from rfl)
      have c6 := (cells_new W #[.string s.car, .int .i64 s.num, .int .i64 s.day, .string s.f, .string s.t, .int .i64 s.dep, .int .i64 s.arr] sgT 6).trans (show _ = some (Value.int .i64 s.arr) from rfl)
      have h9 : SW wr (W.alloc (.cells #[.string s.car, .int .i64 s.num, .int .i64 s.day, .string s.f, .string s.t, .int .i64 s.dep, .int .i64 s.arr] sgT)).drew := Below.drew (Below.trans hW (Below.mono (bel_alloc W (.cells #[.string s.car, .int .i64 s.num, .int .i64 s.day, .string s.f, .string s.t, .int .i64 s.dep, .int .i64 s.arr] sgT)) hW.size))
      clear F0 F1 F2 G0 G1 G2 G3 G4 G5 G6 hW i2 i3 i4 i5
      obtain ⟨w9, hw9⟩ : ∃ w9, w9 = (W.alloc (.cells #[.string s.car, .int .i64 s.num, .int .i64 s.day, .string s.f, .string s.t, .int .i64 s.dep, .int .i64 s.arr] sgT)).drew := ⟨_, rfl⟩
      obtain ⟨Bx, hBx⟩ : ∃ Bx, Bx = W.heap.size := ⟨_, rfl⟩
      have C : Hid (∀ j u, (encSg s)[j]? = some u → w9.cell? ⟨Bx, j, none⟩ = some u) := Lib.hid (fun j u hu => by
        rw [hw9, hBx]
        exact (cells_new W #[.string s.car, .int .i64 s.num, .int .i64 s.day, .string s.f, .string s.t, .int .i64 s.dep, .int .i64 s.arr] sgT j).trans (by rw [← hu]; exact (List.getElem?_toArray ..).symm ▸ rfl))
      rw [← hw9] at h9
      rw [← hBx]
      try rw [← hw9]
      have H9 := Lib.hid h9
      clear c0 c1 c2 c3 c4 c5 c6 hS
      try clear hS9 hSp
      have HS9 : Hid (SW w8 w9) := Lib.hid (Below.trans HO.out.2 (Below.mono h9 HO.out.2.size))
      clear hw9 hBx h9
      have HTK : Hid (takeB p S (x.l.take (k + 1)) = ((takeB p S (x.l.take k) && decide (s.dep < s.arr)) && (findC p.l s.t).isSome)) := Lib.hid (by rw [HSQ.out]; exact take_take p HQ.out)
      have HWT : Hid (wayP S (x.l.take (k + 1)) = wayP S (x.l.take k) ++ [s]) := Lib.hid (by rw [HSQ.out]; exact way_take HQ.out)
      have HWN : Hid ((wayP S (x.l.take k)).length ≤ 100000000) := Lib.hid (by unfold wayP; rw [List.length_map, List.length_take]; have := HM.out; have := HM3.out; omega)
      have KF9 := Lib.hid (KFd.out s.t w9 HS9.out)
      generalize (findC p.l s.t).isSome = kn at *
      generalize (findC p.l s.t).getD airZ = az at *
      generalize takeB p S (x.l.take k) = tb at *
      have q0 := Q0.out _ (HW5.out _ HS9.out)
      have q1 := Q1.out _ (HW5.out _ HS9.out)
      have c4 := C.out 4 _ rfl
      go_upto_region 17 with ((go_at_call 11; refine KF9.out.mono ?_; rintro e wA ⟨rfl, hbA⟩))
      clear q0 q1 c4 KF9
      obtain ⟨wB, hwB⟩ : ∃ wB, wB = wA.alloc (.cells #[.string az.code, .string az.city, .string az.land, .int .i64 az.off, .slice az.A az.shs.length az.c] airT) := ⟨_, rfl⟩
      have hAB : SW w9 wB := by rw [hwB]; exact Below.trans hbA (Below.mono (bel_alloc wA _) hbA.size)
      try rw [← hwB]
      clear hwB hbA
      have c5 := bel_get (C.out 5 _ rfl) wB hAB
      have c6 := bel_get (C.out 6 _ rfl) wB hAB
      have HAB := Lib.hid hAB
      clear hAB
      go_cut [13] from 86 to 162 (fun v13 wx => v13 = .bool ((tb && decide (s.dep < s.arr)) && kn) ∧ wx = wB)
      case first =>
        cases tb with
        | false =>
          go_wp2
          go_meet
          exact ⟨by first | rfl | simp, rfl⟩
        | true =>
          cases hd : decide (s.dep < s.arr) with
          | false =>
            have hd' : ¬ s.dep < s.arr := of_decide_eq_false hd
            go_wp2
            go_meet
            exact ⟨by first | rfl | (rw [hd]; cases kn <;> rfl) | (simp [hd]; done) | (cases kn <;> simp <;> omega), rfl⟩
          | true =>
            have hd' : s.dep < s.arr := of_decide_eq_true hd
            go_wp2
            go_meet
            exact ⟨by first | rfl | (rw [hd]; cases kn <;> rfl) | (simp [hd]; done) | (cases kn <;> simp <;> omega), rfl⟩
      case rest =>
        obtain ⟨e13, ew⟩ := hcut
        obtain rfl : wB = wc := ew.symm
        subst e13
        clear c5 c6
        have HBB : Hid (∀ W, SW wB W → SW wr W ∧ SW w8 W ∧ SW w9 W) := Lib.hid (fun W h => by
          have h1 : SW w9 W := Below.trans HAB.out (Below.mono h HAB.out.size)
          have h2 : SW wr W := Below.trans H9.out (Below.mono h1 H9.out.size)
          exact ⟨h2, Below.trans HO.out.2 (Below.mono h2 HO.out.2.size), h1⟩)
        have hS0 : SW wB wB.drew := (Below.refl _ _).drew
        go_upto_region 18 with fail
        cases k with
        | zero =>
          have hNe : Nonempty (Wd (SW wB)) := ⟨⟨_, hS0⟩⟩
          refine quietS (S := SW wB) (by kernel_rfl) (by kernel_rfl) (hS0) ?_
          repeat (first | go_big_quiet_skip | (go_big_quiet_want; go_big_quiet_op; first | go_big_quiet_on | go_big_quiet_call ((fail))))
          refine wpQuiet_nil ?_
          rintro W ⟨⟨_, hW⟩, rfl⟩
          have hB2 := HBB.out _ hW
          have HO1 := Lib.hid (HO.out.1.more hB2.1)
          have c0 := bel_get (C.out 0 _ rfl) _ hB2.2.2
          have c1 := bel_get (C.out 1 _ rfl) _ hB2.2.2
          have c2 := bel_get (C.out 2 _ rfl) _ hB2.2.2
          have c3 := bel_get (C.out 3 _ rfl) _ hB2.2.2
          have c4 := bel_get (C.out 4 _ rfl) _ hB2.2.2
          have c5 := bel_get (C.out 5 _ rfl) _ hB2.2.2
          have c6 := bel_get (C.out 6 _ rfl) _ hB2.2.2
          have H8W := Lib.hid hB2.2.1
          clear hB2 hW hS0
          go_wp2_with (at_builtin; refine wpList_rapp rtSg rfl _ _ rfl HO1.out rfl (bel_alloc _ _) _ s _ rfl (cs := #[.string s.car, .int .i64 s.num, .int .i64 s.day, .string s.f, .string s.t, .int .i64 s.dep, .int .i64 s.arr]) rfl (heap_alloc_new _ _) HWN.out ?_; intro v1 w1 hO hC)
          go_roundg (m - (0 + 1))
          case measure => have := HKX.out; omega
          case rel => exact ⟨0 + 1, v1, rfl, by rw [HTK.out], by have := HM3.out; go_num, by have := HKX.out; omega, Lib.hid ⟨by rw [HWT.out]; exact hO, Below.trans H8W.out (hC.below HO1.out)⟩⟩
        | succ j =>
          obtain ⟨q', hq'⟩ : ∃ q', x.l[j]? = some q' := ⟨_, List.getElem?_eq_getElem (by have := HM.out; omega)⟩
          obtain ⟨y, hy⟩ : ∃ y, y = sA S q' := ⟨_, rfl⟩
          have hl : (wayP S (x.l.take (j + 1))).length = j + 1 := by unfold wayP; rw [List.length_map, List.length_take]; have := HM.out; omega
          obtain ⟨A2, c2, ev, hc2⟩ := HO.out.1.rowL rtSg.len
          rw [hl] at ev
          subst ev
          obtain ⟨b2, o2, e2, hk2⟩ : ∃ b2 o2, A2 = some ⟨b2, o2, none⟩ ∧ Hid (∀ i u, (encSg y)[i]? = some u → wr.cell? ⟨b2, o2 + j * 7 + i, none⟩ = some u) := by
            rcases hc2 with hc2 | ⟨b2, o2, e2, _, hc2⟩
            · rw [hc2] at hl; simp at hl
            · exact ⟨b2, o2, e2, Lib.hid (fun i u hu => hc2 j y i u (by rw [hy]; exact way_at hq' (by omega)) hu)⟩
          clear hc2
          subst e2
          have HFT : Hid (fitB l y s = true) := Lib.hid (by rw [hy, HSQ.out]; exact HFO.out.fit j q' q hq' HQ.out)
          have HTY : Hid (tmB y) := Lib.hid (hy ▸ HT.out _ (List.mem_of_getElem? (sA_get (HFO.out.lt q' (List.mem_of_getElem? hq')))))
          clear hy hq' hl
          have K0 := Lib.hid (fun W (h : SW wB W) => sw_call (fun W2 h2 => fits_any (.slice A l.length c) l y s W2 (HV.out.more (HW5.out _ (HBB.out _ h2).2.1)) (by have := HI.out; omega) HTY.out HTS.out) W h)
          rw [HFT.out] at K0
          have f0 : ∀ z : Wd (SW wB), z.w.cell? ⟨B + 1, 0, none⟩ = some (Value.slice A l.length c) := fun z => Q2.out _ (HW5.out _ (HBB.out _ z.ok).2.1)
          have u0 : ∀ z : Wd (SW wB), z.w.cell? ⟨Bx, 0, none⟩ = some (Value.string s.car) := fun z => bel_get (C.out 0 _ rfl) _ (HBB.out _ z.ok).2.2
          have v0 : ∀ z : Wd (SW wB), z.w.cell? ⟨b2, o2 + j * 7, none⟩ = some (Value.string y.car) := fun z => bel_get (hk2.out 0 _ rfl) _ (HBB.out _ z.ok).1
          have u1 : ∀ z : Wd (SW wB), z.w.cell? ⟨Bx, 1, none⟩ = some (Value.int .i64 s.num) := fun z => bel_get (C.out 1 _ rfl) _ (HBB.out _ z.ok).2.2
          have v1 : ∀ z : Wd (SW wB), z.w.cell? ⟨b2, o2 + j * 7 + 1, none⟩ = some (Value.int .i64 y.num) := fun z => bel_get (hk2.out 1 _ rfl) _ (HBB.out _ z.ok).1
          have u2 : ∀ z : Wd (SW wB), z.w.cell? ⟨Bx, 2, none⟩ = some (Value.int .i64 s.day) := fun z => bel_get (C.out 2 _ rfl) _ (HBB.out _ z.ok).2.2
          have v2 : ∀ z : Wd (SW wB), z.w.cell? ⟨b2, o2 + j * 7 + 2, none⟩ = some (Value.int .i64 y.day) := fun z => bel_get (hk2.out 2 _ rfl) _ (HBB.out _ z.ok).1
          have u3 : ∀ z : Wd (SW wB), z.w.cell? ⟨Bx, 3, none⟩ = some (Value.string s.f) := fun z => bel_get (C.out 3 _ rfl) _ (HBB.out _ z.ok).2.2
          have v3 : ∀ z : Wd (SW wB), z.w.cell? ⟨b2, o2 + j * 7 + 3, none⟩ = some (Value.string y.f) := fun z => bel_get (hk2.out 3 _ rfl) _ (HBB.out _ z.ok).1
          have u4 : ∀ z : Wd (SW wB), z.w.cell? ⟨Bx, 4, none⟩ = some (Value.string s.t) := fun z => bel_get (C.out 4 _ rfl) _ (HBB.out _ z.ok).2.2
          have v4 : ∀ z : Wd (SW wB), z.w.cell? ⟨b2, o2 + j * 7 + 4, none⟩ = some (Value.string y.t) := fun z => bel_get (hk2.out 4 _ rfl) _ (HBB.out _ z.ok).1
          have u5 : ∀ z : Wd (SW wB), z.w.cell? ⟨Bx, 5, none⟩ = some (Value.int .i64 s.dep) := fun z => bel_get (C.out 5 _ rfl) _ (HBB.out _ z.ok).2.2
          have v5 : ∀ z : Wd (SW wB), z.w.cell? ⟨b2, o2 + j * 7 + 5, none⟩ = some (Value.int .i64 y.dep) := fun z => bel_get (hk2.out 5 _ rfl) _ (HBB.out _ z.ok).1
          have u6' : ∀ z : Wd (SW wB), z.w.cell? ⟨Bx, 6, none⟩ = some (Value.int .i64 s.arr) := fun z => bel_get (C.out 6 _ rfl) _ (HBB.out _ z.ok).2.2
          have v6 : ∀ z : Wd (SW wB), z.w.cell? ⟨b2, o2 + j * 7 + 6, none⟩ = some (Value.int .i64 y.arr) := fun z => bel_get (hk2.out 6 _ rfl) _ (HBB.out _ z.ok).1
          have w1 : IntKind.i64.wrap (j : Int) = (j : Int) := IntWalk.i64_in _ (by have := HM3.out; omega)
          have k1 : 0 < (j : Int) + 1 := by omega
          have k2 : (0 : Int) < ((j + 1 : Nat) : Int) := by omega
          have k3 : (j : Int) < (j : Int) + 1 := by omega
          have k4 : (j : Int) < ((j + 1 : Nat) : Int) := by omega
          have hNe : Nonempty (Wd (SW wB)) := ⟨⟨_, hS0⟩⟩
          refine quietS (S := SW wB) (by kernel_rfl) (by kernel_rfl) (hS0) ?_
          repeat (first | go_big_quiet_skip | (go_big_quiet_want; go_big_quiet_op; first | go_big_quiet_on | go_big_quiet_call (((go_at_call 12; exact quiet_S (K0.out _ (Wd.ok _)))))))
          refine wpQuiet_nil ?_
          rintro W ⟨⟨_, hW⟩, rfl⟩
          clear f0 u0 u1 u2 u3 u4 u5 u6' v0 v1 v2 v3 v4 v5 v6 w1 k1 k2 k3 k4 K0
          have hj3 : j + 1 < 3 := by have := HM3.out; omega
          have hB2 := HBB.out _ hW
          have HO1 := Lib.hid (HO.out.1.more hB2.1)
          have c0 := bel_get (C.out 0 _ rfl) _ hB2.2.2
          have c1 := bel_get (C.out 1 _ rfl) _ hB2.2.2
          have c2 := bel_get (C.out 2 _ rfl) _ hB2.2.2
          have c3 := bel_get (C.out 3 _ rfl) _ hB2.2.2
          have c4 := bel_get (C.out 4 _ rfl) _ hB2.2.2
          have c5 := bel_get (C.out 5 _ rfl) _ hB2.2.2
          have c6 := bel_get (C.out 6 _ rfl) _ hB2.2.2
          have H8W := Lib.hid hB2.2.1
          clear hB2 hW hS0
          go_wp2_with (at_builtin; refine wpList_rapp rtSg rfl _ _ rfl HO1.out rfl (bel_alloc _ _) _ s _ rfl (cs := #[.string s.car, .int .i64 s.num, .int .i64 s.day, .string s.f, .string s.t, .int .i64 s.dep, .int .i64 s.arr]) rfl (heap_alloc_new _ _) HWN.out ?_; intro v1 w1 hO hC)
          go_roundg (m - ((j + 1) + 1))
          case measure => have := HKX.out; omega
          case rel => exact ⟨(j + 1) + 1, v1, rfl, by rw [HTK.out], by have := HM3.out; go_num, by have := HKX.out; omega, Lib.hid ⟨by rw [HWT.out]; exact hO, Below.trans H8W.out (hC.below HO1.out)⟩⟩
end Go.Proofs.YtkcdifanhdakhaaDoor.Con

/- What all the rows of this seat ask besides the walks: a world for the witness; arguments opened (places, texts, lists of texts). -/
namespace Go.Proofs.YtkcdifanhdakhaaDoor
open Go.ChangeShapes Go.WideShapes Go.ChangeAt Go.RowKit
set_option linter.unusedSimpArgs false
set_option linter.unusedVariables false

theorem own : ownKnob Tryd.prog.godebug = none := by kernel_rfl
theorem laidOut : laidOutB Tryd.prog = true := by kernel_rfl
/-- the listed variables are not asked for -/
def Env (_ : World) : Prop := True
theorem env_of {W : World} (h : laidMetH Tryd.prog Rows.connectPathsRow.laid W) : Env W := trivial

/-! ### A world for the witness -/
noncomputable def low : Nat := (World.holding Tryd.prog default ⟨#[], #[], []⟩).heap.size
def putCells (cs : Array Value) : Obj → Obj
  | .cells _ t frozen => .cells cs t frozen
  | o => o
def litsOf (k : IntKind) : DataW Unit → List Value
  | .agg ps => ps.map fun | .lit (.int _ z) => .int k z | _ => .int k 0
  | _ => []
noncomputable def laidWorld (os : Os) : World :=
  let w0 := World.holding Tryd.prog os ⟨#[], #[], []⟩
  let h3 := w0.heap.modify 0 (putCells (litsOf .u64 Rows.laid_internal_strconv_uint64pow10).toArray)
  let h4 := h3.modify 1 (putCells (litsOf .u8 Rows.laid_math_bits_deBruijn32tab).toArray)
  let h5 := h4.modify 2 (putCells (litsOf .u8 Rows.laid_math_bits_deBruijn64tab).toArray)
  { w0 with heap := h5 }
theorem laidWorld_met (os : Os) (args : Array Value) : laidMet Tryd.prog Rows.connectPathsRow.laid ((laidWorld os).forCall (fun _ _ => 0) ⟨#[], args, []⟩).memory :=
  laidMet_of_run3 8 (by kernel_rfl) (by kernel_rfl) (by kernel_rfl)

/-! ### Places among the arguments -/
theorem int_bounds {a : Int} (h : (Lit.int .i64 a).wf = true) : -9223372036854775808 ≤ a ∧ a ≤ 9223372036854775807 := by
  have e1 : IntKind.i64.min = -9223372036854775808 := rfl
  have e2 : IntKind.i64.max = 9223372036854775807 := rfl
  simp only [Lit.wf, e1, e2, Bool.and_eq_true, decide_eq_true_eq] at h
  omega
theorem bytes_string : Tryd.prog.bytesOf 9 = 16 := by kernel_rfl
theorem cells_string : Tryd.prog.cellsOf 9 = 1 := by kernel_rfl
theorem cells_int : Tryd.prog.cellsOf 3 = 1 := by kernel_rfl
theorem cells_shift : Tryd.prog.cellsOf 114 = 2 := by kernel_rfl
theorem cells_zone : Tryd.prog.cellsOf 42 = 2 := by kernel_rfl
theorem cells_shs : Tryd.prog.cellsOf 40 = 1 := by kernel_rfl
theorem cells_air : Tryd.prog.cellsOf 44 = 5 := by kernel_rfl
theorem cells_dst : Tryd.prog.cellsOf 97 = 3 := by kernel_rfl
theorem cells_places : Tryd.prog.cellsOf 37 = 2 := by kernel_rfl
theorem sized_str {H : Type} {P : Program} {ts : List TypeId} {ds : List (DataW H)} (h : (DataW.weightsEach P ts ds).all (· ≤ reachBytes) = true) {j : Nat} {t : TypeId} {s : ByteArray} (ht : ts[j]? = some t) (hd : ds[j]? = some (.lit (.string s.data.toList))) : s.size ≤ 140737488355328 := by
  have h1 := sized_string h ht hd
  have h2 := reachBytes_lt
  have e3 : (2 : Nat) ^ 47 = 140737488355328 := by decide
  have e1 : s.data.toList.length = s.size := Array.length_toList
  omega
theorem shs_at (f : Nat → Int × Int) (n i : Nat) (h : i < n) : ((List.range n).map f).getD i (0, 0) = f i := by
  rw [List.getD_eq_getElem?_getD, List.getElem?_map, List.getElem?_range h]; rfl
theorem open_shs {H : Type} {enc : TypeId × Value → H} {W : World} {n : Nat} {v : Value} {y : DataW H × List MemPlace} (h : DataW.trod enc Tryd.prog W 0 (fun _ => true) true n 40 [v] = some y) :
    ∃ (A : Option Addr) (c : Nat) (l : Shs), v = .slice A l.length c ∧ ShL W A l ∧ (∀ k, k < l.length → -9223372036854775808 ≤ shA l k ∧ shA l k ≤ 9223372036854775807) ∧ l.length < 9223372036854775808 := by
  rcases Deep.open_slice_pairs Tryd.underlying40 Tryd.underlying114 cells_shift rfl rfl cells_int cells_int h with ⟨hcs, rfl⟩ | ⟨a, len, cap, m', n, V0, V1, D0, D1, P0, P1, hcs, _, hl, hm, hmm, rfl, hx⟩
  · simp at hcs
    subst hcs
    exact ⟨none, 0, [], rfl, .inl rfl, fun k hk => by simp at hk, by simp⟩
  · simp at hcs
    subst hcs
    simp at hmm
    subst hmm
    have em : maxLen = 9223372036854775807 := by decide
    have each : ∀ i, i < m' → ∃ q : Int × Int, V0 i = .int .i64 q.1 ∧ V1 i = .int .i64 q.2 ∧ -9223372036854775808 ≤ q.1 ∧ q.1 ≤ 9223372036854775807 := fun i hi => by
      obtain ⟨_, _, g0, g1⟩ := hx i hi
      obtain ⟨x, e0, _, w0⟩ := DataW.trod_int Tryd.underlying3 g0
      obtain ⟨y, e1, _, w1⟩ := DataW.trod_int Tryd.underlying3 g1
      simp at e0 e1
      exact ⟨(x, y), e0, e1, int_bounds w0⟩
    obtain ⟨f, hf⟩ := Deep.choose_lt each
    have el : ((List.range len).map f).length = len := by simp
    refine ⟨some a, m', (List.range len).map f, by rw [el], ?_, ?_, by rw [el]; omega⟩
    · rcases Nat.eq_zero_or_pos len with h0 | h0
      · left; rw [h0]; rfl
      · right
        obtain ⟨b, off, spot⟩ := a
        have h1 := (hx 0 (by omega)).1
        have hspot : spot = none := by simpa [Addr.add] using World.cell?_spot h1
        subst hspot
        have hadd : ∀ i, (⟨b, off, none⟩ : Addr).add i = ⟨b, off + i, none⟩ := fun i => by unfold Addr.add; split <;> simp_all
        refine ⟨b, off, rfl, by simpa [Addr.add] using World.block_lt_of_cell? _ _ h1, fun i hi => ?_⟩
        rw [el] at hi
        obtain ⟨g0, g1, _, _⟩ := hx i (by omega)
        obtain ⟨e0, e1, _⟩ := hf i (by omega)
        rw [hadd, e0] at g0
        rw [hadd, e1] at g1
        unfold shA shF
        rw [shs_at f len i hi]
        exact ⟨g0, by rw [Nat.add_assoc]; exact g1⟩
    · intro k hk
      rw [el] at hk
      unfold shA
      rw [shs_at f len k hk]
      exact (hf k (by omega)).2.2
instance : Inhabited Air := ⟨airZ⟩
instance : Inhabited Dst := ⟨⟨noB, noB, 0⟩⟩
theorem len2 {α : Type} : ∀ {l : List α}, l.length = 2 → ∃ a b, l = [a, b]
  | [a, b], _ => ⟨a, b, rfl⟩
theorem len3 {α : Type} : ∀ {l : List α}, l.length = 3 → ∃ a b c, l = [a, b, c]
  | [a, b, c], _ => ⟨a, b, c, rfl⟩
theorem len4 {α : Type} : ∀ {l : List α}, l.length = 4 → ∃ a b c d, l = [a, b, c, d]
  | [a, b, c, d], _ => ⟨a, b, c, d, rfl⟩
theorem len5 {α : Type} : ∀ {l : List α}, l.length = 5 → ∃ a b c d e, l = [a, b, c, d, e]
  | [a, b, c, d, e], _ => ⟨a, b, c, d, e, rfl⟩
set_option maxRecDepth 100000 in
theorem open_air {H : Type} {enc : TypeId × Value → H} {W : World} {n b o : Nat} {cs : List Value} {y : DataW H × List MemPlace} (hc : W.cells? 0 ⟨b, o, none⟩ 5 = some cs) (h : DataW.trod enc Tryd.prog W 0 (fun _ => true) true n 44 cs = some y) :
    ∃ a : Air, AirAt W b o a ∧ OkA a := by
  obtain ⟨_, hlen, hcell⟩ := World.cells?_some hc
  obtain ⟨xs, k, _, _, _, hxl, hf⟩ := DataW.trod_struct Tryd.underlying44 h
  obtain ⟨y0, y1, y2, y3, rfl⟩ := len4 hxl
  obtain ⟨v0, v1, v2, v3, v4, rfl⟩ := len5 hlen
  all_goals
    have g0 := hf 0 _ rfl
    have g1 := hf 1 _ rfl
    have g2 := hf 2 _ rfl
    have g3 := hf 3 _ rfl
    simp [cells_string, cells_zone] at g0 g1 g2 g3
    obtain ⟨s0, e0, _, z0⟩ := DataW.trod_string Tryd.underlying9 g0
    obtain ⟨s1, e1, _, z1⟩ := DataW.trod_string Tryd.underlying9 g1
    obtain ⟨s2, e2, _, z2⟩ := DataW.trod_string Tryd.underlying9 g2
    obtain ⟨zs, k2, _, _, _, hzl, hz⟩ := DataW.trod_struct Tryd.underlying42 g3
    obtain ⟨u0, u1, rfl⟩ := len2 hzl
    all_goals
      have q0 := hz 0 _ rfl
      have q1 := hz 1 _ rfl
      simp [cells_int, cells_shs] at q0 q1
      obtain ⟨x, e3, _, w3⟩ := DataW.trod_int Tryd.underlying3 q0
      obtain ⟨A, c, l, e4, hL, hr, hl⟩ := open_shs q1
      simp at e0 e1 e2 e3
      subst e0 e1 e2 e3 e4
      have hadd : ∀ j, (⟨b, o, none⟩ : Addr).add j = ⟨b, o + j, none⟩ := fun j => by unfold Addr.add; split <;> simp_all
      have c0 := hcell 0 (by omega)
      have c1 := hcell 1 (by omega)
      have c2 := hcell 2 (by omega)
      have c3 := hcell 3 (by omega)
      have c4 := hcell 4 (by omega)
      rw [hadd] at c0 c1 c2 c3 c4
      exact ⟨⟨s0, s1, s2, x, A, c, l⟩, ⟨by simpa using c0, by simpa using c1, by simpa using c2, by simpa using c3, by simpa using c4, hL⟩, ⟨z0, z1, z2, hl, hr⟩⟩
set_option maxRecDepth 100000 in
theorem open_dst {H : Type} {enc : TypeId × Value → H} {W : World} {n b o : Nat} {cs : List Value} {y : DataW H × List MemPlace} (hc : W.cells? 0 ⟨b, o, none⟩ 3 = some cs) (h : DataW.trod enc Tryd.prog W 0 (fun _ => true) true n 97 cs = some y) :
    ∃ d : Dst, DstAt W b o d ∧ OkD d := by
  obtain ⟨_, hlen, hcell⟩ := World.cells?_some hc
  obtain ⟨xs, k, _, _, _, hxl, hf⟩ := DataW.trod_struct Tryd.underlying97 h
  obtain ⟨y0, y1, y2, rfl⟩ := len3 hxl
  obtain ⟨v0, v1, v2, rfl⟩ := len3 hlen
  all_goals
    have g0 := hf 0 _ rfl
    have g1 := hf 1 _ rfl
    have g2 := hf 2 _ rfl
    simp [cells_string, cells_int] at g0 g1 g2
    obtain ⟨s0, e0, _, z0⟩ := DataW.trod_string Tryd.underlying9 g0
    obtain ⟨s1, e1, _, z1⟩ := DataW.trod_string Tryd.underlying9 g1
    obtain ⟨x, e2, _, w2⟩ := DataW.trod_int Tryd.underlying3 g2
    simp at e0 e1 e2
    subst e0 e1 e2
    have hadd : ∀ j, (⟨b, o, none⟩ : Addr).add j = ⟨b, o + j, none⟩ := fun j => by unfold Addr.add; split <;> simp_all
    have c0 := hcell 0 (by omega)
    have c1 := hcell 1 (by omega)
    have c2 := hcell 2 (by omega)
    rw [hadd] at c0 c1 c2
    exact ⟨⟨s0, s1, x⟩, ⟨by simpa using c0, by simpa using c1, by simpa using c2⟩, ⟨z0, z1⟩⟩
theorem list_at {α : Type} (f : Nat → α) (n i : Nat) (a : α) (h : ((List.range n).map f)[i]? = some a) : i < n ∧ a = f i := by
  have hi : i < n := by have := (List.getElem?_eq_some_iff.1 h).1; simpa using this
  rw [List.getElem?_map, List.getElem?_range hi] at h
  exact ⟨hi, (Option.some.inj h).symm⟩
set_option maxRecDepth 100000 in
/-- places by value, opened -/
theorem open_places {H : Type} {enc : TypeId × Value → H} {W : World} {b0 : Nat} {v : Value} {d : DataW H} {p : List MemPlace} (hv : Value.okWide Tryd.prog W .any b0 37 v) (h : DataW.Trod enc Tryd.prog W 0 (fun _ => true) true 37 v d p) :
    ∃ pv : PV, v = encP pv ∧ PlL W pv ∧ (∀ a ∈ pv.l, OkA a) ∧ (∀ d ∈ pv.ds, OkD d) ∧ pv.l.length < 9223372036854775808 ∧ pv.ds.length < 9223372036854775808 := by
  have em : maxLen = 9223372036854775807 := by decide
  obtain ⟨v0, v1, y0, y1, m, rfl, rfl, rfl, hy0, hy1⟩ := Joins.open_agg2 Tryd.underlying37 (by kernel_rfl) cells_places hv h
  have hA : ∃ (A : Option Addr) (c : Nat) (l : List Air), v0 = .slice A l.length c ∧ AirL W A l ∧ (∀ a ∈ l, OkA a) ∧ l.length < 9223372036854775808 := by
    rcases Deep.open_slice Tryd.underlying34 hy0 with ⟨hcs, _⟩ | ⟨a, len, cap, m', n, D, Pl, hcs, _, hl, hm, hmm, _, hx⟩
    · simp at hcs
      exact ⟨none, 0, [], hcs, .inl rfl, fun a ha => by simp at ha, by simp⟩
    · simp at hcs hmm
      subst hcs hmm
      rcases Nat.eq_zero_or_pos len with h0 | h0
      · exact ⟨some a, m', [], by rw [h0]; rfl, .inl rfl, fun a ha => by simp at ha, by simp⟩
      obtain ⟨b, off, spot⟩ := a
      obtain ⟨cs0, hc0, _⟩ := hx 0 (by omega)
      have hspot : spot = none := by
        rw [cells_air] at hc0
        obtain ⟨_, hl0, hcell⟩ := World.cells?_some hc0
        have h1 := hcell 0 (by omega)
        rw [List.getElem?_eq_getElem (by omega)] at h1
        simpa [Addr.add] using World.cell?_spot h1
      subst hspot
      have hadd : ∀ i, (⟨b, off, none⟩ : Addr).add i = ⟨b, off + i, none⟩ := fun i => by unfold Addr.add; split <;> simp_all
      have each : ∀ i, i < len → ∃ a : Air, AirAt W b (off + i * 5) a ∧ OkA a := fun i hi => by
        obtain ⟨cs', h1, h2⟩ := hx i (by omega)
        rw [cells_air, hadd] at h1
        exact open_air h1 h2
      obtain ⟨f, hf⟩ := Deep.choose_lt each
      have el : ((List.range len).map f).length = len := by simp
      refine ⟨some ⟨b, off, none⟩, m', (List.range len).map f, by rw [el], .inr ⟨b, off, rfl, World.block_lt_of_cell? _ _ (hf 0 h0).1.c0, fun i a hi => ?_⟩, fun a ha => ?_, by rw [el]; omega⟩
      · obtain ⟨h1, rfl⟩ := list_at f len i a hi
        exact (hf i h1).1
      · obtain ⟨i, hi, rfl⟩ := List.mem_map.1 ha
        exact (hf i (List.mem_range.1 hi)).2
  have hD : ∃ (A : Option Addr) (c : Nat) (l : List Dst), v1 = .slice A l.length c ∧ DstL W A l ∧ (∀ a ∈ l, OkD a) ∧ l.length < 9223372036854775808 := by
    rcases Deep.open_slice Tryd.underlying35 hy1 with ⟨hcs, _⟩ | ⟨a, len, cap, m', n, D, Pl, hcs, _, hl, hm, hmm, _, hx⟩
    · simp at hcs
      exact ⟨none, 0, [], hcs, .inl rfl, fun a ha => by simp at ha, by simp⟩
    · simp at hcs hmm
      subst hcs hmm
      rcases Nat.eq_zero_or_pos len with h0 | h0
      · exact ⟨some a, m', [], by rw [h0]; rfl, .inl rfl, fun a ha => by simp at ha, by simp⟩
      obtain ⟨b, off, spot⟩ := a
      obtain ⟨cs0, hc0, _⟩ := hx 0 (by omega)
      have hspot : spot = none := by
        rw [cells_dst] at hc0
        obtain ⟨_, hl0, hcell⟩ := World.cells?_some hc0
        have h1 := hcell 0 (by omega)
        rw [List.getElem?_eq_getElem (by omega)] at h1
        simpa [Addr.add] using World.cell?_spot h1
      subst hspot
      have hadd : ∀ i, (⟨b, off, none⟩ : Addr).add i = ⟨b, off + i, none⟩ := fun i => by unfold Addr.add; split <;> simp_all
      have each : ∀ i, i < len → ∃ a : Dst, DstAt W b (off + i * 3) a ∧ OkD a := fun i hi => by
        obtain ⟨cs', h1, h2⟩ := hx i (by omega)
        rw [cells_dst, hadd] at h1
        exact open_dst h1 h2
      obtain ⟨f, hf⟩ := Deep.choose_lt each
      have el : ((List.range len).map f).length = len := by simp
      refine ⟨some ⟨b, off, none⟩, m', (List.range len).map f, by rw [el], .inr ⟨b, off, rfl, World.block_lt_of_cell? _ _ (hf 0 h0).1.c0, fun i a hi => ?_⟩, fun a ha => ?_, by rw [el]; omega⟩
      · obtain ⟨h1, rfl⟩ := list_at f len i a hi
        exact (hf i h1).1
      · obtain ⟨i, hi, rfl⟩ := List.mem_map.1 ha
        exact (hf i (List.mem_range.1 hi)).2
  obtain ⟨A, ca, l, rfl, h1, h2, h3⟩ := hA
  obtain ⟨D, cd, ds, rfl, h4, h5, h6⟩ := hD
  exact ⟨⟨A, ca, l, D, cd, ds⟩, rfl, ⟨h1, h4⟩, h2, h5, h3, h6⟩

/-! ### A list of texts among the arguments -/
theorem weights_strs {P : Program} {H : Type} {e : TypeId} : ∀ {l : List ByteArray} {s : ByteArray}, s ∈ l → s.size ∈ DataW.weightsAll P e (strs l : List (DataW H))
  | a :: r, s, h => by
    simp only [strs, List.map_cons, DataW.weightsAll, List.mem_append]
    rcases List.mem_cons.1 h with rfl | h
    · left
      simp [DataW.weights]
    · right
      exact weights_strs h
theorem open_strL {H : Type} {enc : TypeId × Value → H} {P : Program} {W : World} {t e : TypeId} (ht : P.underlying t = some (.slice e)) (he : P.underlying e = some .string) (hc : P.cellsOf e = 1) (hb : P.bytesOf e = 16)
    {A : Option Addr} {n c : Nat} {d : DataW H} {p : List MemPlace} (h : DataW.Trod enc P W 0 (fun _ => true) true t (.slice A n c) d p)
    {ts : List TypeId} {ds : List (DataW H)} (hsz : (DataW.weightsEach P ts ds).all (· ≤ reachBytes) = true) {j : Nat} (hj : ts[j]? = some t) (hd : ds[j]? = some d) :
    ∃ ss : List ByteArray, n = ss.length ∧ StrL W (.slice A ss.length c) ss ∧ ss.length ≤ 140737488355328 ∧ ∀ s ∈ ss, s.size ≤ 140737488355328 := by
  have hr := reachBytes_lt
  have e3 : (2 : Nat) ^ 47 = 140737488355328 := by decide
  obtain ⟨fuel, hf⟩ := h
  rcases open_strings ht he hc hf with ⟨hcs, _⟩ | ⟨a, len, cap, ss, hcs, _, hl, hm, hz, hx, hcell, _⟩
  · simp [Value.cells] at hcs
    obtain ⟨rfl, rfl, rfl⟩ := hcs
    exact ⟨[], rfl, ⟨none, 0, rfl, .inl rfl⟩, by simp, by simp⟩
  · simp [Value.cells] at hcs
    obtain ⟨rfl, rfl, rfl⟩ := hcs
    simp at hz
    have hlen : (ss.take n).length = n := by rw [List.length_take]; omega
    injection hx with hx _
    subst hx
    have w1 := sized_slice hsz hj hd ht
    rw [hb] at w1
    have el : (strs (H := H) (ss.take n)).length = n := by rw [strs, List.length_map, hlen]
    refine ⟨ss.take n, hlen.symm, ?_, by omega, fun s hs => ?_⟩
    · rw [hlen]
      refine ⟨some a, c, by rw [hlen], ?_⟩
      rcases Nat.eq_zero_or_pos n with h0 | h0
      · left
        rw [h0]; rfl
      · right
        obtain ⟨b, off, spot⟩ := a
        have h1 := hcell 0 (by omega)
        have hspot : spot = none := by simpa [Addr.add] using World.cell?_spot h1
        subst hspot
        refine ⟨b, off, rfl, World.block_lt_of_cell? _ _ h1, fun i hi => ?_⟩
        have h2 := hcell i (by omega)
        rw [List.getElem_take]
        have : ss.getD i ByteArray.empty = ss[i]'(by omega) := by rw [List.getD_eq_getElem?_getD, List.getElem?_eq_getElem (by omega)]; rfl
        rw [this] at h2
        have hadd : (⟨b, off, none⟩ : Addr).add i = ⟨b, off + i, none⟩ := by unfold Addr.add; split <;> simp_all
        rw [hadd] at h2
        exact h2
    · have w2 := List.all_eq_true.1 hsz _ (DataW.weights_mem_each hj hd s.size (by
        simp only [DataW.weights, ht, List.mem_cons, List.mem_append]
        exact .inr (.inl (weights_strs hs))))
      simp at w2
      omega

/-! ### connecting times, a segment -/
open Con
theorem u8_bounds {a : Int} (h : (Lit.int .u8 a).wf = true) : 0 ≤ a ∧ a ≤ 255 := by
  have e1 : IntKind.u8.min = 0 := rfl
  have e2 : IntKind.u8.max = 255 := rfl
  simp only [Lit.wf, e1, e2, Bool.and_eq_true, decide_eq_true_eq] at h
  omega
theorem cells_cn : Tryd.prog.cellsOf 54 = 4 := by kernel_rfl
theorem cells_sgK : Tryd.prog.cellsOf 47 = 7 := by kernel_rfl
instance : Inhabited Cn := ⟨⟨noB, noB, noB, 0⟩⟩
instance : Inhabited Sg := ⟨sgZ⟩
structure OkCn (c : Cn) : Prop where
  a : c.a.size ≤ maxLen
  i : c.i.size ≤ maxLen
  o : c.o.size ≤ maxLen
theorem len7K {α : Type} : ∀ {l : List α}, l.length = 7 → ∃ a b c d e f g, l = [a, b, c, d, e, f, g]
  | [a, b, c, d, e, f, g], _ => ⟨a, b, c, d, e, f, g, rfl⟩
theorem array7K {α : Type} {cs : Array α} (h : cs.size = 7) : ∃ c0 c1 c2 c3 c4 c5 c6, cs = #[c0, c1, c2, c3, c4, c5, c6] := by
  obtain ⟨l⟩ := cs
  match l, h with
  | [c0, c1, c2, c3, c4, c5, c6], _ => exact ⟨c0, c1, c2, c3, c4, c5, c6, rfl⟩
set_option maxRecDepth 100000 in
theorem read_seg {H : Type} {enc : TypeId × Value → H} {W : World} {n : Nat} {c0 c1 c2 c3 c4 c5 c6 : Value} {y : DataW H × List MemPlace} (h : DataW.trod enc Tryd.prog W 0 (fun _ => true) true n 47 [c0, c1, c2, c3, c4, c5, c6] = some y) :
    ∃ sv : Sg, (#[c0, c1, c2, c3, c4, c5, c6] : Array Value) = #[.string sv.car, .int .i64 sv.num, .int .i64 sv.day, .string sv.f, .string sv.t, .int .i64 sv.dep, .int .i64 sv.arr] ∧ sv.f.size ≤ maxLen ∧ sv.t.size ≤ maxLen := by
  obtain ⟨xs, k, _, _, _, hxl, hf⟩ := DataW.trod_struct Tryd.underlying47 h
  obtain ⟨y0, y1, y2, y3, y4, y5, y6, rfl⟩ := len7K hxl
  all_goals
    have g0 := hf 0 _ rfl
    have g1 := hf 1 _ rfl
    have g2 := hf 2 _ rfl
    have g3 := hf 3 _ rfl
    have g4 := hf 4 _ rfl
    have g5 := hf 5 _ rfl
    have g6 := hf 6 _ rfl
    simp [cells_string, cells_int] at g0 g1 g2 g3 g4 g5 g6
    obtain ⟨s0, e0, _, z0⟩ := DataW.trod_string Tryd.underlying9 g0
    obtain ⟨x1, e1, _, w1⟩ := DataW.trod_int Tryd.underlying3 g1
    obtain ⟨x2, e2, _, w2⟩ := DataW.trod_int Tryd.underlying3 g2
    obtain ⟨s3, e3, _, z3⟩ := DataW.trod_string Tryd.underlying9 g3
    obtain ⟨s4, e4, _, z4⟩ := DataW.trod_string Tryd.underlying9 g4
    obtain ⟨x5, e5, _, w5⟩ := DataW.trod_int Tryd.underlying3 g5
    obtain ⟨x6, e6, _, w6⟩ := DataW.trod_int Tryd.underlying3 g6
    simp at e0 e1 e2 e3 e4 e5 e6
    subst e0 e1 e2 e3 e4 e5 e6
    exact ⟨⟨s0, x1, x2, s3, s4, x5, x6⟩, rfl, z3, z4⟩
set_option maxRecDepth 100000 in
/-- a segment by value, opened -/
theorem open_seg {H : Type} {enc : TypeId × Value → H} {W : World} {b0 : Nat} {v : Value} {d : DataW H} {p : List MemPlace} (hv : Value.okWide Tryd.prog W .any b0 47 v) (h : DataW.Trod enc Tryd.prog W 0 (fun _ => true) true 47 v d p) :
    ∃ sv : Sg, v = aggSg sv ∧ sv.f.size ≤ maxLen ∧ sv.t.size ≤ maxLen := by
  obtain ⟨cs, rfl, hsz⟩ := okWide_struct Tryd.underlying47 hv
  obtain ⟨c0, c1, c2, c3, c4, c5, c6, rfl⟩ := array7K (hsz.trans cells_sgK)
  obtain ⟨fuel, hf⟩ := h
  obtain ⟨sv, e, h2⟩ := read_seg hf
  exact ⟨sv, by rw [e], h2⟩
set_option maxRecDepth 100000 in
theorem read_cn {H : Type} {enc : TypeId × Value → H} {W : World} {n : Nat} {c0 c1 c2 c3 : Value} {y : DataW H × List MemPlace} (h : DataW.trod enc Tryd.prog W 0 (fun _ => true) true n 54 [c0, c1, c2, c3] = some y) :
    ∃ x : Cn, [c0, c1, c2, c3] = encCn x ∧ OkCn x := by
  obtain ⟨xs, k, _, _, _, hxl, hf⟩ := DataW.trod_struct Tryd.underlying54 h
  obtain ⟨y0, y1, y2, y3, rfl⟩ := len4 hxl
  all_goals
    have g0 := hf 0 _ rfl
    have g1 := hf 1 _ rfl
    have g2 := hf 2 _ rfl
    have g3 := hf 3 _ rfl
    simp [cells_string, cells_int] at g0 g1 g2 g3
    obtain ⟨s0, e0, _, z0⟩ := DataW.trod_string Tryd.underlying9 g0
    obtain ⟨s1, e1, _, z1⟩ := DataW.trod_string Tryd.underlying9 g1
    obtain ⟨s2, e2, _, z2⟩ := DataW.trod_string Tryd.underlying9 g2
    obtain ⟨x3, e3, _, w3⟩ := DataW.trod_int Tryd.underlying3 g3
    simp at e0 e1 e2 e3
    subst e0 e1 e2 e3
    exact ⟨⟨s0, s1, s2, x3⟩, rfl, ⟨z0, z1, z2⟩⟩

set_option maxRecDepth 100000 in
theorem read_rowK {α : Type} [Inhabited α] {sz : Nat} {enc' : α → List Value} {Ok : α → Prop} {H : Type} {enc : TypeId × Value → H} {W : World} {n : Nat} {v : Value} {y : DataW H × List MemPlace} {ts te : TypeId} (hu : Tryd.prog.underlying ts = some (.slice te)) (hce : Tryd.prog.cellsOf te = sz) (h1 : 0 < sz) (he : ∀ x, (enc' x).length = sz)
    (hread : ∀ m cs yy, cs.length = sz → DataW.trod enc Tryd.prog W 0 (fun _ => true) true m te cs = some yy → ∃ x : α, cs = enc' x ∧ Ok x) (h : DataW.trod enc Tryd.prog W 0 (fun _ => true) true n ts [v] = some y) :
    ∃ (A : Option Addr) (c : Nat) (l : List α), v = .slice A l.length c ∧ RowL sz enc' W (.slice A l.length c) l ∧ (∀ f ∈ l, Ok f) ∧ l.length < 9223372036854775808 := by
  have em : maxLen = 9223372036854775807 := by decide
  rcases Deep.open_slice hu h with ⟨hcs, _⟩ | ⟨a, len, cap, m', n, D, Pl, hcs, _, hl, hm, hmm, _, hx⟩
  · simp at hcs
    exact ⟨none, 0, [], hcs, ⟨none, 0, rfl, .inl rfl⟩, fun a ha => by simp at ha, by simp⟩
  · simp at hcs hmm
    subst hcs hmm
    rcases Nat.eq_zero_or_pos len with h0 | h0
    · exact ⟨some a, m', [], by rw [h0]; rfl, ⟨some a, m', rfl, .inl rfl⟩, fun a ha => by simp at ha, by simp⟩
    obtain ⟨b, off, spot⟩ := a
    obtain ⟨cs0, hc0, _⟩ := hx 0 (by omega)
    have hspot : spot = none := by
      rw [hce] at hc0
      obtain ⟨_, hl0, hcell⟩ := World.cells?_some hc0
      have h1 := hcell 0 (by omega)
      rw [List.getElem?_eq_getElem (by omega)] at h1
      simpa [Addr.add] using World.cell?_spot h1
    subst hspot
    have hadd : ∀ i, (⟨b, off, none⟩ : Addr).add i = ⟨b, off + i, none⟩ := fun i => by unfold Addr.add; split <;> simp_all
    have each : ∀ i, i < len → ∃ x : α, (∀ j u, (enc' x)[j]? = some u → W.cell? ⟨b, off + i * sz + j, none⟩ = some u) ∧ Ok x := fun i hi => by
      obtain ⟨cs', h1, h2⟩ := hx i (by omega)
      rw [hce, hadd] at h1
      obtain ⟨_, hlen, hcell⟩ := World.cells?_some h1
      obtain ⟨x, e, hok⟩ := hread _ _ _ hlen h2
      rw [e] at hcell
      refine ⟨x, fun j u hu => ?_, hok⟩
      have hj : j < sz := by have := (List.getElem?_eq_some_iff.1 hu).1; rw [he] at this; exact this
      have hadd2 : ∀ i, (⟨b, off + i * sz, none⟩ : Addr).add j = ⟨b, off + i * sz + j, none⟩ := fun i => by unfold Addr.add; split <;> simp_all
      have hc2 := hcell j hj
      rw [hadd2] at hc2
      rw [hc2]
      exact hu
    obtain ⟨f, hf⟩ := Deep.choose_lt each
    have el : ((List.range len).map f).length = len := by simp
    have hlt : b < W.heap.size := by
      have h3 := (hf 0 h0).1 0 ((enc' (f 0))[0]'(by rw [he]; exact h1)) (List.getElem?_eq_getElem _)
      exact World.block_lt_of_cell? _ _ h3
    refine ⟨some ⟨b, off, none⟩, m', (List.range len).map f, by rw [el], ⟨some ⟨b, off, none⟩, m', rfl, .inr ⟨b, off, rfl, hlt, fun i x j u hi hu => ?_⟩⟩, fun a ha => ?_, by rw [el]; omega⟩
    · obtain ⟨h1, rfl⟩ := list_at f len i x hi
      exact (hf i h1).1 j u hu
    · obtain ⟨i, hi, rfl⟩ := List.mem_map.1 ha
      exact (hf i (List.mem_range.1 hi)).2
set_option maxRecDepth 100000 in
/-- a list of connecting times by value, opened -/
theorem open_connects {H : Type} {enc : TypeId × Value → H} {W : World} {b0 : Nat} {v : Value} {d : DataW H} {p : List MemPlace} (hv : Value.okWide Tryd.prog W .any b0 22 v) (h : DataW.Trod enc Tryd.prog W 0 (fun _ => true) true 22 v d p) :
    ∃ (A : Option Addr) (c : Nat) (l : List Cn), v = .slice A l.length c ∧ CnL W (.slice A l.length c) l ∧ (∀ x ∈ l, OkCn x) ∧ l.length < 9223372036854775808 := by
  obtain ⟨a, len, cap, rfl⟩ := okWide_slice Tryd.underlying22 hv
  obtain ⟨fuel, hf⟩ := h
  refine read_rowK (enc' := encCn) (Ok := OkCn) Tryd.underlying22 cells_cn (by omega) (fun _ => rfl) (fun m cs yy hl h => ?_) hf
  obtain ⟨c0, c1, c2, c3, rfl⟩ := len4 hl
  exact read_cn h
set_option maxRecDepth 100000 in
/-- a list of segments by value, opened -/
theorem open_segs {H : Type} {enc : TypeId × Value → H} {W : World} {b0 : Nat} {v : Value} {d : DataW H} {p : List MemPlace} (hv : Value.okWide Tryd.prog W .any b0 23 v) (h : DataW.Trod enc Tryd.prog W 0 (fun _ => true) true 23 v d p) :
    ∃ (A : Option Addr) (c : Nat) (l : List Sg), v = .slice A l.length c ∧ SgL W (.slice A l.length c) l ∧ (∀ x ∈ l, x.f.size ≤ maxLen ∧ x.t.size ≤ maxLen) ∧ l.length < 9223372036854775808 := by
  obtain ⟨a, len, cap, rfl⟩ := okWide_slice Tryd.underlying23 hv
  obtain ⟨fuel, hf⟩ := h
  refine read_rowK (enc' := encSg) (Ok := fun x : Sg => x.f.size ≤ maxLen ∧ x.t.size ≤ maxLen) Tryd.underlying23 cells_sgK (by omega) (fun _ => rfl) (fun m cs yy hl h => ?_) hf
  obtain ⟨c0, c1, c2, c3, c4, c5, c6, rfl⟩ := len7K hl
  obtain ⟨sv, e, h2⟩ := read_seg h
  exact ⟨sv, congrArg Array.toList e, h2⟩
end Go.Proofs.YtkcdifanhdakhaaDoor

/- A Case of the laws of connections by value, opened. -/
namespace Go.Proofs.YtkcdifanhdakhaaDoor
open Go.ChangeShapes Go.WideShapes Go.ChangeAt Go.RowKit
set_option linter.unusedSimpArgs false
set_option linter.unusedVariables false

theorem cells_case : Tryd.prog.cellsOf 25 = 2 := by kernel_rfl
set_option maxRecDepth 100000 in
theorem open_case {H : Type} {enc : TypeId × Value → H} {W : World} {b0 : Nat} {v : Value} {d : DataW H} {p : List MemPlace} (hv : Value.okWide Tryd.prog W .any b0 25 v) (h : DataW.Trod enc Tryd.prog W 0 (fun _ => true) true 25 v d p) :
    ∃ (A : Option Addr) (c : Nat) (l : List Con.Cn) (As : Option Addr) (cs : Nat) (S : List Con.Sg), v = .agg #[.slice A l.length c, .slice As S.length cs] ∧ Con.CnL W (.slice A l.length c) l ∧ Con.SgL W (.slice As S.length cs) S ∧ (∀ x ∈ S, x.f.size ≤ maxLen ∧ x.t.size ≤ maxLen) ∧ l.length < 9223372036854775808 ∧ S.length < 9223372036854775808 := by
  obtain ⟨v0, v1, y0, y1, m, rfl, rfl, rfl, hy0, hy1⟩ := Joins.open_agg2 Tryd.underlying25 (by kernel_rfl) cells_case hv h
  obtain ⟨A, c, l, rfl, hA, _, hl⟩ := read_rowK (enc' := Con.encCn) (Ok := OkCn) Tryd.underlying22 cells_cn (by omega) (fun _ => rfl) (fun m cs yy hl h => by
    obtain ⟨c0, c1, c2, c3, rfl⟩ := len4 hl
    exact read_cn h) hy0
  obtain ⟨As, cs, S, rfl, hS, hz, hs⟩ := read_rowK (enc' := Con.encSg) (Ok := fun x : Con.Sg => x.f.size ≤ maxLen ∧ x.t.size ≤ maxLen) Tryd.underlying23 cells_sgK (by omega) (fun _ => rfl) (fun m cs yy hl h => by
    obtain ⟨c0, c1, c2, c3, c4, c5, c6, rfl⟩ := len7K hl
    obtain ⟨sv, e, h2⟩ := read_seg h
    exact ⟨sv, congrArg Array.toList e, h2⟩) hy1
  exact ⟨A, c, l, As, cs, S, rfl, hA, hS, hz, hl, hs⟩
end Go.Proofs.YtkcdifanhdakhaaDoor

/- Proved here, one card a law: airlinelaw11/ConnectFollows return true at every input and leave what they were given as it was. Conditions: those of the given rows alone (the arguments within the form's reach; the listed library variables as their initialisers lay them). -/
namespace Go.Proofs.YtkcdifanhdakhaaDoor
open Go.ChangeShapes Go.WideShapes Go.ChangeAt Go.RowKit
open Go.ChangeMaps (open_string shut_string)
set_option linter.unusedSimpArgs false
set_option linter.unusedVariables false

theorem connectFollows_params : Tryd.f4.params = #[37, 25, 3] := by kernel_rfl
set_option maxRecDepth 100000 in
theorem connectFollows_contract (H : Type) (enc : TypeId × Value → H) (W : World) (base : Nat) (args : Array Value) (ds gs : List (DataW H)) (before : List MemPlace)
    (hval0 : ∀ (j : Nat) t v, Tryd.f4.params[j]? = some t → args[j]? = some v → Value.okWide Tryd.prog W .any base t v)
    (hW : DataW.Whole enc Tryd.prog Tryd.f4.params.toList Rows.connectFollowsSpec.vars false W args.toList ds gs before)
    (hsz0 : (DataW.weightsEach Tryd.prog (Tryd.f4.params.toList ++ Rows.connectFollowsSpec.plain.varTypes Tryd.prog) (ds ++ gs)).all (· ≤ reachBytes) = true) (hL : laidMetH Tryd.prog Rows.connectFollowsRow.laid W) :
    Calls Tryd.prog 4 args W fun e W' => ∃ v, e = .returned v ∧ Rows.connectFollowsSpec.post enc Tryd.prog Tryd.f4 false true false false W args v W' := by
  have hE : Env W := env_of hL
  have hval := hval0
  have hsz := hsz0
  clear hval0 hsz0
  have hW' := hW
  obtain ⟨p, q, hA0, hV, rfl, hfz, hnd⟩ := hW
  have hA : DataW.TrodAll enc Tryd.prog W 0 (fun _ => true) true Tryd.f4.params.toList args.toList ds p := hA0
  rw [connectFollows_params] at hA hval hsz
  obtain ⟨v0, vs0, d0, ds0, p0, q0, hargs, rfl, rfl, h0, r0⟩ := trodAll_cons hA
  obtain ⟨v1, vs1, d1, ds1, p1, q1, rfl, rfl, rfl, h1, r1⟩ := trodAll_cons r0
  obtain ⟨v2, vs2, d2, ds2, p2, q2, rfl, rfl, rfl, h2, r2⟩ := trodAll_cons r1
  obtain ⟨rfl, rfl, rfl⟩ := trodAll_nil r2
  obtain rfl : args = #[v0, v1, v2] := by cases args; simp_all
  obtain ⟨rfl, rfl⟩ := trodVars_none hV
  have k0 := h0
  have lt0 : ∀ x ∈ p0, x.block < W.heap.size := by obtain ⟨m, hm⟩ := k0; exact DataW.trod_lt m _ _ _ hm
  obtain ⟨pv0, rfl, hL0, oA0, oD0, la0, ld0⟩ := open_places (hval 0 37 v0 rfl rfl) h0
  have k1 := h1
  have lt1 : ∀ x ∈ p1, x.block < W.heap.size := by obtain ⟨m, hm⟩ := k1; exact DataW.trod_lt m _ _ _ hm
  obtain ⟨A1, c1, l1, B1, e1, S1, rfl, hL1, hM1, zs1, le1, ls1⟩ := open_case (hval 1 25 v1 rfl rfl) h1
  have k2 := h2
  have lt2 : ∀ x ∈ p2, x.block < W.heap.size := by obtain ⟨m, hm⟩ := k2; exact DataW.trod_lt m _ _ _ hm
  obtain ⟨a2, rfl, rfl, rfl, w2⟩ := open_int Tryd.underlying3 (hval 2 3 v2 rfl rfl) h2
  have b2 := int_bounds w2
  clear hA0 hval hsz
  refine (Con.connectFollows_walk pv0 A1 c1 l1 B1 e1 S1 a2 W hL0 oA0 oD0 hL1 hM1 zs1 ls1).mono fun e W' ⟨he, bel⟩ => ?_
  subst he
  exact ⟨_, rfl, _, _, _, [], _, [], hW', trodAll_mk1 (shut_bool Tryd.underlying4 _), (trodAll_cons_mk (Below.trod laidOut (by kernel_rfl) (of_decide_eq_true (by kernel_rfl)) k0 bel lt0) (trodAll_cons_mk (Below.trod laidOut (by kernel_rfl) (of_decide_eq_true (by kernel_rfl)) k1 bel lt1) (trodAll_cons_mk (Below.trod laidOut (by kernel_rfl) (of_decide_eq_true (by kernel_rfl)) k2 bel lt2) (trodAll_mk0)))), rfl, bel.frame _, fun h => by cases h⟩
theorem connectFollows_reads (os : Os) {H : Type} (enc : TypeId × Value → H) : ∃ places, DataW.whole enc Tryd.prog ((laidWorld os).forCall (fun _ _ => 0) ⟨#[], #[.agg #[.slice none 0 0, .slice none 0 0], .agg #[.slice none 0 0, .slice none 0 0], .int .i64 0], []⟩).memory Tryd.f4.params.toList Rows.connectFollowsSpec.vars false (#[.agg #[.slice none 0 0, .slice none 0 0], .agg #[.slice none 0 0, .slice none 0 0], .int .i64 0] : Array Value).toList 8 = some ([.agg [.nil, .nil], .agg [.nil, .nil], .lit (.int .i64 0)], [], places) :=
  ⟨[], by kernel_rfl⟩
set_option maxRecDepth 100000 in
theorem connectFollows_lifted (os : Os) (started : os.Started) (H : Type) (enc : TypeId × Value → H) (F : Stop.Interp) :
    ReturnsInHanded {} Tryd.checked os 4 .any ((OpenSpec.ofChange Rows.connectFollowsSpec).preRow enc Tryd.prog Tryd.f4 Rows.connectFollowsRow.domain false Rows.connectFollowsRow.laid) (((OpenSpec.ofChange Rows.connectFollowsSpec).at F).post enc Tryd.prog Tryd.f4 false true false false) := by
  obtain ⟨places, hx⟩ := connectFollows_reads os enc
  refine returnsInHanded_of_row (C := Tryd.checked) (s := (OpenSpec.ofChange Rows.connectFollowsSpec)) own started (by kernel_rfl) Tryd.func4
    (witness_row_atRef (enc := enc) (C := Tryd.checked) false (laidWorld os) #[.agg #[.slice none 0 0, .slice none 0 0], .agg #[.slice none 0 0, .slice none 0 0], .int .i64 0] rfl (by kernel_rfl) (by kernel_rfl) (by kernel_rfl)
      (OpenSpec.preRow_of_cond 8 hx (by kernel_rfl) (fun k hk => by cases hk) (by kernel_rfl) (laidWorld_met os _))) ?_
  intro W base args ds gs before hval hW _ _ hsz hL _ _
  exact connectFollows_contract H enc W base args ds gs before hval hW hsz hL
theorem connectFollows_said : Rows.ConnectFollowsSaid :=
  OpenClaim.holds_of_cond 4 Tryd.f4 rfl rfl rfl rfl rfl rfl rfl ⟨rfl, rfl, rfl, rfl, rfl⟩ rfl rfl rfl rfl rfl (by kernel_rfl) Tryd.func4 (by kernel_rfl)
    (of_decide_eq_true (by kernel_rfl)) (by unfold Func.isWrapper; first | (rw [if_pos (by decide +kernel)]; kernel_rfl) | (rw [if_neg (by decide +kernel)]; exact ⟨rfl, rfl⟩))
    (fun os started H enc _ F => by rw [OpenClaim.pre_eq_preRow]; exact connectFollows_lifted os started H enc F)
theorem connectFollows_plain (f : FuncId) (fn : Func) (hf : Tryd.pinned.checked.prog.funcNamed "airline/airlinelaw11.ConnectFollows" = some f) (hfn : Tryd.pinned.checked.prog.funcs[f]? = some fn) :
    false = Tryd.pinned.checked.prog.looks [] ∧ ∀ (j : Nat) t, fn.params[j]? = some t → Tryd.pinned.checked.prog.wantsStandIn t = false := by
  obtain rfl : f = 4 := Option.some.inj ((show Tryd.prog.funcNamed "airline/airlinelaw11.ConnectFollows" = some 4 by kernel_rfl).symm.trans hf) |>.symm
  obtain rfl : fn = Tryd.f4 := (Option.some.inj (Tryd.func4.symm.trans hfn)).symm
  refine ⟨by kernel_rfl, fun j t ht => ?_⟩
  rw [connectFollows_params] at ht
  have h := Array.mem_of_getElem? ht
  simp only [List.mem_toArray, List.mem_cons, List.not_mem_nil, or_false] at h
  rcases h with rfl | rfl | rfl
  · exact (show Tryd.prog.wantsStandIn 37 = false by kernel_rfl)
  · exact (show Tryd.prog.wantsStandIn 25 = false by kernel_rfl)
  · exact (show Tryd.prog.wantsStandIn 3 = false by kernel_rfl)
/-- the card -/
theorem connectFollows_card : Rows.ConnectFollowsCardSaid :=
  Claim7.holds_tied_plain_at .later [] _ _ _ _ connectFollows_said (fun _ h => by cases h) (by kernel_rfl) (fun _ h => by cases h) connectFollows_row_tie rfl ⟨rfl, rfl⟩ (by kernel_rfl) rfl connectFollows_plain (by kernel_rfl)

end Go.Proofs.YtkcdifanhdakhaaDoor
