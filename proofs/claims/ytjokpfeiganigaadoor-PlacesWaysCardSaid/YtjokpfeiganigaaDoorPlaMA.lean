/- The reference's list of cities that were reached: plain facts, words for memory, walks of reached and reach. -/
import Derived.Test.YtjokpfeiganigaaDoorPlaZ
import Derived.Test.YtjokpfeiganigaaDoorPlaS
import Derived.Test.YtjokpfeiganigaaDoorOwnR
namespace Go.Proofs.YtjokpfeiganigaaDoor
open Go.RowKit Go.Shelf
set_option linter.unusedSimpArgs false
set_option linter.unusedVariables false

theorem Rel.put' {E : List Edg} {a : ByteArray} {l : List Stp} (I : Rel E a l) {b c : ByteArray} {n w : Nat} (hw : Wy E a b n) (he : (b, c, w) ∈ E) : Rel E a (putL l c (n + w)) where
  way x m h := by
    rcases putL_mem l c _ _ h with h | e
    · exact I.way x m h
    · cases e
      exact hw.on he
  start := putL_keep l c _ _ I.start (.inr (Nat.zero_le _))
  one := putL_one l c _ I.one
theorem capL.put' {l : List Stp} (h : capL l) {c : ByteArray} {k : Nat} (hk : k ≤ 20000 * l.length) : capL (putL l c k) := by
  intro x m hx
  cases hz : newL l c k
  · rw [putL_same l c _ hz] at hx ⊢
    exact h x m hx
  · rcases putL_meas l c k hz with ⟨e, _, q, hq, hlt⟩ | ⟨e, _⟩
    · rw [e]
      rcases putL_mem l c _ _ hx with h1 | h1
      · exact h x m h1
      · cases h1
        have := h c q hq
        omega
    · rw [e]
      rcases putL_mem l c _ _ hx with h1 | h1
      · have := h x m h1
        omega
      · cases h1
        omega
theorem putL_len (l : List Stp) (c : ByteArray) (m : Nat) : l.length ≤ (putL l c m).length := by
  cases hz : newL l c m
  · rw [putL_same l c _ hz]; exact Nat.le_refl _
  · rcases putL_meas l c m hz with ⟨e, _⟩ | ⟨e, _⟩ <;> omega
theorem el_cons (x : Stp) (r : List Stp) (i : Nat) : el (x :: r) (i + 1) = el r i := by simp [el]
theorem el_zero (x : Stp) (r : List Stp) : el (x :: r) 0 = x := by simp [el]
theorem putL_idx {c : ByteArray} {m : Nat} : ∀ (l : List Stp) (i : Nat), i < l.length → (∀ j, j < i → (el l j).1 ≠ c) → (el l i).1 = c → (m < (el l i).2 → putL l c m = l.set i (c, m) ∧ newL l c m = true) ∧ (¬ m < (el l i).2 → putL l c m = l ∧ newL l c m = false)
  | [], i, h, _, _ => absurd h (Nat.not_lt_zero _)
  | x :: r, 0, _, _, hc => by
    rw [el_zero] at hc ⊢
    constructor
    · intro h
      have : ¬ x.2 ≤ m := by omega
      simp [putL, newL, hc, this, h]
    · intro h
      have : x.2 ≤ m := by omega
      simp [putL, newL, hc, this]
  | x :: r, i + 1, h, hn, hc => by
    have h0 : x.1 ≠ c := by have := hn 0 (by omega); rwa [el_zero] at this
    rw [el_cons] at hc ⊢
    have ih := putL_idx (m := m) r i (by simpa using h) (fun j hj => by have := hn (j + 1) (by omega); rwa [el_cons] at this) hc
    constructor
    · intro h1
      have := ih.1 h1
      simp [putL, newL, h0, this]
    · intro h1
      have := ih.2 h1
      simp [putL, newL, h0, this]
theorem putL_non {c : ByteArray} {m : Nat} : ∀ (l : List Stp), (∀ j, j < l.length → (el l j).1 ≠ c) → putL l c m = l ++ [(c, m)] ∧ newL l c m = true
  | [], _ => ⟨rfl, rfl⟩
  | x :: r, hn => by
    have h0 : x.1 ≠ c := by have := hn 0 (by simp); rwa [el_zero] at this
    have ih := putL_non (m := m) r (fun j hj => by have := hn (j + 1) (by simpa using hj); rwa [el_cons] at this)
    simp [putL, newL, h0, ih]
theorem atL_idx {c : ByteArray} : ∀ (l : List Stp) (i : Nat), i < l.length → (∀ j, j < i → (el l j).1 ≠ c) → (el l i).1 = c → atL l c = some (el l i).2
  | [], i, h, _, _ => absurd h (Nat.not_lt_zero _)
  | x :: r, 0, _, _, hc => by
    rw [el_zero] at hc ⊢
    simp [atL, hc]
  | x :: r, i + 1, h, hn, hc => by
    have h0 : x.1 ≠ c := by have := hn 0 (by omega); rwa [el_zero] at this
    rw [el_cons] at hc ⊢
    have ih := atL_idx r i (by simpa using h) (fun j hj => by have := hn (j + 1) (by omega); rwa [el_cons] at this) hc
    simp only [atL, List.find?_cons, h0, decide_false] at ih ⊢
    exact ih
theorem atL_non {c : ByteArray} : ∀ (l : List Stp), (∀ j, j < l.length → (el l j).1 ≠ c) → atL l c = none
  | [], _ => rfl
  | x :: r, hn => by
    have h0 : x.1 ≠ c := by have := hn 0 (by simp); rwa [el_zero] at this
    have ih := atL_non r (fun j hj => by have := hn (j + 1) (by simpa using hj); rwa [el_cons] at this)
    simp only [atL, List.find?_cons, h0, decide_false] at ih ⊢
    exact ih
def atI (l : List Stp) (c : ByteArray) : Int := match atL l c with
  | some n => (n : Int)
  | none => -1

abbrev spotT : TypeId := 79
def encS (x : Stp) : List Value := [.string x.1, .int .i64 (x.2 : Int)]
theorem rtS : RT Tryd.prog 80 spotT 2 encS where
  ht := Tryd.underlying80
  info := ⟨.agg #[.string noB, .int .i64 0], 24, by kernel_rfl, rfl, by omega⟩
  len x := rfl
  one x u hu := by simp [encS] at hu; rcases hu with rfl | rfl <;> rfl
  pos := by omega
/-- a row of cities of the call's own -/
abbrev SpO (B : Nat) (w : World) (v : Value) (l : List Stp) : Prop := ROwn spotT 2 encS B w v l
theorem SpO.form {B : Nat} {w : World} {v : Value} {l : List Stp} (h : SpO B w v l) : ∃ A cap, v = .slice A l.length cap ∧ ∀ k, k < l.length → ∃ g, A = some ⟨g, 0, none⟩ ∧ g < w.heap.size ∧ w.frozen? ⟨g, k * 2 + 1, none⟩ = false ∧ w.cell? ⟨g, k * 2, none⟩ = some (.string (el l k).1) ∧ w.cell? ⟨g, k * 2 + 1, none⟩ = some (.int .i64 ((el l k).2 : Int)) := by
  have ho := h.own
  rcases ho.2 with ⟨h1, h2⟩ | ⟨g, cap, cur, h1, h2, h3, h4⟩
  · exact ⟨none, 0, by rw [h1, h2], fun k hk => absurd hk (by omega)⟩
  · refine ⟨_, cap, h1, fun k hk => ⟨g, rfl, (Array.getElem?_eq_some_iff.1 h3).1, frozen_of_row w g _ _ _ h3, ?_⟩⟩
    have hc := cellsS_at l k hk
    have hadd : ∀ j, (⟨g, 0, none⟩ : Addr).add j = ⟨g, j, none⟩ := fun j => by unfold Addr.add; split <;> simp_all
    have a0 := ho.cells (g := g) (by rw [h1]; rfl) _ _ hc.1
    have a1 := ho.cells (g := g) (by rw [h1]; rfl) _ _ hc.2
    rw [hadd] at a0 a1
    exact ⟨a0, a1⟩
theorem cellsS_set : ∀ (l : List Stp) (i : Nat) (m : Nat), i < l.length → (cellsS l).set (i * 2 + 1) (.int .i64 (m : Int)) = cellsS (l.set i ((el l i).1, m))
  | [], i, m, h => absurd h (Nat.not_lt_zero _)
  | x :: r, 0, m, _ => by simp [cellsS, el]
  | x :: r, i + 1, m, h => by
    have ih := cellsS_set r i m (by simpa using h)
    have e : cellsS (x :: r) = .string x.1 :: .int .i64 (x.2 : Int) :: cellsS r := by simp [cellsS]
    rw [e, el_cons, show (i + 1) * 2 + 1 = (i * 2 + 1) + 1 + 1 by omega]
    simp only [List.set_cons_succ, List.set_cons_succ]
    rw [ih]
    simp [cellsS]
theorem SpO.set {B g cap : Nat} {w : World} {n : Nat} {l : List Stp} (h : SpO B w (.slice (some ⟨g, 0, none⟩) n cap) l) (i m : Nat) (hi : i < l.length) :
    SpO B (w.setCell ⟨g, i * 2 + 1, none⟩ (.int .i64 (m : Int))) (.slice (some ⟨g, 0, none⟩) n cap) (l.set i ((el l i).1, m)) ∧ Below B w (w.setCell ⟨g, i * 2 + 1, none⟩ (.int .i64 (m : Int))) := by
  obtain ⟨ho1, ho2⟩ := h.own
  have hb := But.setCell w g (i * 2 + 1) (.int .i64 (m : Int))
  rcases ho2 with ⟨h1, h2⟩ | ⟨g', cap', cur, h1, h2, h3, h4, h5, h6, h7⟩
  · omega
  · simp only [Value.slice.injEq, Option.some.injEq, Addr.mk.injEq] at h1
    obtain ⟨⟨rfl, _⟩, rfl, rfl⟩ := h1
    have e := heap_setCell_same w g (i * 2 + 1) cur spotT (.int .i64 (m : Int)) h3
    refine ⟨⟨⟨cellsS_len _, .inr ⟨g, cap, _, by rw [List.length_set], h2, e, by rw [List.length_set]; exact h4, h5, by simpa using h6, ?_⟩⟩, Nat.le_trans h.base hb.size⟩, hb.below h.base (fun k hk => by omega)⟩
    show _ = cellsS _
    have h7 : cur.toList.take (l.length * 2) = cellsS l := h7
    rw [List.length_set, ← cellsS_set l i m hi, ← h7]
    simp only [Array.toList_setIfInBounds]
    rw [List.take_set]

set_option maxRecDepth 100000 in
set_option maxHeartbeats 4000000 in
theorem reached_any (B : Nat) (v : Value) (l : List Stp) (c : ByteArray) (w : World) (h : SpO B w v l) (hl : l.length ≤ 1000) :
    Calls Tryd.prog 44 #[v, .string c] w fun e w' => e = .returned (.int .i64 (atI l c)) ∧ Below w.heap.size w w' := by
  obtain ⟨A, cap, rfl, hf⟩ := h.form
  have HF := Lib.hid hf
  clear hf h
  go_enter Tryd.func44, Tryd.ntmps44
  go_wp2
  go_loopw [5] (fun vi wr => ∃ k : Nat, k ≤ l.length ∧ vi = .int .i64 k ∧ Hid (∀ j, j < k → (el l j).1 ≠ c) ∧ Below w.heap.size w wr) (fun vi _ => l.length - (intOf vi).toNat)
  case atStart => exact ⟨0, Nat.zero_le _, rfl, Lib.hid (fun j hj => absurd hj (Nat.not_lt_zero _)), Below.refl _ _⟩
  case round =>
    obtain ⟨k, hk, rfl, HK, hb⟩ := hrel
    by_cases hlt : k < l.length
    · obtain ⟨g, rfl, hg, hfz, c0, c1⟩ := HF.out k hlt
      have c0 := bel_cell hb c0
      have c1 := bel_cell hb c1
      have i2 : (k : Int) < (l.length : Int) := by omega
      by_cases he : (el l k).1 = c
      · have HR : Hid (atI l c = ((el l k).2 : Int)) := Lib.hid (by unfold atI; rw [atL_idx l k hlt HK.out he])
        have heq : ((el l k).1.toList == c.toList) = true := (eqS_iff _ _).2 he
        clear he
        generalize el l k = x at *
        go_wp2
        go_ret
        exact ⟨by rw [HR.out]; rfl, hb⟩
      · have HN : Hid (∀ j, j < k + 1 → (el l j).1 ≠ c) := Lib.hid (fun j hj => by
          rcases Nat.lt_succ_iff_lt_or_eq.1 hj with h | h
          · exact HK.out j h
          · rw [h]; exact he)
        have heq : ((el l k).1.toList == c.toList) = false := by
          cases h : ((el l k).1.toList == c.toList) with
          | false => rfl
          | true => exact absurd ((eqS_iff _ _).1 h) he
        clear he
        generalize el l k = x at *
        go_wp2
        go_roundw
        case rel => exact ⟨k + 1, by omega, by go_num, HN, hb⟩
        case measure => simp [intOf]; omega
    · have HR : Hid (atI l c = -1) := Lib.hid (by unfold atI; rw [atL_non l (fun j hj => HK.out j (by omega))])
      go_wp2
      go_ret
      exact ⟨by rw [HR.out]; rfl, hb⟩


set_option maxRecDepth 100000 in
set_option maxHeartbeats 4000000 in
theorem reach_any (B : Nat) (v : Value) (l : List Stp) (c : ByteArray) (m : Nat) (w : World) (h : SpO B w v l) (hl : l.length ≤ 1000) :
    Calls Tryd.prog 45 #[v, .string c, .int .i64 (m : Int)] w fun e w' => ∃ v', e = .returned (.tuple #[v', .bool (newL l c m)]) ∧ SpO B w' v' (putL l c m) ∧ Chg w w' v v' := by
  have HO := Lib.hid h
  obtain ⟨A, cap, rfl, hf⟩ := h.form
  have HF := Lib.hid hf
  clear hf h
  go_enter Tryd.func45, Tryd.ntmps45
  go_wp2
  go_loop [8] (fun vi => ∃ k : Nat, k ≤ l.length ∧ vi = .int .i64 k ∧ Hid (∀ j, j < k → (el l j).1 ≠ c)) (fun vi => l.length - (intOf vi).toNat)
  case atStart => exact ⟨0, Nat.zero_le _, rfl, Lib.hid (fun j hj => absurd hj (Nat.not_lt_zero _))⟩
  case round =>
    obtain ⟨k, hk, rfl, HK⟩ := hrel
    by_cases hlt : k < l.length
    · obtain ⟨g, rfl, hg, hfz, c0, c1⟩ := HF.out k hlt
      have i2 : (k : Int) < (l.length : Int) := by omega
      by_cases he : (el l k).1 = c
      · have HI := Lib.hid (putL_idx (m := m) l k hlt HK.out he)
        have HS := Lib.hid ((HO.out).set k m hlt).1
        have HC : Hid (Chg w (w.setCell ⟨g, k * 2 + 1, none⟩ (.int .i64 (m : Int))) (.slice (some ⟨g, 0, none⟩) l.length cap) (.slice (some ⟨g, 0, none⟩) l.length cap)) := Lib.hid (by
          have hb := But.setCell w g (k * 2 + 1) (.int .i64 (m : Int))
          exact ⟨⟨hb.os, hb.tape, hb.output, hb.size, fun j hj hn => hb.block j hj (fun e => hn (by rw [e]; rfl))⟩, fun j hj => .inl hj⟩)
        rw [he] at HS
        have heq : ((el l k).1.toList == c.toList) = true := (eqS_iff _ _).2 he
        clear he
        generalize el l k = x at *
        by_cases hm : m < x.2
        · have i3 : ¬ (x.2 : Int) ≤ (m : Int) := by omega
          have HR := Lib.hid (HI.out.1 hm)
          clear HI
          go_wp2
          exact bodyPost_ret (results_tmp2 rfl _ _ _) rfl ⟨.slice (some ⟨g, 0, none⟩) l.length cap, by rw [HR.out.2]; rfl, by rw [HR.out.1]; exact HS.out, HC.out⟩
        · have i3 : (x.2 : Int) ≤ (m : Int) := by omega
          have HR := Lib.hid (HI.out.2 hm)
          clear HI
          go_wp2
          exact bodyPost_ret (results_tmp2 rfl _ _ _) rfl ⟨.slice (some ⟨g, 0, none⟩) l.length cap, by rw [HR.out.2]; rfl, by rw [HR.out.1]; exact HO.out, Chg.refl _ _⟩
      · have HN : Hid (∀ j, j < k + 1 → (el l j).1 ≠ c) := Lib.hid (fun j hj => by
          rcases Nat.lt_succ_iff_lt_or_eq.1 hj with h | h
          · exact HK.out j h
          · rw [h]; exact he)
        have heq : ((el l k).1.toList == c.toList) = false := by
          cases h : ((el l k).1.toList == c.toList) with
          | false => rfl
          | true => exact absurd ((eqS_iff _ _).1 h) he
        clear he
        generalize el l k = x at *
        go_wp2
        go_round
        case rel => exact ⟨k + 1, by omega, by go_num, HN⟩
        case measure => simp [intOf]; omega
    · have HR := Lib.hid (putL_non (c := c) (m := m) l (fun j hj => HK.out j (by omega)))
      go_wp2_with (at_builtin; refine wpList_rapp rtS rfl _ _ rfl HO.out rfl (bel_alloc _ _) _ (c, m) _ rfl (cs := #[.string c, .int .i64 (m : Int)]) rfl (heap_alloc_new _ _) (by omega) ?_; intro v' w' hO hC)
      exact bodyPost_ret (results_tmp2 rfl _ _ _) rfl ⟨v', by rw [HR.out.2]; rfl, by rw [HR.out.1]; exact hO, hC⟩

end Go.Proofs.YtjokpfeiganigaaDoor
