/- The specification's Normal. -/
import Derived.Test.YtggbflogndpnoaaMarY
import Derived.Test.YtggbflogndpnoaaMarL
namespace Go.Proofs.Ytggbflogndpnoaa
open Go.RowKit Go.Shelf Go.Maps
set_option linter.unusedSimpArgs false
set_option linter.unusedVariables false

theorem Ch.pre {l : List Int} {ys : List (Nat × Nat)} {b : Nat} (h : Ch l ys b) : ∀ i, i ≤ ys.length → ∃ b', Ch l (ys.take i) b' := by
  induction h with
  | nil => intro i _; exact ⟨0, by simpa using Ch.nil⟩
  | @snoc pre f t h1 h2 ih =>
    intro i hi
    by_cases e : i ≤ pre.length
    · obtain ⟨b', hb⟩ := ih i e
      exact ⟨b', by rw [List.take_append_of_le_length e]; exact hb⟩
    · rw [List.length_append, List.length_singleton] at hi
      exact ⟨t, by rw [List.take_of_length_le (by simp; omega)]; exact .snoc h1 h2⟩
theorem Ch.at {l : List Int} {ys : List (Nat × Nat)} {b : Nat} (h : Ch l ys b) {i : Nat} {x : Nat × Nat} (hx : ys[i]? = some x) : Ch l (ys.take i) x.1 ∧ IsEnd l x.1 x.2 := by
  obtain ⟨b', hb⟩ := h.pre (i + 1) (by have := (List.getElem?_eq_some_iff.1 hx).1; omega)
  rw [List.take_add_one, hx] at hb
  exact Ch.inv hb
theorem ch_nil {l : List Int} {b : Nat} (h : Ch l [] b) : b = 0 := by
  generalize hq : ([] : List (Nat × Nat)) = q at h
  cases h with
  | nil => rfl
  | snoc _ _ => simp at hq
theorem ch_last {l : List Int} {p : List (Nat × Nat)} {x : Nat × Nat} {b : Nat} (h : Ch l (p ++ [x]) b) : b = x.2 := by
  generalize hq : p ++ [x] = q at h
  cases h with
  | nil => simp at hq
  | @snoc p f t h1 h2 =>
    have := (List.append_inj' hq rfl).2
    simp at this
    rw [this]
theorem ch_end {l : List Int} {ys : List (Nat × Nat)} {b b' : Nat} (h : Ch l ys b) (h' : Ch l ys b') : b = b' := by
  rcases List.eq_nil_or_concat ys with e | ⟨p, x, e⟩
  · subst e
    rw [ch_nil h, ch_nil h']
  · rw [List.concat_eq_append] at e
    subst e
    rw [ch_last h, ch_last h']

set_option maxRecDepth 100000 in
set_option maxHeartbeats 8000000 in
theorem rnormal_any (A : Option Addr) (c : Nat) (l : List Int) (w : World) (hl : l.length ≤ 1000) (hL : IntR w (.slice A l.length c) l) :
    Calls Try.prog 18 #[.slice A l.length c] w (LstR (nrmP l) (chkP l) w) := by
  have KW := Lib.hid (rgroups_any A c l w hl hL)
  obtain ⟨er, her⟩ : ∃ er, er = chkP l := ⟨_, rfl⟩
  rw [← her] at KW ⊢
  by_cases h0 : er = 0
  rotate_left
  · have HF : Hid (∀ W, Below w.heap.size w W → LstR (nrmP l) er w (.returned (.tuple #[.slice none 0 0, .int .i64 er])) W) := Lib.hid (fun W h => lst_err (by unfold nrmP; rw [← her, if_neg h0]) rfl h rfl)
    have g0 : (er != 0) = true := by simpa using h0
    clear her h0 hL
    go_enter Try.func18, Try.ntmps18
    go_wp2_with (go_at_call 9; refine KW.out.mono ?_; rintro e w2 ⟨v, xs, rfl, hv, hg, hb2⟩)
    refine bodyPost_ret (results_tmp2 rfl _ _ _) rfl ?_
    exact HF.out _ hb2
  · subst h0
    obtain ⟨ys, hys⟩ := exists_runs l
    have HY := Lib.hid hys
    have HFN := Lib.hid (fine_of (chk_zero.1 her.symm).2 hys)
    have HNR : Hid (nrmP l = tab (nmP l) l.length) := Lib.hid (by unfold nrmP; rw [if_pos her.symm])
    have HGR : Hid (grpP l = ys.map fun x => rgP x.1 x.2) := Lib.hid (by unfold grpP; rw [if_pos her.symm, hys.groups])
    have HLL := Lib.hid hl
    clear hL her hys hl
    go_enter Try.func18, Try.ntmps18
    go_upto_region 4 with (go_at_call 9; refine KW.out.mono ?_; rintro e w2 ⟨v, xs, rfl, hv, hg, hb2⟩)
    obtain ⟨hr, _⟩ := hg.gpV
    obtain ⟨gA, gc, rfl, _⟩ := id hr
    obtain ⟨gn, hgn⟩ : ∃ gn, gn = xs.length := ⟨_, rfl⟩
    have HGN : Hid (gn = xs.length ∧ gn = ys.length) := Lib.hid ⟨hgn, by have := congrArg List.length (hv.trans HGR.out); rw [List.length_map, List.length_map] at this; omega⟩
    have hgl : gn ≤ 1000 := by have := HY.out.len; have := HLL.out; have := HGN.out; omega
    rw [← hgn] at hr ⊢
    have HR := Lib.hid hr
    have HXS : Hid (∀ (k : Nat) (x : Nat × Nat), ys[k]? = some x → ∃ gx : Gp, xs[k]? = some gx ∧ gx.l = rgP x.1 x.2) := Lib.hid (fun k x hx => by
      have e := congrArg (fun q => q[k]?) (hv.trans HGR.out)
      simp only [List.getElem?_map, hx, Option.map_some] at e
      cases hq : xs[k]? with
      | none => rw [hq] at e; cases e
      | some gx => rw [hq] at e; exact ⟨gx, rfl, by simpa using e⟩)
    have HB2 := Lib.hid hb2
    have HO0 : Hid (ROwn 3 1 encI w2.heap.size w2 (.slice none 0 0) (tab (nmP l) 0) ∧ Below w2.heap.size w2 w2) := Lib.hid ⟨ROwn.nil (Nat.le_refl _), Below.refl _ _⟩
    clear hr hgn hv hg hb2 KW HGR
    go_wp2
    go_loopw [8, 7, 6] (fun vi vq v wr => ∃ (i b : Nat) (u : Value), i ≤ gn ∧ vi = .int .i64 (i : Int) ∧ vq = .int .i64 (cntP l b) ∧ u = v ∧ Hid (Ch l (ys.take i) b) ∧ Hid (ROwn 3 1 encI w2.heap.size wr u (tab (nmP l) b) ∧ Below w2.heap.size w2 wr)) (fun vi _ _ _ => gn - (intOf vi).toNat)
    case atStart => exact ⟨0, 0, _, Nat.zero_le _, rfl, rfl, rfl, Lib.hid (by rw [List.take_zero]; exact .nil), HO0⟩
    case round =>
      clear HO0
      obtain ⟨i, f, u, hi, rfl, rfl, rfl, HC, HO⟩ := hrel
      by_cases hlt : i < gn
      · obtain ⟨x, hx⟩ : ∃ x, ys[i]? = some x := ⟨_, List.getElem?_eq_getElem (by have := HGN.out; omega)⟩
        obtain ⟨hc1, hE⟩ := HY.out.at hx
        have hf : f = x.1 := ch_end HC.out hc1
        obtain ⟨gx, hgx, hgl2⟩ := HXS.out i x hx
        obtain ⟨gb, go, rfl, hglt, hcx⟩ := row_get (HR.out.more HO.out.2) hgx
        have c0 := hcx 0 _ rfl
        rw [Nat.add_zero, Nat.mul_one, hgl2, rgP_len] at c0
        rw [← hf] at c0 hE
        obtain ⟨t, ht⟩ : ∃ t, t = x.2 := ⟨_, rfl⟩
        rw [← ht] at c0 hE
        have HCN : Hid (Ch l (ys.take (i + 1)) t) := Lib.hid (by
          rw [List.take_add_one, hx, ht]
          have h9 := HC.out.snoc (t := x.2) (by rw [← ht]; exact hE)
          rw [hf] at h9
          exact h9)
        obtain ⟨m, hm⟩ : ∃ m, m = t - f := ⟨_, rfl⟩
        rw [← hm] at c0
        have hft := hE.lt
        have htl : t ≤ 1000 := by have := hE.le; have := HLL.out; omega
        have HTF : Hid (f + m = t) := Lib.hid (by omega)
        have hq := cnt_in l f
        have i1 : (i : Int) < (gn : Int) := by omega
        have i2 : (0 : Int) ≤ (i : Int) := by omega
        have hm1 : 0 < m := by omega
        have hm2 : m ≤ 1000 := by omega
        have hf2 : (f : Int) ≤ 1000 := by omega
        have hst := HC.out.start (by have := hE.le; omega)
        have hCW : Hid (∀ W, Below w2.heap.size w2 W → W.cell? ⟨gb, go + i, none⟩ = some (.slice (some ⟨gx.b, 0, none⟩) m gx.c)) := Lib.hid (fun W hW => by
          obtain ⟨gb2, go2, e2, _, hcx2⟩ := row_get (HR.out.more hW) hgx
          cases e2
          have c2 := hcx2 0 _ rfl
          rw [Nat.add_zero, Nat.mul_one, hgl2, rgP_len, ← hf, ← ht, ← hm] at c2
          exact c2)
        by_cases hp : 0 < atP l f
        · have h2 : f + 2 ≤ t := by
            have := HFN.out.two x (List.mem_of_getElem? hx) (by rw [← hf]; exact hp)
            omega
          have d0 : decide ((1 : Int) < (m : Int)) = true := decide_eq_true (by omega)
          have d0' : decide (1 < m) = true := decide_eq_true (by omega)
          have HNM : Hid (∀ k, k < m → nmP l (f + k) = cntP l f + 1) := Lib.hid (fun k hk => by
            unfold nmP
            rw [if_pos (by rw [hE.same (f + k) (by omega) (by omega)]; exact hp), cnt_run hE hst hp (f + k) (by omega) (by omega)])
          have HQT : Hid (cntP l t = cntP l f + 1) := Lib.hid (by
            have := cnt_run hE hst hp (t - 1) (by omega) (by omega)
            rw [show t - 1 + 1 = t by omega] at this
            exact this)
          clear hx hc1 hf hgx hgl2 hcx ht hm hE hst hp hft h2 HXS
          generalize cntP l f = q at *
          have w5 : IntKind.i64.wrap (q + 1) = q + 1 := IntWalk.i64_in _ (by omega)
          go_wp2
          go_loopw [9, 6] (fun vk v wr => ∃ (k : Nat) (u : Value), k ≤ m ∧ vk = .int .i64 (k : Int) ∧ u = v ∧ Hid (ROwn 3 1 encI w2.heap.size wr u (tab (nmP l) (f + k)) ∧ Below w2.heap.size w2 wr)) (fun vk _ _ => m - (intOf vk).toNat)
          case atStart => exact ⟨0, _, Nat.zero_le _, rfl, rfl, HO⟩
          case round =>
            clear HO c0
            obtain ⟨k, u, hk, rfl, rfl, HO⟩ := hrel
            have c0 := hCW.out wr HO.out.2
            by_cases hkt : k < m
            · have j1 : (k : Int) < (m : Int) := by omega
              have HNK := Lib.hid (HNM.out k hkt)
              go_wp2_with (at_builtin; refine wpList_rapp rowI rfl _ _ rfl HO.out.1 rfl (bel_alloc _ _) _ (q + 1) _ rfl (cs := #[.int .i64 (q + 1)]) rfl (heap_alloc_new _ _) (by rw [tab_len]; omega) ?_; intro v1 w1x hO1 hC1)
              have HN1 : Hid (ROwn 3 1 encI w2.heap.size w1x v1 (tab (nmP l) (f + (k + 1))) ∧ Below w2.heap.size w2 w1x) := Lib.hid ⟨by rw [← Nat.add_assoc, tab_snoc, HNK.out]; exact hO1, HO.out.2.trans (hC1.below HO.out.1)⟩
              clear hO1 hC1
              go_roundw
              case rel => exact ⟨k + 1, v1, by omega, by go_num, rfl, HN1⟩
              case measure => simp [intOf]; omega
            · have j1 : ¬ (k : Int) < (m : Int) := by omega
              have HO2 : Hid (ROwn 3 1 encI w2.heap.size wr u (tab (nmP l) t) ∧ Below w2.heap.size w2 wr) := Lib.hid (by rw [← HTF.out, ← show k = m by omega]; exact HO.out)
              clear hkt hk
              go_wp2
              go_roundw
              case rel => exact ⟨i + 1, t, _, by omega, by go_num, by rw [HQT.out], rfl, HCN, HO2⟩
              case measure => simp [intOf]; omega
        · have e1 := hE.one hp
          have d0 : decide ((1 : Int) < (m : Int)) = false := decide_eq_false (by omega)
          have d0' : decide (1 < m) = false := decide_eq_false (by omega)
          have HNM : Hid (∀ k, k < m → nmP l (f + k) = 0) := Lib.hid (fun k hk => by
            unfold nmP
            rw [if_neg (by rw [hE.same (f + k) (by omega) (by omega)]; exact hp)])
          have HQT : Hid (cntP l t = cntP l f) := Lib.hid (by
            rw [e1]
            show cntP l f + _ = _
            rw [if_neg (fun h => hp h.2)]
            omega)
          clear hx hc1 hf hgx hgl2 hcx ht hm hE hst hp hft e1 HXS
          generalize cntP l f = q at *
          go_wp2
          go_loopw [9, 6] (fun vk v wr => ∃ (k : Nat) (u : Value), k ≤ m ∧ vk = .int .i64 (k : Int) ∧ u = v ∧ Hid (ROwn 3 1 encI w2.heap.size wr u (tab (nmP l) (f + k)) ∧ Below w2.heap.size w2 wr)) (fun vk _ _ => m - (intOf vk).toNat)
          case atStart => exact ⟨0, _, Nat.zero_le _, rfl, rfl, HO⟩
          case round =>
            clear HO c0
            obtain ⟨k, u, hk, rfl, rfl, HO⟩ := hrel
            have c0 := hCW.out wr HO.out.2
            by_cases hkt : k < m
            · have j1 : (k : Int) < (m : Int) := by omega
              have HNK := Lib.hid (HNM.out k hkt)
              go_wp2_with (at_builtin; refine wpList_rapp rowI rfl _ _ rfl HO.out.1 rfl (bel_alloc _ _) _ (0) _ rfl (cs := #[.int .i64 (0)]) rfl (heap_alloc_new _ _) (by rw [tab_len]; omega) ?_; intro v1 w1x hO1 hC1)
              have HN1 : Hid (ROwn 3 1 encI w2.heap.size w1x v1 (tab (nmP l) (f + (k + 1))) ∧ Below w2.heap.size w2 w1x) := Lib.hid ⟨by rw [← Nat.add_assoc, tab_snoc, HNK.out]; exact hO1, HO.out.2.trans (hC1.below HO.out.1)⟩
              clear hO1 hC1
              go_roundw
              case rel => exact ⟨k + 1, v1, by omega, by go_num, rfl, HN1⟩
              case measure => simp [intOf]; omega
            · have j1 : ¬ (k : Int) < (m : Int) := by omega
              have HO2 : Hid (ROwn 3 1 encI w2.heap.size wr u (tab (nmP l) t) ∧ Below w2.heap.size w2 wr) := Lib.hid (by rw [← HTF.out, ← show k = m by omega]; exact HO.out)
              clear hkt hk
              go_wp2
              go_roundw
              case rel => exact ⟨i + 1, t, _, by omega, by go_num, by rw [HQT.out], rfl, HCN, HO2⟩
              case measure => simp [intOf]; omega
      · have HF : Hid (LstR (nrmP l) 0 w (.returned (.tuple #[u, .int .i64 0])) wr) := Lib.hid ⟨_, rfl, by
          have h := HO.out.1.rowL rowI.len
          have e : f = l.length := by
            have h2 := HC.out
            rw [List.take_of_length_le (by have := HGN.out; omega)] at h2
            exact ch_end h2 HY.out
          rw [HNR.out, ← e]
          exact h, HB2.out.trans (HO.out.2.mono HB2.out.size)⟩
        have i1 : ¬ (i : Int) < (gn : Int) := by omega
        clear hlt
        go_wp2
        refine bodyPost_ret (results_tmp2 rfl _ _ _) rfl ?_
        exact HF.out
end Go.Proofs.Ytggbflogndpnoaa
