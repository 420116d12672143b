/- The specification's Part and Join; equal lists. -/
import Derived.Test.YtggbflogndpnoaaMarW
namespace Go.Proofs.Ytggbflogndpnoaa
open Go.RowKit Go.Shelf Go.Maps
set_option linter.unusedSimpArgs false
set_option linter.unusedVariables false

set_option maxRecDepth 100000 in
set_option maxHeartbeats 4000000 in
/-- equal lists are found equal -/
theorem sameI_any (u v : Value) (l : List Int) (w : World) (hu : IntR w u l) (hv : IntR w v l) (hl : l.length ≤ 1000000) :
    Calls Try.prog 12 #[u, v] w fun e w' => e = .returned (.bool true) ∧ Below w.heap.size w w' := by
  obtain ⟨A, c, rfl, _⟩ := id hu
  obtain ⟨A', c', rfl, _⟩ := id hv
  have HU := Lib.hid hu
  have HV := Lib.hid hv
  clear hu hv
  go_enter Try.func12, Try.ntmps12
  go_wp2
  go_loopw [5] (fun vi wr => ∃ k : Nat, k ≤ l.length ∧ vi = .int .i64 k ∧ SW w wr) (fun vi _ => l.length - (intOf vi).toNat)
  case atStart => exact ⟨0, Nat.zero_le _, rfl, Below.refl _ _⟩
  case round =>
    obtain ⟨k, hk, rfl, hS⟩ := hrel
    by_cases hlt : k < l.length
    · obtain ⟨x, hx⟩ : ∃ x, l[k]? = some x := ⟨_, List.getElem?_eq_getElem hlt⟩
      obtain ⟨b, o, e1, c0⟩ := int_at HU.out hx
      obtain ⟨b', o', e2, c1⟩ := int_at HV.out hx
      cases e1
      cases e2
      have i2 : (k : Int) < (l.length : Int) := by omega
      have f0 := SW.cell (bel_cell hS c0)
      have f1 := SW.cell (bel_cell hS c1)
      clear hx c0 c1
      go_wp2
      have hNe : Nonempty (Wd (SW wr)) := ⟨⟨_, SW.drew _⟩⟩
      refine quietS (S := SW wr) (by kernel_rfl) (by kernel_rfl) (SW.drew _) ?_
      repeat (first | go_big_quiet_skip | (go_big_quiet_want; go_big_quiet_op; first | go_big_quiet_on | go_big_quiet_call ((fail))))
      refine wpQuiet_nil ?_
      rintro W ⟨⟨_, hW⟩, rfl⟩
      go_wp2
      go_roundw
      case rel => exact ⟨k + 1, by omega, by go_num, Below.trans hS (Below.mono hW hS.size)⟩
      case measure => simp [intOf]; omega
    · go_wp2
      go_ret
      exact ⟨rfl, hS⟩

/-- a part of a list is set to 0 -/
def zrF (l G : List Int) (k j : Nat) : Int := if (j : Int) ∈ G.take k then 0 else atP l j
theorem zr_zero (l G : List Int) : zrF l G 0 = atP l := by
  funext j
  unfold zrF
  rw [List.take_zero, if_neg (by simp)]
theorem zr_step {l G : List Int} {k m : Nat} (h : G[k]? = some (m : Int)) (n : Nat) : (tab (zrF l G k) n).set m 0 = tab (zrF l G (k + 1)) n := by
  rw [tab_set]
  refine tab_ext fun j _ => ?_
  unfold zrF
  rw [List.take_add_one, h]
  by_cases e : j = m
  · subst e
    rw [if_pos rfl, if_pos (by simp)]
  · rw [if_neg e]
    by_cases e2 : (j : Int) ∈ G.take k
    · rw [if_pos e2, if_pos (by simp [e2])]
    · rw [if_neg e2, if_neg (by simp [e2]; omega)]
theorem wi_mem (l : List Int) (a : Nat) {x : Int} (h : x ∈ wiP l a) : ∃ m : Nat, x = (m : Int) ∧ m < l.length := by
  unfold wiP at h
  obtain ⟨m, hm, rfl⟩ := List.mem_map.1 h
  exact ⟨m, rfl, List.mem_range.1 (List.mem_filter.1 hm).1⟩
theorem zr_all (l : List Int) (a : Nat) : tab (zrF l (wiP l a) (wiP l a).length) l.length = prtP l a := by
  unfold prtP
  refine tab_ext fun j hj => ?_
  unfold zrF
  rw [List.take_length]
  have : (j : Int) ∈ wiP l a ↔ wiB l a j = true := by
    unfold wiP
    rw [List.mem_map]
    constructor
    · rintro ⟨m, hm, e⟩
      have : m = j := by omega
      subst this
      exact (List.mem_filter.1 hm).2
    · intro h
      exact ⟨j, List.mem_filter.2 ⟨List.mem_range.2 hj, h⟩, rfl⟩
  by_cases h : wiB l a j = true
  · rw [if_pos (this.2 h), if_pos h]
  · rw [if_neg (fun h2 => h (this.1 h2)), if_neg h]

set_option maxRecDepth 100000 in
set_option maxHeartbeats 8000000 in
theorem rpart_any (A : Option Addr) (c : Nat) (l : List Int) (j : Int) (w : World) (hl : l.length ≤ 1000) (hL : IntR w (.slice A l.length c) l) :
    Calls Try.prog 16 #[.slice A l.length c, .int .i64 j] w (LstR (partP l j) (inE l j) w) := by
  have KW := Lib.hid (rwith_any A c l j w hl hL)
  have HL := Lib.hid hL
  obtain ⟨er, her⟩ : ∃ er, er = inE l j := ⟨_, rfl⟩
  rw [← her] at KW ⊢
  obtain ⟨n, hn⟩ : ∃ n, n = l.length := ⟨_, rfl⟩
  have HN := Lib.hid hn
  have HLn : Hid (IntR w (.slice A n c) l) := Lib.hid (by rw [hn]; exact hL)
  rw [← hn] at hl KW
  rw [← hn]
  clear hL hn HL
  by_cases h0 : er = 0
  rotate_left
  · have HF : Hid (∀ W, Below w.heap.size w W → LstR (partP l j) er w (.returned (.tuple #[.slice none 0 0, .int .i64 er])) W) := Lib.hid (fun W h => lst_err (by unfold partP; rw [← her, if_neg h0]) rfl h rfl)
    have g0 : (er != 0) = true := by simpa using h0
    clear her h0
    go_enter Try.func16, Try.ntmps16
    go_wp2_with (go_at_call 14; refine KW.out.mono ?_; rintro e w2 ⟨v, rfl, hv, hb2⟩)
    refine bodyPost_ret (results_tmp2 rfl _ _ _) rfl ?_
    exact HF.out _ hb2
  · subst h0
    obtain ⟨hc0, hj0, hj1⟩ := in_zero her.symm
    obtain ⟨a, rfl⟩ : ∃ a : Nat, j = (a : Int) := ⟨j.toNat, by omega⟩
    have hpos : 0 < n := by have := HN.out; omega
    have HG : Hid (withP l (a : Int) = wiP l a) := Lib.hid (by unfold withP; rw [if_pos her.symm, Int.toNat_natCast])
    have HP : Hid (partP l (a : Int) = prtP l a) := Lib.hid (by unfold partP; rw [if_pos her.symm, Int.toNat_natCast])
    have HZ := Lib.hid (zr_all l a)
    have HM := Lib.hid (fun x (hx : x ∈ wiP l a) => wi_mem l a hx)
    have hgl : (wiP l a).length ≤ 1000 := by
      unfold wiP
      rw [List.length_map]
      have := List.length_filter_le (wiB l a) (List.range l.length)
      rw [List.length_range] at this
      have := HN.out
      omega
    generalize hGe : wiP l a = G at *
    clear hGe her hc0 hj0 hj1
    go_enter Try.func16, Try.ntmps16
    go_upto_region 4 with (go_at_call 14; refine KW.out.mono ?_; rintro e w2 ⟨v, rfl, hv, hb2⟩)
    rw [HG.out] at hv
    obtain ⟨gA, gc, rfl, _⟩ := id hv
    have HV := Lib.hid hv
    have hb3 := bel_alloc w2 (.cells #[] 3)
    have HO := Lib.hid (ROwn.new (e := 3) (sz := 1) (enc := encI) (B := w2.heap.size) (w := w2) (Nat.le_refl _) [] (fun x => rfl) (cs := #[]) rfl (by simp))
    have HL3 := Lib.hid ((HLn.out.more hb2).more hb3)
    have HB2 := Lib.hid hb2
    have HB3 := Lib.hid hb3
    clear hv hb2 hb3 KW HG
    go_wp2_with (at_builtin; refine wpList_rappl rowI rfl _ _ rfl HO.out rfl l _ rfl HL3.out (by simp; have := HN.out; omega) ?_; intro v' w' hO1 hC1; refine Hid.out ?_)
    obtain ⟨g, cap, rfl, hcap, hg, hr⟩ := ROwn.rowC (s := l) (by simpa using hO1) (by intro e; have := HN.out; rw [e] at this; simp at this; omega)
    rw [← HN.out] at hcap ⊢
    have HR0 : Hid (Row w' g (tab (zrF l G 0) n) ∧ Below w2.heap.size w2 w') := Lib.hid ⟨by rw [zr_zero, HN.out, tab_atP]; exact hr, HB3.out.trans (hC1.below HO.out)⟩
    have HGB := Lib.hid hg
    clear hr hO1 hC1 hg HO HL3
    refine Lib.hid ?_
    obtain ⟨gn, hgn⟩ : ∃ gn, gn = G.length := ⟨_, rfl⟩
    have HGN := Lib.hid hgn
    rw [← hgn] at hgl HV ⊢
    clear hgn
    go_wp2
    go_loopw [9] (fun vi wr => ∃ k : Nat, k ≤ gn ∧ vi = .int .i64 (k : Int) ∧ Hid (Row wr g (tab (zrF l G k) n) ∧ Below w2.heap.size w2 wr)) (fun vi _ => gn - (intOf vi).toNat)
    case atStart => exact ⟨0, Nat.zero_le _, rfl, HR0⟩
    case round =>
      clear HR0
      obtain ⟨k, hk, rfl, HK⟩ := hrel
      by_cases hlt : k < gn
      · obtain ⟨y, hy⟩ : ∃ y, G[k]? = some y := ⟨_, List.getElem?_eq_getElem (by have := HGN.out; omega)⟩
        obtain ⟨m, rfl, hmn⟩ := HM.out y (List.mem_of_getElem? hy)
        have HY := Lib.hid hy
        obtain ⟨gb, go, rfl, c0⟩ := int_at (HV.out.more HK.out.2) hy
        have i1 : (k : Int) < (gn : Int) := by omega
        have i2 : (0 : Int) ≤ (k : Int) := by omega
        have i3 : (m : Int) < (n : Int) := by have := HN.out; omega
        have i4 : (0 : Int) ≤ (m : Int) := by omega
        have d0 := HK.out.1.cell m (by rw [tab_len]; omega)
        have d1 := HK.out.1.froz m (by rw [tab_len]; omega)
        have HN2 : Hid (Row (wr.setCell ⟨g, m, none⟩ (.int .i64 0)) g (tab (zrF l G (k + 1)) n) ∧ Below w2.heap.size w2 (wr.setCell ⟨g, m, none⟩ (.int .i64 0))) := Lib.hid ⟨by rw [← zr_step HY.out]; exact HK.out.1.set m (by rw [tab_len]; omega) 0, HK.out.2.setCell (p := ⟨g, m, none⟩) HGB.out _⟩
        clear hy
        go_wp2
        go_roundw
        case rel => exact ⟨k + 1, by omega, by go_num, HN2⟩
        case measure => simp [intOf]; omega
      · have HF : Hid (LstR (partP l (a : Int)) 0 w (.returned (.tuple #[.slice (some ⟨g, 0, none⟩) n cap, .int .i64 0])) wr) := Lib.hid ⟨_, rfl, by
          have h := HK.out.1.intR (c := cap)
          rw [tab_len, show k = G.length by have := HGN.out; omega] at h
          rw [HP.out, ← HZ.out, ← HN.out]
          exact h, HB2.out.trans (HK.out.2.mono HB2.out.size)⟩
        have i1 : ¬ (k : Int) < (gn : Int) := by omega
        clear hlt
        go_wp2
        refine bodyPost_ret (results_tmp2 rfl _ _ _) rfl ?_
        exact HF.out
end Go.Proofs.Ytggbflogndpnoaa
