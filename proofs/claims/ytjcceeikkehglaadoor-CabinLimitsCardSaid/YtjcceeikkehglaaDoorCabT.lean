/- Configurations without violations; the law CabinFinds. -/
import Derived.Test.YtjcceeikkehglaaDoorCabS
import Derived.Deep.LoopGhost
import Derived.BigQuiet
import Derived.Deep.CutRange
import Derived.Deep.CutBlock
namespace Go.Proofs.YtjcceeikkehglaaDoor
open Go.RowKit Go.Shelf
set_option linter.unusedSimpArgs false
set_option linter.unusedVariables false

theorem flat_nil {α β : Type} {l : List α} {g : Nat → α → List β} {n : Nat} (h : flatG l g n = []) {i : Nat} {x : α} (hi : i < n) (hx : l[i]? = some x) : g i x = [] := by
  unfold flatG at h
  rw [List.flatMap_eq_nil_iff] at h
  have := h i (List.mem_range.2 hi)
  rw [hx] at this
  exact this
theorem pick_none {s : ByteArray} {es : List Int} (h : pick s es = []) : ∀ e ∈ es, e = 0 := by
  intro e he
  apply Classical.byContradiction
  intro hne
  have : (e, s) ∈ pick s es := List.mem_map.2 ⟨e, List.mem_filter.2 ⟨he, by simpa using hne⟩, rfl⟩
  rw [h] at this
  cases this
theorem wh_zero {b : Bool} {e : Int} (h : whC b e = 0) (he : e ≠ 0) : b = false := by
  cases b with
  | false => rfl
  | true => exact absurd h he
/-- what a right configuration is -/
structure RightF (f : Cf) : Prop where
  siz : ∀ b ∈ f.l, sizB b = true
  bad : ∀ b ∈ f.l, ∀ (k : Nat) (x : Cl), b.l[k]? = some x → badP b k x = false
  new : ∀ (i k : Nat) (b : Cb) (x : Cl), f.l[i]? = some b → b.l[k]? = some x → anyS (codesB (f.l.take i) ++ codesC (b.l.take k)) x.code = false
theorem right_of {l : List Cf} (h : conF l l.length = []) : ∀ f ∈ l, RightF f := by
  intro f hf
  obtain ⟨m, hm, rfl⟩ := List.getElem_of_mem hf
  have h1 := flat_nil h hm (List.getElem?_eq_getElem hm)
  have h2 : cabF (conW ++ decA m) l[m].l l[m].l.length = [] := (List.append_eq_nil_iff.1 h1).2
  have hcab : ∀ (i : Nat) (b : Cb), l[m].l[i]? = some b → pick (conW ++ decA m ++ cabW ++ decA i) (cabE l[m].l i b) = [] ∧ clsF (conW ++ decA m ++ cabW ++ decA i) (codesB (l[m].l.take i)) b b.l.length = [] := fun i b hb =>
    List.append_eq_nil_iff.1 (flat_nil h2 (List.getElem?_eq_some_iff.1 hb).1 hb)
  have hcls : ∀ (i k : Nat) (b : Cb) (x : Cl), l[m].l[i]? = some b → b.l[k]? = some x → ∀ e ∈ clsE (codesB (l[m].l.take i)) b k x, e = 0 := fun i k b x hb hx =>
    pick_none (flat_nil (hcab i b hb).2 (List.getElem?_eq_some_iff.1 hx).1 hx)
  refine ⟨fun b hb => ?_, fun b hb k x hx => ?_, fun i k b x hb hx => ?_⟩
  · obtain ⟨i, hi, rfl⟩ := List.getElem_of_mem hb
    have := pick_none (hcab i _ (List.getElem?_eq_getElem hi)).1 (whC (!sizB l[m].l[i]) 2) (by simp [cabE])
    have := wh_zero this (by omega)
    simpa using this
  · obtain ⟨i, hi, rfl⟩ := List.getElem_of_mem hb
    exact wh_zero (hcls i k _ x (List.getElem?_eq_getElem hi) hx (whC (badP l[m].l[i] k x) 2) (by simp [clsE])) (by omega)
  · exact wh_zero (hcls i k b x hb hx (whC (anyS (codesB (l[m].l.take i) ++ codesC (b.l.take k)) x.code) 6) (by simp [clsE])) (by omega)
theorem anyS_no {L : List ByteArray} {s : ByteArray} (h : anyS L s = false) : ∀ x ∈ L, eqS x s = false := by
  intro x hx
  unfold anyS at h
  rw [List.any_eq_false] at h
  have := h x hx
  cases he : eqS x s with
  | false => rfl
  | true => exact absurd (decide_eq_true ((eqS_iff x s).1 he)) this
/-- in a right configuration every class is found at its place -/
theorem right_place {f : Cf} (h : RightF f) {i k : Nat} {b : Cb} {x : Cl} (hb : f.l[i]? = some b) (hx : b.l[k]? = some x) : plI f.l x.code = (i : Int) ∧ plK f.l x.code = (k : Int) ∧ plB f.l x.code = true := by
  have hn := anyS_no (h.new i k b x hb hx)
  have hk : idxQ (codeQ x.code) b.l = (k : Int) := idxQ_yes (fun j y hj hy => by
    refine hn y.code (List.mem_append_right _ (List.mem_map.2 ⟨y, ?_, rfl⟩))
    exact List.mem_of_getElem? (i := j) (by rw [List.getElem?_take, if_pos hj]; exact hy)) hx (eqS_self _)
  have hp := plF_yes f.l x.code i b (fun j c hj hc => by
    rw [idxQ_no (p := codeQ x.code) (fun m y hy => hn y.code (List.mem_append_left _ (List.mem_flatMap.2 ⟨c, List.mem_of_getElem? (i := j) (by rw [List.getElem?_take, if_pos hj]; exact hc), List.mem_map.2 ⟨y, List.mem_of_getElem? hy, rfl⟩⟩)))]
    omega) hb (by rw [hk]; omega)
  rw [hk] at hp
  exact pl_yes hp
theorem plF_sam : ∀ {L M : List Cb} (s : ByteArray), L.map pcb = M.map pcb → plF L s = plF M s
  | [], [], s, _ => rfl
  | [], _ :: _, s, h => by simp at h
  | _ :: _, [], s, h => by simp at h
  | b :: r, c :: q, s, h => by
    simp only [List.map_cons, List.cons.injEq] at h
    have hl : b.l = c.l := congrArg (fun p => p.2.2.2) h.1
    rw [plF, plF, hl, plF_sam s h.2]
theorem find_mem {l : List Cf} {s : ByteArray} {f : Cf} (h : findQ l s = some f) : f ∈ l := List.mem_of_find?_eq_some h

set_option maxRecDepth 100000 in
set_option maxHeartbeats 8000000 in
theorem cabinFinds_walk (A : Option Addr) (c : Nat) (l : List Cf) (equip class_ : ByteArray) (w : World) (hv : CfL w (.slice A l.length c) l) (hz : ∀ f ∈ l, SzCf f) :
    Calls Tryd.prog 4 #[.slice A l.length c, .string equip, .string class_] w fun e w' => e = .returned (.bool true) ∧ Below w.heap.size w w' := by
  have KS := Lib.hid (small_any A c l w hv)
  have KA := Lib.hid awake_any
  by_cases hs : SmallP l
  rotate_left
  · rw [small_no hs] at KS
    clear hs hz hv
    go_enter Tryd.func4, Tryd.ntmps4
    go_wp2_with (first
      | (go_at_call 8; refine (KA.out _).mono ?_; rintro e wd ⟨rfl, hbd⟩)
      | (go_at_call 7; refine KS.out.mono ?_; rintro e w' ⟨rfl, hw⟩; have hw := hw.symm; subst hw))
    go_ret
    exact ⟨rfl, hbd⟩
  rw [small_yes hs] at KS
  have hn := hs.1
  have hok := ok_all hz hs
  have HSM := Lib.hid hs.2
  have KF := Lib.hid (find_any A c l equip w hv hn hok)
  have KRF := Lib.hid (fun W (h : Below w.heap.size w W) => rfind_any A c l equip W (hv.more h) hn)
  have KC := Lib.hid (fun W (h : Below w.heap.size w W) => rcheck_any A c l W (hv.more h) hn hok)
  have HRG := Lib.hid (right_of (l := l))
  have HOQ : Hid (∀ f, findQ l equip = some f → f ∈ l) := Lib.hid (fun f h => find_mem h)
  clear hs hz hok hv
  generalize findQ l equip = o at *
  generalize hCF : conF l l.length = CF at *
  clear hCF
  go_enter Tryd.func4, Tryd.ntmps4
  go_upto_region 4 with (first
    | (go_at_call 12; refine KF.out.mono ?_; rintro e wa ⟨⟨fa, rfl, hA, hsa⟩, hba⟩)
    | (go_at_call 7; refine KS.out.mono ?_; rintro e w' ⟨rfl, hw⟩; have hw := hw.symm; subst hw))
  have h7 := bel_alloc wa (.cells #[.string fa.equip, .slice fa.A fa.l.length fa.c] cfT)
  have a0 := (cells_new wa #[.string fa.equip, .slice fa.A fa.l.length fa.c] cfT 0).trans (show _ = some (Value.string fa.equip) from rfl)
  have a1 := (cells_new wa #[.string fa.equip, .slice fa.A fa.l.length fa.c] cfT 1).trans (show _ = some (Value.slice fa.A fa.l.length fa.c) from rfl)
  have hb1 : Below w.heap.size w (wa.alloc (.cells #[.string fa.equip, .slice fa.A fa.l.length fa.c] cfT)) := hba.trans (h7.mono hba.size)
  have hA := CfAt.more hA h7
  have HB1 := Lib.hid hb1
  obtain ⟨NA, hNA⟩ : ∃ NA, NA = wa.heap.size := ⟨_, rfl⟩
  rw [← hNA] at a0 a1 ⊢
  clear hba h7 hb1 hNA
  generalize wa.alloc (.cells #[.string fa.equip, .slice fa.A fa.l.length fa.c] cfT) = w1 at *
  go_upto_region 5 with (go_at_call 13; refine (KRF.out _ HB1.out).mono ?_; rintro e wb ⟨⟨fb, rfl, hB, hsb⟩, hbb⟩)
  have h9 := bel_alloc wb (.cells #[.string fb.equip, .slice fb.A fb.l.length fb.c] cfT)
  have b0 := (cells_new wb #[.string fb.equip, .slice fb.A fb.l.length fb.c] cfT 0).trans (show _ = some (Value.string fb.equip) from rfl)
  have b1 := (cells_new wb #[.string fb.equip, .slice fb.A fb.l.length fb.c] cfT 1).trans (show _ = some (Value.slice fb.A fb.l.length fb.c) from rfl)
  have hb2 : Below w1.heap.size w1 (wb.alloc (.cells #[.string fb.equip, .slice fb.A fb.l.length fb.c] cfT)) := Below.trans hbb (h9.mono hbb.size)
  have a0 := bel_cell hb2 a0
  have a1 := bel_cell hb2 a1
  have HA := Lib.hid (CfAt.more hA hb2)
  have HBf := Lib.hid (CfAt.more hB h9)
  have HB2 : Hid (Below w.heap.size w (wb.alloc (.cells #[.string fb.equip, .slice fb.A fb.l.length fb.c] cfT))) := Lib.hid (HB1.out.trans (hb2.mono HB1.out.size))
  obtain ⟨NB, hNB⟩ : ∃ NB, NB = wb.heap.size := ⟨_, rfl⟩
  rw [← hNB] at b0 b1 ⊢
  clear hbb h9 hb2 hNB hA hB
  generalize wb.alloc (.cells #[.string fb.equip, .slice fb.A fb.l.length fb.c] cfT) = w2 at *
  -- the plain facts
  have hsab : SamC fa fb := ⟨hsa.eq.trans hsb.eq.symm, hsa.l.trans hsb.l.symm⟩
  have hsmf : smallF (o.getD cfZ) := by
    cases o with
    | none => exact ⟨by decide, fun b hb => by cases hb⟩
    | some f => exact HSM.out f (HOQ.out f rfl)
  have hsmb : smallF fb := by
    refine ⟨by rw [sam_len hsb.l]; exact hsmf.1, fun b hb => ?_⟩
    obtain ⟨i, hi, rfl⟩ := List.getElem_of_mem hb
    have hi2 : i < (o.getD cfZ).l.length := by rw [← sam_len hsb.l]; exact hi
    have he := sam_at hsb.l (List.getElem?_eq_getElem hi) (List.getElem?_eq_getElem hi2)
    have hl : fb.l[i].l = (o.getD cfZ).l[i].l := congrArg (fun p => p.2.2.2) he
    rw [hl]
    exact hsmf.2 _ (List.getElem_mem hi2)
  have HSB := Lib.hid hsmb
  have HPL : Hid (CF = [] → ∀ (i k : Nat) (b : Cb) (x : Cl), fb.l[i]? = some b → b.l[k]? = some x → plI fb.l x.code = (i : Int) ∧ plK fb.l x.code = (k : Int) ∧ plB fb.l x.code = true) := Lib.hid (fun h i k b x hb hx => by
    cases o with
    | none =>
      have := sam_len hsb.l
      have hlt := (List.getElem?_eq_some_iff.1 hb).1
      simp only [Option.getD_none, cfZ, List.length_nil] at this
      omega
    | some f =>
      have hr := HRG.out h f (HOQ.out f rfl)
      have hlt := (List.getElem?_eq_some_iff.1 hb).1
      obtain ⟨b', hb'⟩ : ∃ b', f.l[i]? = some b' := ⟨_, List.getElem?_eq_getElem (by have := sam_len hsb.l; simp only [Option.getD_some] at this; omega)⟩
      have he := sam_at hsb.l hb hb'
      have hl : b.l = b'.l := congrArg (fun p => p.2.2.2) he
      rw [hl] at hx
      have h3 := right_place hr hb' hx
      have hpf := plF_sam x.code hsb.l
      unfold plI plK plB at h3 ⊢
      rw [hpf]
      exact h3)
  have KSame := Lib.hid (same12_any fa fb w2 HA.out HBf.out hsab hsmb)
  have KP : Hid (∀ q W, SW w2 W → Calls Tryd.prog 15 #[.agg #[.string fb.equip, .slice fb.A fb.l.length fb.c], .string q] W fun e w' => e = .returned (.tuple #[.int .i64 (plI fb.l q), .int .i64 (plK fb.l q), .bool (plB fb.l q)]) ∧ SW w2 w') := Lib.hid (fun q W h => (place_any fb.equip fb.A fb.c fb.l q W (CfAt.more HBf.out h) HSB.out.1 HSB.out.2).mono (by rintro e w' ⟨rfl, hb⟩; exact ⟨rfl, Below.trans h (Below.mono hb h.size)⟩))
  have KRP : Hid (∀ q W, SW w2 W → Calls Tryd.prog 16 #[.agg #[.string fb.equip, .slice fb.A fb.l.length fb.c], .string q] W fun e w' => e = .returned (.tuple #[.int .i64 (plI fb.l q), .int .i64 (plK fb.l q), .bool (plB fb.l q)]) ∧ SW w2 w') := Lib.hid (fun q W h => (rplace12_any fb.equip fb.A fb.c fb.l q W (CfAt.more HBf.out h) HSB.out.1 HSB.out.2).mono (by rintro e w' ⟨rfl, hb⟩; exact ⟨rfl, Below.trans h (Below.mono hb h.size)⟩))
  have B0 := Lib.hid (fun W (h : SW w2 W) => bel_get b0 _ h)
  have B1 := Lib.hid (fun W (h : SW w2 W) => bel_get b1 _ h)
  have hn8 := hsmb.1
  clear hsab hsmf hsmb hsa hsb HSM HOQ HRG HA
  generalize o.isSome = ob at *
  have e1 : (ob == ob) = true := by simp
  go_upto_if 47 with (go_at_call 14; refine KSame.out.mono ?_; rintro e w3 ⟨rfl, h3⟩)
  have b0 := B0.out _ h3
  have b1 := B1.out _ h3
  clear a0 a1 e1 KSame KF KRF KS
  go_upto_region 8 with (go_at_call 15; refine (KP.out _ _ h3).mono ?_; rintro e w4 ⟨rfl, h4⟩)
  have b0 := B0.out _ h4
  have b1 := B1.out _ h4
  clear h3
  go_upto_region 9 with (go_at_call 16; refine (KRP.out _ _ h4).mono ?_; rintro e w5 ⟨rfl, h5⟩)
  have e2 : (plI fb.l class_ == plI fb.l class_) = true := by simp
  have e3 : (plK fb.l class_ == plK fb.l class_) = true := by simp
  have e4 : (plB fb.l class_ == plB fb.l class_) = true := by simp
  clear b0 b1 h4 KRP
  have HB5 : Hid (Below w.heap.size w w5) := Lib.hid (HB2.out.trans (Below.mono h5 HB2.out.size))
  have H5 : Hid (SW w2 w5) := Lib.hid h5
  clear h5
  go_upto_region 11 with fail
  clear e2 e3 e4
  obtain ⟨nf, hnf⟩ : ∃ nf, nf = CF.length := ⟨_, rfl⟩
  have KC2 : Hid (Calls Tryd.prog 11 #[.slice A l.length c] w5 fun e w' => ∃ (A' : Option Addr) (c' : Nat), e = .returned (.slice A' nf c') ∧ Below w5.heap.size w5 w') := Lib.hid ((KC.out _ HB5.out).mono (by
    rintro e w' ⟨v', rfl, hO, hb⟩
    obtain ⟨A', c', rfl, _⟩ := own_form hO (fun x => rfl)
    exact ⟨A', c', by rw [hnf], hb⟩))
  obtain ⟨rt, hrt⟩ : ∃ rt : Bool, rt = ((nf : Int) == 0) := ⟨_, rfl⟩
  have HRT : Hid (rt = true → CF = []) := Lib.hid (fun h => List.eq_nil_of_length_eq_zero (by rw [hrt, beq_iff_eq] at h; omega))
  have hrt' := hrt.symm
  clear hnf hrt KC
  obtain ⟨nb, hnb⟩ : ∃ nb, nb = fb.l.length := ⟨_, rfl⟩
  have HNB := Lib.hid hnb
  rw [← hnb] at hn8 B1 KP
  go_upto_region 12 with (go_at_call 11; refine KC2.out.mono ?_; rintro e w6 ⟨A6, c6, rfl, h6⟩)
  try rw [hrt']
  clear hrt' hnb
  have H6 : Hid (SW w2 w6) := Lib.hid (Below.trans H5.out (Below.mono h6 (Below.size H5.out)))
  clear h6 H5 HB5 KC2
  go_wp2
  go_loopg [18] nb (fun kx v18 wr => ∃ i : Nat, v18 = .int .i64 i ∧ i + kx = nb ∧ SW w2 wr)
  case atStart => exact ⟨0, rfl, by omega, H6.out⟩
  case round =>
    obtain ⟨i, rfl, hix, hS⟩ := hrel
    have HIX := Lib.hid hix
    have b0 := B0.out _ hS
    have b1 := B1.out _ hS
    by_cases hlt : i < nb
    rotate_left
    · have i1 : ¬ (i : Int) < (nb : Int) := by omega
      have HBS : Hid (Below w.heap.size w wr) := Lib.hid (HB2.out.trans (Below.mono hS HB2.out.size))
      go_wp2_with (go_at_call 8; refine (KA.out _).mono ?_; rintro e wd ⟨rfl, hbd⟩)
      go_ret
      exact ⟨rfl, HBS.out.trans (hbd.mono HBS.out.size)⟩
    have i1 : (i : Int) < (nb : Int) := by omega
    cases rt with
    | false =>
      have HBS : Hid (Below w.heap.size w wr) := Lib.hid (HB2.out.trans (Below.mono hS HB2.out.size))
      go_wp2_with (go_at_call 8; refine (KA.out _).mono ?_; rintro e wd ⟨rfl, hbd⟩)
      go_ret
      exact ⟨rfl, HBS.out.trans (hbd.mono HBS.out.size)⟩
    | true =>
    have hcf := HRT.out rfl
    obtain ⟨b, hb⟩ : ∃ b, fb.l[i]? = some b := ⟨_, List.getElem?_eq_getElem (by have := HNB.out; omega)⟩
    have hk30 := HSB.out.2 b (List.mem_of_getElem? hb)
    have HPb : Hid (∀ (k : Nat) (x : Cl), b.l[k]? = some x → plI fb.l x.code = (i : Int) ∧ plK fb.l x.code = (k : Int) ∧ plB fb.l x.code = true) := Lib.hid (fun k x hx => HPL.out hcf i k b x hb hx)
    have HBB := Lib.hid hb
    obtain ⟨nk, hnk⟩ : ∃ nk, nk = b.l.length := ⟨_, rfl⟩
    have HNK := Lib.hid hnk
    rw [← hnk] at hk30
    have HS := Lib.hid hS
    clear hcf hb hnk hix
    go_upto_region 16 with fail
    clear b0 b1 hS
    go_loopg [19] nk (fun kx v19 wq => ∃ k : Nat, v19 = .int .i64 k ∧ k + kx = nk ∧ SW w2 wq)
    case atStart => exact ⟨0, rfl, by omega, HS.out⟩
    case round =>
      obtain ⟨k, rfl, hkx, hS⟩ := hrel
      have HKX := Lib.hid hkx
      have b0 := B0.out _ hS
      have b1 := B1.out _ hS
      obtain ⟨b3, o3, e3, hg3, hc3⟩ := row_get (CfAt.more HBf.out hS).1 HBB.out
      have p3 := hc3 3 _ rfl
      rw [← HNK.out] at p3
      by_cases hlk : k < nk
      · obtain ⟨x, hx⟩ : ∃ x, b.l[k]? = some x := ⟨_, List.getElem?_eq_getElem (by have := HNK.out; omega)⟩
        obtain ⟨b4, o4, e4, hg4, hc4⟩ := row_get ((CfAt.more HBf.out hS).2 b (List.mem_of_getElem? HBB.out)) hx
        obtain ⟨q1, q2, q3⟩ := HPb.out k x hx
        have KPx : Hid (∀ W, SW w2 W → Calls Tryd.prog 15 #[.agg #[.string fb.equip, .slice (some ⟨b3, o3, none⟩) nb fb.c], .string x.code] W fun e w' => e = .returned (.tuple #[.int .i64 (i : Int), .int .i64 (k : Int), .bool true]) ∧ SW w2 w') := Lib.hid (fun W h => by
          have h1 := KP.out x.code W h
          rw [q1, q2, q3, e3] at h1
          exact h1)
        rw [e3] at b1
        rw [e4] at p3
        have x0 := hc4 0 _ rfl
        rw [Nat.add_zero] at x0
        have i3 : (k : Int) < (nk : Int) := by omega
        have hk30' : k < 30 := by omega
        have HSq := Lib.hid hS
        have hS1 : SW w2 wr.drew := Below.trans hS (Below.drew (Below.refl _ _)) 
        have r0 : ∀ z : Wd (SW wr), z.w.cell? ⟨NB, 0, none⟩ = some (Value.string fb.equip) := fun z => bel_get b0 _ z.ok
        have r1 : ∀ z : Wd (SW wr), z.w.cell? ⟨NB, 1, none⟩ = some (Value.slice (some ⟨b3, o3, none⟩) nb fb.c) := fun z => bel_get b1 _ z.ok
        have r2 : ∀ z : Wd (SW wr), z.w.cell? ⟨b3, o3 + i * 4 + 3, none⟩ = some (Value.slice (some ⟨b4, o4, none⟩) nk b.c) := fun z => bel_get p3 _ z.ok
        have r3 : ∀ z : Wd (SW wr), z.w.cell? ⟨b4, o4 + k * 2, none⟩ = some (Value.string x.code) := fun z => bel_get x0 _ z.ok
        have KQ : Hid (∀ W, SW wr W → Calls Tryd.prog 15 #[.agg #[.string fb.equip, .slice (some ⟨b3, o3, none⟩) nb fb.c], .string x.code] W fun e w' => e = .returned (.tuple #[.int .i64 (i : Int), .int .i64 (k : Int), .bool true]) ∧ SW wr w') := Lib.hid (fun W h => by
          have h0 := place_any fb.equip fb.A fb.c fb.l x.code W (CfAt.more HBf.out (Below.trans HSq.out (Below.mono h (Below.size HSq.out)))) HSB.out.1 HSB.out.2
          rw [q1, q2, q3, e3, ← HNB.out] at h0
          exact h0.mono (by rintro e w' ⟨rfl, hb⟩; exact ⟨rfl, Below.trans h (Below.mono hb h.size)⟩))
        clear hc3 hc4 hg3 hg4 e3 e4 hkx hx q1 q2 q3 KPx
        go_upto_region 18 with fail
        clear b0 b1 p3 x0
        have hS0 : SW wr wr.drew := SW.drew _
        have hNe : Nonempty (Wd (SW wr)) := ⟨⟨_, hS0⟩⟩
        refine quietS (S := SW wr) (by kernel_rfl) (by kernel_rfl) (hS0) ?_
        repeat (first | go_big_quiet_skip | (go_big_quiet_want; go_big_quiet_op; first | go_big_quiet_on | go_big_quiet_call (((go_at_call 15; exact quiet_S (KQ.out _ (Wd.ok _)))))))
        refine wpQuiet_nil ?_
        rintro W ⟨⟨_, hW⟩, rfl⟩
        clear r0 r1 r2 r3 hS1 hS
        have HY : Hid (SW w2 W) := Lib.hid (Below.trans HSq.out (Below.mono hW (Below.size HSq.out)))
        have g1 : ((i : Int) == (i : Int)) = true := by simp
        have g2 : ((k : Int) == (k : Int)) = true := by simp
        go_wp2
        go_roundg (nk - (k + 1))
        case measure => have := HKX.out; omega
        case rel => exact ⟨k + 1, by go_num, by have := HKX.out; omega, HY.out⟩
      · have i3 : ¬ (k : Int) < (nk : Int) := by omega
        rw [e3] at b1
        clear e3 hg3 hc3
        go_wp2
        go_roundg (nb - (i + 1))
        case measure => have := HIX.out; omega
        case rel => exact ⟨i + 1, by go_num, by have := HIX.out; omega, hS⟩
end Go.Proofs.YtjcceeikkehglaaDoor
