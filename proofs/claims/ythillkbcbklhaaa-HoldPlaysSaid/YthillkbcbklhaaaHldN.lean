/- The law HoldExpires. -/
import Derived.Deep.QuietTactic
import Derived.BigQuiet
import Derived.Test.YthillkbcbklhaaaHldM
namespace Go.Proofs.Ythillkbcbklhaaa
open Go.RowKit Go.Shelf Go.Maps Go.MapKept
set_option linter.unusedSimpArgs false
set_option linter.unusedVariables false

theorem srt_one {hs : List Hd} (h : SrtH hs) {x y : Hd} (hx : x ∈ hs) (hy : y ∈ hs) (e : y.id = x.id) : y = x := by
  have h1 := (find_iff h.ids x.id x).2 ⟨hx, rfl⟩
  have h2 := (find_iff h.ids x.id y).2 ⟨hy, e⟩
  rw [h1] at h2
  exact (Option.some.inj h2).symm
theorem gone_not {hs : List Hd} (h : SrtH hs) {m : Int} {x : Hd} (hx : x ∈ goneH m hs) : findH (restH m hs) x.id = none := by
  cases e : findH (restH m hs) x.id with
  | none => rfl
  | some y =>
    obtain ⟨h1, h2⟩ := find_some e
    unfold restH at h1
    unfold goneH at hx
    obtain ⟨h3, h4⟩ := List.mem_filter.1 h1
    obtain ⟨h5, h6⟩ := List.mem_filter.1 hx
    have := srt_one h h5 h3 h2
    subst this
    rw [h6] at h4
    cases h4
theorem len_parts (m : Int) : ∀ hs : List Hd, (restH m hs).length + (goneH m hs).length = hs.length
  | [] => rfl
  | h :: r => by
    have ih := len_parts m r
    unfold restH goneH at ih ⊢
    cases he : endB m h <;> simp [he] <;> omega
theorem gone_til {hs : List Hd} {m : Int} {x : Hd} (hx : x ∈ goneH m hs) : x.til ≤ m := by
  unfold goneH endB at hx
  exact of_decide_eq_true (List.mem_filter.1 hx).2
theorem rest_til {hs : List Hd} {m : Int} {x : Hd} (hx : x ∈ restH m hs) : ¬ x.til ≤ m := by
  unfold restH endB at hx
  have := (List.mem_filter.1 hx).2
  simpa using this
theorem srt_rest {hs : List Hd} (h : SrtH hs) (m : Int) : SrtH (restH m hs) := h.sub List.filter_sublist
theorem head_drop {rs : List Hd} (h : SrtH rs) {k : Nat} {x : Hd} (hx : rs[k]? = some x) : findH (rs.drop k) x.id = some x ∧ dropH (rs.drop k) x.id = rs.drop (k + 1) := by
  have hk := (List.getElem?_eq_some_iff.1 hx).1
  have hxe := (List.getElem?_eq_some_iff.1 hx).2
  have h1 : rs.drop k = x :: rs.drop (k + 1) := by rw [List.drop_eq_getElem_cons hk, hxe]
  have hsub : SrtH (x :: rs.drop (k + 1)) := by rw [← h1]; exact h.sub (List.drop_sublist k rs)
  rw [h1]
  refine ⟨(find_iff hsub.ids _ _).2 ⟨by simp, rfl⟩, ?_⟩
  unfold dropH
  rw [List.filter_cons]
  simp only [decide_true, Bool.not_true, Bool.false_eq_true, if_false]
  rw [List.filter_eq_self]
  intro y hy
  have hn := hsub.ids
  rw [List.map_cons, List.nodup_cons] at hn
  have : y.id ≠ x.id := fun e => hn.1 (List.mem_map.2 ⟨y, hy, e⟩)
  simpa using this
theorem til_le {rs : List Hd} (h : SrtH rs) {k : Nat} {x y : Hd} (hx : rs[k]? = some x) (hy : rs[k + 1]? = some y) : x.til ≤ y.til := by
  have ho := h.ord
  rw [List.pairwise_iff_getElem] at ho
  obtain ⟨h1, rfl⟩ := List.getElem?_eq_some_iff.1 hx
  obtain ⟨h2, rfl⟩ := List.getElem?_eq_some_iff.1 hy
  have := ho k (k + 1) h1 h2 (by omega)
  unfold ltH at this
  omega
theorem con_at {hs zs : List Hd} (h : zs.map conH = hs.map conH) {k : Nat} {z : Hd} (hz : zs[k]? = some z) : ∃ x, hs[k]? = some x ∧ z.id = x.id ∧ z.til = x.til := by
  have h1 : (zs.map conH)[k]? = some (conH z) := by rw [List.getElem?_map, hz]; rfl
  rw [h, List.getElem?_map] at h1
  cases hx : hs[k]? with
  | none => rw [hx] at h1; cases h1
  | some x =>
    rw [hx] at h1
    obtain ⟨e1, _, _, _, e2⟩ := con_facts (Option.some.inj h1).symm
    exact ⟨x, rfl, e1, e2⟩
theorem row_at {R : Nat → Prop} {α : Type} {sz : Nat} {enc : α → List Value} {w : World} {A : Option Addr} {l : List α} (h : RowIn R sz enc w A l) {k : Nat} {x : α} (hx : l[k]? = some x) : ∃ b o, A = some ⟨b, o, none⟩ ∧ R b ∧ ∀ i y j u, l[i]? = some y → (enc y)[j]? = some u → w.cell? ⟨b, o + i * sz + j, none⟩ = some u := by
  rcases h with h | ⟨b, o, e, h1, _, h2⟩
  · rw [h] at hx; cases hx
  · exact ⟨b, o, e, h1, h2⟩
theorem sw_cell {w5 : World} {a : Addr} {x : Value} (hc : w5.cell? a = some x) : ∀ W, SW w5 W → W.cell? a = some x := fun W h => bel_cell h hc
set_option maxRecDepth 100000 in
set_option maxHeartbeats 32000000 in
theorem holdExpires_walk (A : Option Addr) (c : Nat) (l : List Hd) (m : Int) (w : World) (hL : RowL 5 encH w (.slice A l.length c) l) (hrd : ∀ x ∈ l, RdH w x) :
    Calls Try.prog 5 #[.slice A l.length c, .int .i64 m] w fun e w' => e = .returned (.bool true) ∧ Below w.heap.size w w' := by
  have KA := Lib.hid awake16_any
  have KN := Lib.hid new_any
  have HL := Lib.hid hL
  have HRD := Lib.hid hrd
  clear hL hrd
  by_cases hl : 20 < l.length
  · have j1 : (20 : Int) < (l.length : Int) := by omega
    go_enter Try.func5, Try.ntmps5
    go_wp2_with (go_at_call 8; (with_reducible refine (KA.out _).mono ?_); rintro e w9 ⟨rfl, hb9⟩)
    go_ret
    exact ⟨rfl, hb9⟩
  · have j1 : ¬ (20 : Int) < (l.length : Int) := by omega
    go_enter Try.func5, Try.ntmps5
    go_upto_region 4 with (go_at_call 9; (with_reducible refine (KN.out _).mono ?_); rintro e w2 ⟨B, mb, rfl, hS, hB1, hm1, hm2, hb2⟩)
    have HB2 : Hid (Below w.heap.size w w2 ∧ w.heap.size ≤ mb) := Lib.hid ⟨hb2, hm1⟩
    have HS0 := Lib.hid hS
    clear hb2 hm1 hm2 hB1 hS
    go_wp2
    go_loopw [6] (fun vi wr => ∃ k : Nat, k ≤ l.length ∧ vi = .int .i64 k ∧ Hid (∃ hs, HldAt wr B mb k hs ∧ But w2 wr (fun k => k = mb))) (fun vi _ => l.length - (intOf vi).toNat)
    case atStart => exact ⟨0, Nat.zero_le _, rfl, Lib.hid ⟨[], HS0.out, But.refl _ _⟩⟩
    case round =>
      obtain ⟨k, hk, rfl, HI⟩ := hrel
      obtain ⟨hs, hS, hbt⟩ := HI.out
      have hbw : Below w.heap.size w wr := HB2.out.1.trans (hbt.below HB2.out.1.size (fun t ht e => by have := HB2.out.2; omega))
      by_cases hlt : k < l.length
      · obtain ⟨x, hx⟩ : ∃ x, l[k]? = some x := ⟨_, List.getElem?_eq_getElem hlt⟩
        obtain ⟨b, o, rfl, _, hc⟩ := row_get (RowL.more HL.out hbw) hx
        have x0 := hc 0 _ rfl
        have x1 := hc 1 _ rfl
        have x2 := hc 2 _ rfl
        have x3 := hc 3 _ rfl
        have x4 := hc 4 _ rfl
        rw [Nat.add_zero] at x0
        have i1 : (0 : Int) ≤ (k : Int) := by omega
        have i2 : (k : Int) < (l.length : Int) := by omega
        have wr1 : IntKind.i64.wrap ((k : Int) + 1) = (k : Int) + 1 := IntWalk.i64_in _ (by omega)
        have hr := HRD.out x (List.mem_of_getElem? hx)
        by_cases h8 : 8 < x.l.length
        · have j8 : (8 : Int) < (x.l.length : Int) := by omega
          have HBW := Lib.hid hbw
          clear hc hx hS hbt hbw HI hr
          go_wp2_with (go_at_call 8; (with_reducible refine (KA.out _).mono ?_); rintro e w9 ⟨rfl, hb9⟩)
          go_ret
          exact ⟨rfl, HBW.out.trans (hb9.mono HBW.out.size)⟩
        · have j8 : ¬ (8 : Int) < (x.l.length : Int) := by omega
          have KP := Lib.hid (put_any x wr hS (by omega) (hr.ok (by omega)) (((rowIn_of hr.row).more hbw).imp (fun t ht e => by have := HB2.out.2; omega)))
          have HBT := Lib.hid hbt
          clear hc hx hS hbt hbw HI hr
          go_wp2_with (go_at_call 11; (with_reducible refine KP.out.mono ?_); rintro e w9 ⟨rfl, ⟨A', c', hS9⟩, hb9⟩)
          have HE : Hid (∃ hs, HldAt w9 B mb (k + 1) hs ∧ But w2 w9 (fun k => k = mb)) := Lib.hid ⟨_, hS9, HBT.out.trans hb9 (fun _ _ h => h)⟩
          clear hS9 hb9
          go_roundw
          case rel => exact ⟨k + 1, by omega, by go_num, HE⟩
          case measure => simp [intOf]; omega
      · obtain rfl : k = l.length := by omega
        have i2 : ¬ (l.length : Int) < (l.length : Int) := by omega
        have KL := Lib.hid (all_any wr hS (by omega))
        have HS := Lib.hid hS
        have HSR := Lib.hid hS.srt
        have HBT := Lib.hid hbt
        have HBW := Lib.hid hbw
        clear hS hbt hbw HI
        unfold AllR at KL
        go_upto_region 11 with (go_at_call 23; (with_reducible refine KL.out.mono ?_); rintro e w4 ⟨A4, c4, zs, rfl, hzr, hzc, hzl, ⟨hz20, _⟩, hb4⟩)
        have hzn : zs.length = hs.length := by have := congrArg List.length hzc; simpa using this
        have HZN := Lib.hid hzn
        have hS4 := HS.out.more hb4
        have hmb4 : mb < w4.heap.size := hS4.map.lt
        have KX := Lib.hid (exp_any m w4 hS4 (by omega))
        have HB4 : Hid (Below w.heap.size w w4) := Lib.hid (HBW.out.trans (hb4.mono HBW.out.size))
        clear hzr hzc hzl hS4 hb4 KL hzn
        unfold ExpR at KX
        go_upto_region 12 with (go_at_call 19; (with_reducible refine KX.out.mono ?_); rintro e w5 ⟨⟨A5, c5, rfl, hgr, hgi⟩, hS5, hb5⟩)
        have HP := Lib.hid (len_parts m hs)
        have HGN : Hid (∀ x ∈ goneH m hs, findH (restH m hs) x.id = none ∧ x.til ≤ m ∧ (-9223372036854775808 ≤ x.id ∧ x.id ≤ 9223372036854775807)) := Lib.hid (fun x hx => ⟨gone_not HSR.out hx, gone_til hx, by
          have := (HS.out.ok x (by unfold goneH at hx; exact (List.mem_filter.1 hx).1)).1
          exact ⟨this.i0, this.i1⟩⟩)
        have HRT : Hid (∀ x ∈ restH m hs, ¬ x.til ≤ m ∧ (-9223372036854775808 ≤ x.id ∧ x.id ≤ 9223372036854775807)) := Lib.hid (fun x hx => ⟨rest_til hx, by
          have := (HS.out.ok x (by unfold restH at hx; exact (List.mem_filter.1 hx).1)).1
          exact ⟨this.i0, this.i1⟩⟩)
        have HSS := Lib.hid (srt_rest HSR.out m)
        have HGI : Hid (RowIn (fun t => t ≠ mb) 5 encH w5 A5 (goneH m hs)) := Lib.hid (hgi.imp (fun t ht => by omega))
        have HS5 := Lib.hid hS5
        have HB5 : Hid (Below w.heap.size w w5) := Lib.hid (HB4.out.trans (hb5.below HB4.out.size (fun t ht e => by have := HB2.out.2; omega)))
        generalize goneH m hs = gs at *
        generalize restH m hs = rs at *
        have hg20 : gs.length ≤ 1000 := by have := HP.out; have := HZN.out; omega
        have hr20 : rs.length ≤ 1000 := by have := HP.out; have := HZN.out; omega
        clear hgr hgi hS5 hb5 KX
        go_wp2
        go_loopw [9] (fun vi wq => ∃ k : Nat, k ≤ gs.length ∧ vi = .int .i64 k ∧ Hid (HldAt wq B mb l.length rs ∧ But w5 wq (fun k => k = mb))) (fun vi _ => gs.length - (intOf vi).toNat)
        case atStart => exact ⟨0, Nat.zero_le _, rfl, Lib.hid ⟨HS5.out, But.refl _ _⟩⟩
        case round =>
          obtain ⟨k, hk, rfl, HI⟩ := hrel
          obtain ⟨w6, rfl⟩ : ∃ w6, w6 = wr := ⟨_, rfl⟩
          by_cases hlt : k < gs.length
          · obtain ⟨x, hx⟩ : ∃ x, gs[k]? = some x := ⟨_, List.getElem?_eq_getElem hlt⟩
            obtain ⟨b, o, rfl, hbm, hc⟩ := row_at HGI.out hx
            have hcc : ∀ W, But w5 W (fun k => k = mb) → ∀ j u, (encH x)[j]? = some u → W.cell? ⟨b, o + k * 5 + j, none⟩ = some u := fun W h j u hu => but_cell h (hc k x j u hx hu) hbm
            have x0 := hcc _ HI.out.2 0 _ rfl
            rw [Nat.add_zero] at x0
            have i1 : (0 : Int) ≤ (k : Int) := by omega
            have i3 : (k : Int) < (gs.length : Int) := by omega
            have wr1 : IntKind.i64.wrap ((k : Int) + 1) = (k : Int) + 1 := IntWalk.i64_in _ (by omega)
            obtain ⟨hfn, htl, hid⟩ := HGN.out x (List.mem_of_getElem? hx)
            have hd := drop_any x.id w6 HI.out.1 hid
            unfold dropE at hd
            rw [hfn, drop_none hfn] at hd
            have KD : Hid (Calls Try.prog 13 #[.pointer (some ⟨B, 0, none⟩), .int .i64 x.id] w6 fun e w' => e = .returned (.tuple #[zH, .int .i64 7]) ∧ HldAt w' B mb l.length rs ∧ But w5 w' (fun k => k = mb)) := Lib.hid (hd.mono (by
              rintro e w' ⟨rfl, h1, h2⟩
              exact ⟨rfl, h1, HI.out.2.trans h2 (fun _ _ h => h)⟩))
            have HCC := Lib.hid hcc
            have ht2 : ¬ m < x.til := by omega
            clear hc hcc hx hd hfn htl hid
            go_upto_region 16 with (go_at_call 13; (with_reducible refine KD.out.mono ?_); rintro e w7 ⟨rfl, hS7, hb7⟩)
            have x4 := bel_cell (bel_alloc w7 (.cells #[.int .i64 0, .slice none 0 0, .string noB, .int .i64 0, .int .i64 0] hdT)) (HCC.out _ hb7 4 _ rfl)
            have HE : Hid (HldAt (w7.alloc (.cells #[.int .i64 0, .slice none 0 0, .string noB, .int .i64 0, .int .i64 0] hdT)) B mb l.length rs ∧ But w5 (w7.alloc (.cells #[.int .i64 0, .slice none 0 0, .string noB, .int .i64 0, .int .i64 0] hdT)) (fun k => k = mb)) := Lib.hid ⟨hS7.more (bel_alloc w7 (.cells #[.int .i64 0, .slice none 0 0, .string noB, .int .i64 0, .int .i64 0] hdT)), hb7.trans (But.of_below (bel_alloc w7 (.cells #[.int .i64 0, .slice none 0 0, .string noB, .int .i64 0, .int .i64 0] hdT))) (fun _ _ h => h)⟩
            clear x0 hS7 hb7
            go_wp2
            go_roundw
            case rel => exact ⟨k + 1, by omega, by go_num, HE⟩
            case measure => simp [intOf]; omega
          · obtain rfl : k = gs.length := by omega
            have i3 : ¬ (gs.length : Int) < (gs.length : Int) := by omega
            have KL2 := Lib.hid (all_any w6 HI.out.1 (by omega))
            unfold AllR at KL2
            have HBT6 : Hid (Below w.heap.size w w6) := Lib.hid (HB5.out.trans (HI.out.2.below HB5.out.size (fun t ht e => by have := HB2.out.2; omega)))
            have HSX := Lib.hid HI.out.1
            clear HI
            go_upto_region 19 with (go_at_call 23; (with_reducible refine KL2.out.mono ?_); rintro e w7 ⟨A7, c7, ys, rfl, hyr, hyc, hyl, ⟨hy20, hyi⟩, hb7⟩)
            have hyn : ys.length = rs.length := by have := congrArg List.length hyc; simpa using this
            have hsum : IntKind.i64.wrap ((ys.length : Int) + (gs.length : Int)) = (zs.length : Int) := by rw [IntWalk.i64_in _ (by omega)]; have := HP.out; have := HZN.out; omega
            have hS7 := HSX.out.more hb7
            have hmb6 : mb < w6.heap.size := HSX.out.map.lt
            have HYI : Hid (RowIn (fun t => t ≠ mb) 5 encH w7 A7 ys) := Lib.hid (hyi.imp (fun t ht => by omega))
            have HYC := Lib.hid hyc
            have HYN := Lib.hid hyn
            have HB7 : Hid (Below w.heap.size w w7) := Lib.hid (HBT6.out.trans (hb7.mono HBT6.out.size))
            have HS7 : Hid (HldAt w7 B mb l.length (rs.drop 0)) := Lib.hid (by rw [List.drop_zero]; exact hS7)
            clear hyr hyc hyl hyi hb7 hS7 KL2 hyn hmb6
            go_wp2
            go_loopw [13] (fun vi wq => ∃ k : Nat, k ≤ ys.length ∧ vi = .int .i64 k ∧ Hid (HldAt wq B mb l.length (rs.drop k) ∧ But w7 wq (fun k => k = mb))) (fun vi _ => ys.length - (intOf vi).toNat)
            case atStart => exact ⟨0, Nat.zero_le _, rfl, Lib.hid ⟨HS7.out, But.refl _ _⟩⟩
            case round =>
              obtain ⟨k, hk, rfl, HI⟩ := hrel
              obtain ⟨w8, rfl⟩ : ∃ w8, w8 = wr := ⟨_, rfl⟩
              by_cases hlt : k < ys.length
              · obtain ⟨z, hz⟩ : ∃ z, ys[k]? = some z := ⟨_, List.getElem?_eq_getElem hlt⟩
                obtain ⟨x, hx, ez, et⟩ := con_at HYC.out hz
                obtain ⟨b, o, rfl, hbm, hc⟩ := row_at HYI.out hz
                have hcc : ∀ W, But w7 W (fun k => k = mb) → ∀ i y j u, ys[i]? = some y → (encH y)[j]? = some u → W.cell? ⟨b, o + i * 5 + j, none⟩ = some u := fun W h i y j u hi hu => but_cell h (hc i y j u hi hu) hbm
                have x0 := hcc _ HI.out.2 k z 0 _ hz rfl
                rw [Nat.add_zero, ez] at x0
                have i1 : (0 : Int) ≤ (k : Int) := by omega
                have i3 : (k : Int) < (ys.length : Int) := by omega
                have wr1 : IntKind.i64.wrap ((k : Int) + 1) = (k : Int) + 1 := IntWalk.i64_in _ (by omega)
                obtain ⟨htl, hid⟩ := HRT.out x (List.mem_of_getElem? hx)
                obtain ⟨hfn, hdr⟩ := head_drop HSS.out hx
                have hd := drop_any x.id w8 HI.out.1 hid
                unfold dropE at hd
                rw [hfn, hdr] at hd
                have KD : Hid (Calls Try.prog 13 #[.pointer (some ⟨B, 0, none⟩), .int .i64 x.id] w8 fun e w' => e = .returned (.tuple #[aggH x, .int .i64 0]) ∧ HldAt w' B mb l.length (rs.drop (k + 1)) ∧ But w7 w' (fun k => k = mb)) := Lib.hid (hd.mono (by
                  rintro e w' ⟨rfl, h1, h2⟩
                  exact ⟨rfl, h1, HI.out.2.trans h2 (fun _ _ h => h)⟩))
                have HCC := Lib.hid hcc
                have ht2 : ¬ z.til ≤ m := by rw [et]; omega
                have hself : (x.id != x.id) = false := by simp
                have HZ := Lib.hid hz
                have HX := Lib.hid hx
                have HET := Lib.hid et
                have HEZ := Lib.hid ez
                have HT2 := Lib.hid ht2
                clear hc hcc hz hx hd hfn htl hid hdr et ez HI
                go_upto_region 25 with (go_at_call 13; (with_reducible refine KD.out.mono ?_); rintro e w9 ⟨rfl, hS9, hb9⟩)
                have hbA := bel_alloc w9 (.cells #[.int .i64 x.id, .slice x.A x.l.length x.c, .string x.cls, .int .i64 x.cnt, .int .i64 x.til] hdT)
                have x0 := bel_cell hbA (HCC.out _ hb9 k z 0 _ HZ.out rfl)
                have x4 := bel_cell hbA (HCC.out _ hb9 k z 4 _ HZ.out rfl)
                rw [Nat.add_zero, HEZ.out] at x0
                have u0 := hd_cells w9 x 0 _ rfl
                have HE : Hid (HldAt (w9.alloc (.cells #[.int .i64 x.id, .slice x.A x.l.length x.c, .string x.cls, .int .i64 x.cnt, .int .i64 x.til] hdT)) B mb l.length (rs.drop (k + 1)) ∧ But w7 (w9.alloc (.cells #[.int .i64 x.id, .slice x.A x.l.length x.c, .string x.cls, .int .i64 x.cnt, .int .i64 x.til] hdT)) (fun k => k = mb)) := Lib.hid ⟨hS9.more hbA, hb9.trans (But.of_below hbA) (fun _ _ h => h)⟩
                have HEd : ∀ n, Hid (HldAt ((w9.alloc (.cells #[.int .i64 x.id, .slice x.A x.l.length x.c, .string x.cls, .int .i64 x.cnt, .int .i64 x.til] hdT)).drewN n) B mb l.length (rs.drop (k + 1)) ∧ But w7 ((w9.alloc (.cells #[.int .i64 x.id, .slice x.A x.l.length x.c, .string x.cls, .int .i64 x.cnt, .int .i64 x.til] hdT)).drewN n) (fun k => k = mb)) := fun n => Lib.hid ⟨HE.out.1.more (below_drewN (Below.refl _ _) n), HE.out.2.trans (But.of_below (below_drewN (Below.refl _ _) n)) (fun _ _ h => h)⟩
                by_cases hk0 : k = 0
                · subst hk0
                  have i0 : ¬ (0 : Int) < ((0 : Nat) : Int) := by omega
                  clear hS9 hb9 hbA
                  generalize w9.alloc (.cells #[.int .i64 x.id, .slice x.A x.l.length x.c, .string x.cls, .int .i64 x.cnt, .int .i64 x.til] hdT) = w10 at *
                  simp only [Nat.zero_mul, Nat.add_zero] at x0 x4
                  have g0 : decide (z.til ≤ m) = false := decide_eq_false (by have := HT2.out; omega)
                  have g1 : decide ((0 : Int) < ((0 : Nat) : Int)) = false := by simp
                  have g2 : ((0 : Int) != (0 : Int)) = false := by simp
                  clear i0 ht2
                  go_wp2
                  go_quiet (fail)
                  go_wp2
                  go_roundw
                  case rel => exact ⟨0 + 1, by omega, by go_num, HEd _⟩
                  case measure => simp [intOf]; omega
                · obtain ⟨k', rfl⟩ : ∃ k', k = k' + 1 := ⟨k - 1, by omega⟩
                  have i0 : (0 : Int) < ((k' + 1 : Nat) : Int) := by omega
                  have i5 : ((k' + 1 : Nat) : Int) - 1 = (k' : Int) := by omega
                  have wk : IntKind.i64.wrap (k' : Int) = (k' : Int) := IntWalk.i64_in _ (by omega)
                  have n1 : (0 : Int) ≤ (k' : Int) := by omega
                  have n3 : (0 : Int) ≤ (k' : Int) + 1 := by omega
                  have n4 : (k' : Int) + 1 < (ys.length : Int) := by omega
                  have n5 : (0 : Int) < (k' : Int) + 1 := by omega
                  have n6 : (k' : Int) + 1 - 1 = (k' : Int) := by omega
                  have n7 : ((k' : Int) + 1).toNat = k' + 1 := by omega
                  have n2 : (k' : Int) < (ys.length : Int) := by omega
                  obtain ⟨y, hy⟩ : ∃ y, ys[k']? = some y := ⟨_, List.getElem?_eq_getElem (by omega)⟩
                  have y4 := bel_cell hbA (HCC.out _ hb9 k' y 4 _ hy rfl)
                  have hle : ¬ z.til < y.til := by
                    obtain ⟨x', hx', _, e4⟩ := con_at HYC.out hy
                    have := til_le HSS.out hx' HX.out
                    rw [HET.out, e4]
                    omega
                  clear hS9 hb9 hbA hy
                  generalize w9.alloc (.cells #[.int .i64 x.id, .slice x.A x.l.length x.c, .string x.cls, .int .i64 x.cnt, .int .i64 x.til] hdT) = w10 at *
                  have g0 : decide (z.til ≤ m) = false := decide_eq_false (by have := HT2.out; omega)
                  have g1 : decide ((0 : Int) < (k' : Int) + 1) = true := decide_eq_true n5
                  have g2 : ((0 : Int) != (0 : Int)) = false := by simp
                  have g3 : decide (z.til < y.til) = false := decide_eq_false hle
                  clear ht2 n5 hle
                  go_wp2
                  go_quiet (fail)
                  go_wp2
                  go_roundw
                  case rel => exact ⟨k' + 1 + 1, by omega, by go_num, HEd _⟩
                  case measure => simp [intOf]; omega
              · obtain rfl : k = ys.length := by omega
                have i3 : ¬ (ys.length : Int) < (ys.length : Int) := by omega
                have hnil : rs.drop ys.length = [] := List.drop_eq_nil_iff.2 (by rw [HYN.out]; exact Nat.le_refl _)
                have hS8 := HI.out.1
                rw [hnil] at hS8
                have KL3 := Lib.hid (all_any w8 hS8 (by omega))
                unfold AllR at KL3
                have HB8 : Hid (Below w.heap.size w w8) := Lib.hid (HB7.out.trans (HI.out.2.below HB7.out.size (fun t ht e => by have := HB2.out.2; omega)))
                clear HI hS8 hnil
                go_wp2_with (first
                  | (go_at_call 23; (with_reducible refine KL3.out.mono ?_); rintro e w9 ⟨A9, c9, vs, rfl, hvr, hvc, hvl, _, hb9⟩; obtain rfl : vs = [] := List.map_eq_nil_iff.1 hvc)
                  | (go_at_call 8; (with_reducible refine (KA.out _).mono ?_); rintro e wd ⟨rfl, hbd⟩))
                go_ret
                have h9 := HB8.out.trans (hb9.mono HB8.out.size)
                exact ⟨rfl, h9.trans (hbd.mono h9.size)⟩
end Go.Proofs.Ythillkbcbklhaaa
