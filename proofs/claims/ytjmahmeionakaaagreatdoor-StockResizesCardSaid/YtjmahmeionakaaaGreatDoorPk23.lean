/- Words and walks that the laws below ask: StkNB. -/
import Derived.Test.YtjmahmeionakaaaGreatDoorPk22
/- The law StockLimits. -/
namespace Go.Proofs.YtjmahmeionakaaaGreatDoor
open Go.RowKit Go.Shelf Go.Maps Go.MapKept
set_option linter.unusedSimpArgs false
set_option linter.unusedVariables false

/-- what holds ahead of each call: the inventory, the six sums, what has stayed -/
def LimS (N : Nat) (R F : Nat → Prop) (B b7 : Nat) (cs l : List Cf) (acts : List Ac) (w3 : World) (k : Nat) (W : World) : Prop :=
  SesE N R F B k cs (127 * (k : Int)) W (limG cs l acts k) ∧ FitG (limG cs l acts k) ∧ (∃ L, WantOk L (limG cs l acts k) ∧ Row W b7 L) ∧ Below N w3 W
theorem Row.lv {N : Nat} {F : Nat → Prop} {w w' : World} {b : Nat} {L : List Int} (h : Row w b L) (hl : Lv N F w w') (hF : F b) : Row w' b L := h.but hl (fun hx => hx.2 hF)
theorem LimS.next {N : Nat} {R F : Nat → Prop} {B b7 : Nat} {cs l : List Cf} {acts : List Ac} {w3 W W' : World} {k : Nat} {a : Ac} {g' : Stk} {L : List Int} (ha : acts[k]? = some a) (hg : limD cs l (limG cs l acts k) a = g')
    (hS : SesE N R F B (k + 1) cs (127 * (k : Int) + 127) W' g') (hF : FitG g') (hw : WantOk L g') (hr : Row W' b7 L) (hb : Below N w3 W') : LimS N R F B b7 cs l acts w3 (k + 1) W' := by
  have e : limG cs l acts (k + 1) = g' := (limG_succ ha).trans hg
  unfold LimS
  rw [e, show (127 * ((k + 1 : Nat) : Int)) = 127 * (k : Int) + 127 by omega]
  exact ⟨hS, hF, ⟨L, hw, hr⟩, hb⟩
set_option maxRecDepth 100000 in
set_option maxHeartbeats 32000000 in
theorem stockLimits_walk (A : Option Addr) (c : Nat) (l : List Cf) (A2 : Option Addr) (c2 : Nat) (acts : List Ac) (w : World) (hv : CfL w (.slice A l.length c) l) (hok : SmallP l → ∀ f ∈ l, OkCf f) (hcap : l.length ≤ c) (hA : RowL 6 encA w (.slice A2 acts.length c2) acts) (hAo : ∀ a ∈ acts, OkA a) :
    Calls Tryz.prog 4 #[.slice A l.length c, .slice A2 acts.length c2] w fun e w' => e = .returned (.bool true) ∧ Below w.heap.size w w' := by
  have KA := Lib.hid awake15_any
  have KR := Lib.hid (right15_any A c l A2 c2 acts.length w hv hok)
  have KN : Hid (∀ W, SmallP l → conF l l.length = [] → Below w.heap.size w W → Calls Tryz.prog 12 #[.slice A l.length c] W fun e w' => ∃ B cs R, e = .returned (.tuple #[.pointer (some ⟨B, 0, none⟩), .slice none 0 0]) ∧ SesE W.heap.size R (fun _ => False) B 0 cs 0 w' S0 ∧ Below W.heap.size W w') := Lib.hid (fun W hs h0 hb => (new_any A c l W (hv.more hb) hs (hok hs) hcap).mono (by
    rintro e w' ⟨⟨_, h2⟩, hb⟩
    obtain ⟨B, cs, R, o, rfl, hS, hsam, hlow⟩ := h2 h0
    exact ⟨B, cs, R, rfl, ses_new hS hlow hb.size, hb⟩))
  have KD : Hid (∀ (N : Nat) (F : Nat → Prop) (B : Nat) cs R (k : Nat) (W : World) (g : Stk) (a : Ac), SmallP l → w.heap.size ≤ N → SesE N R F B k cs (127 * (k : Int)) W g → k ≤ 60 → Below w.heap.size w W → OkA a → Calls Tryz.prog 14 #[.pointer (some ⟨B, 0, none⟩), .slice A l.length c, aggA a] W fun e w' => e = .returned (.int .i64 (doE cs l g a)) ∧ SesE N R F B (k + 1) cs (127 * (k : Int) + 127) w' (doG cs l g a) ∧ Lv N F W w') := Lib.hid (fun N F B cs R k W g a hs hN hS hk hb ha => do_any hS ⟨by omega, by omega⟩ (by omega) (fun W' hW' => hv.more (hb.trans (hW'.mono hN))) (by have := hs.1; omega) (fun f hf => (hok hs f hf).equip) ha)
  have HA := Lib.hid hA
  have HAO := Lib.hid hAo
  clear hv hok hcap hA hAo
  go_enter Tryz.func4, Tryz.ntmps4
  go_upto_region 1 with fail
  go_upto_if 15 with (go_at_call 10; (with_reducible refine (KR.out).mono ?_); rintro e w1 ⟨b, rfl, hb, hb1⟩)
  cases b with
  | false =>
    clear hb
    go_wp2_with (go_at_call 11; (with_reducible refine (KA.out _).mono ?_); rintro e wd ⟨rfl, hbd⟩)
    go_ret
    exact ⟨rfl, hb1.trans (hbd.mono hb1.size)⟩
  | true =>
    obtain ⟨hs, hn, h0⟩ := hb rfl
    have KN2 := Lib.hid (KN.out w1 hs h0 hb1)
    have HSM := Lib.hid hs
    have HN60 := Lib.hid hn
    clear hb hs h0 KN KR
    go_upto_region 6 with (go_at_call 12; (with_reducible refine (KN2.out).mono ?_); rintro e w2 ⟨B, cs, R, rfl, hS, hb2⟩)
    have hb02 := hb1.trans (hb2.mono hb1.size)
    have hRl := hS.rlt
    have hal := bel_alloc w2 (.cells #[.int .i64 0, .int .i64 0, .int .i64 0, .int .i64 0, .int .i64 0, .int .i64 0] 40)
    have hz := heap_alloc_new w2 (.cells #[.int .i64 0, .int .i64 0, .int .i64 0, .int .i64 0, .int .i64 0, .int .i64 0] 40)
    obtain ⟨b7, hb7⟩ : ∃ b7, b7 = w2.heap.size := ⟨_, rfl⟩
    obtain ⟨F, hF⟩ : ∃ F : Nat → Prop, F = (fun k => False ∨ (w2.heap.size ≤ k ∧ k < (w2.alloc (.cells #[.int .i64 0, .int .i64 0, .int .i64 0, .int .i64 0, .int .i64 0, .int .i64 0] 40)).heap.size)) := ⟨_, rfl⟩
    have hS3 : SesE w1.heap.size R F B 0 cs 0 (w2.alloc (.cells #[.int .i64 0, .int .i64 0, .int .i64 0, .int .i64 0, .int .i64 0, .int .i64 0] 40)) S0 := by rw [hF]; exact hS.more hal
    have hFb : F b7 := by rw [hF, hb7]; exact .inr ⟨Nat.le_refl _, by simp⟩
    have hRb : ¬ R b7 := fun h => by have := hRl _ h; omega
    have hcs := hS.good.2
    have hrow : Row (w2.alloc (.cells #[.int .i64 0, .int .i64 0, .int .i64 0, .int .i64 0, .int .i64 0, .int .i64 0] 40)) b7 [0, 0, 0, 0, 0, 0] := by
      rw [hb7]
      refine ⟨fun k hk => ?_, fun k hk => frozen_of_row _ _ k _ _ hz, by simp⟩
      have h1 := cell_of_row _ _ k _ _ (0, 0) hz
      rw [h1]
      have hk6 : k < 6 := hk
      match k, hk6 with
      | 0, _ => rfl
      | 1, _ => rfl
      | 2, _ => rfl
      | 3, _ => rfl
      | 4, _ => rfl
      | 5, _ => rfl
    have HB7 : Hid (w1.heap.size ≤ b7) := Lib.hid (by rw [hb7]; exact hb2.size)
    have HFB := Lib.hid hFb
    have HRB := Lib.hid hRb
    have HCS := Lib.hid hcs
    have HB1 := Lib.hid hb1
    have HB3 : Hid (Below w.heap.size w (w2.alloc (.cells #[.int .i64 0, .int .i64 0, .int .i64 0, .int .i64 0, .int .i64 0, .int .i64 0] 40))) := Lib.hid (hb02.trans (hal.mono hb02.size))
    have H0 : Hid (LimS w1.heap.size R F B b7 cs l acts (w2.alloc (.cells #[.int .i64 0, .int .i64 0, .int .i64 0, .int .i64 0, .int .i64 0, .int .i64 0] 40)) 0 (w2.alloc (.cells #[.int .i64 0, .int .i64 0, .int .i64 0, .int .i64 0, .int .i64 0, .int .i64 0] 40))) := Lib.hid ⟨hS3, fun i q h => (by cases h), ⟨_, want_start (fun i => rfl), hrow⟩, Below.refl _ _⟩
    have HSZ3 : Hid (w1.heap.size ≤ (w2.alloc (.cells #[.int .i64 0, .int .i64 0, .int .i64 0, .int .i64 0, .int .i64 0, .int .i64 0] 40)).heap.size) := Lib.hid hS3.hN
    clear hF hS3 hFb hRb hcs hrow hz hal hRl hb02 hb2 hS hb1
    go_upto_region 7 with fail
    rw [← hb7]
    clear hb7
    generalize w2.alloc (.cells #[.int .i64 0, .int .i64 0, .int .i64 0, .int .i64 0, .int .i64 0, .int .i64 0] 40) = w3 at *
    go_wp2
    go_loopw [8] (fun vi wr => ∃ k : Nat, k ≤ acts.length ∧ vi = .int .i64 k ∧ Hid (LimS w1.heap.size R F B b7 cs l acts w3 k wr)) (fun vi _ => acts.length - (intOf vi).toNat)
    case atStart => exact ⟨0, Nat.zero_le _, rfl, H0⟩
    case round =>
      obtain ⟨k, hk, rfl, HI⟩ := hrel
      clear H0
      by_cases hlt : k < acts.length
      · obtain ⟨a, ha⟩ : ∃ a, acts[k]? = some a := ⟨_, List.getElem?_eq_getElem hlt⟩
        have hbr := HB3.out.trans (HI.out.2.2.2.mono HB1.out.size)
        obtain ⟨b, o, rfl, _, hc⟩ := row_get (RowL.more HA.out hbr) ha
        have x0 := hc 0 _ rfl
        have x1 := hc 1 _ rfl
        have x2 := hc 2 _ rfl
        have x3 := hc 3 _ rfl
        have x4 := hc 4 _ rfl
        have x5 := hc 5 _ rfl
        rw [Nat.add_zero] at x0
        have i1 : (0 : Int) ≤ (k : Int) := by omega
        have i2 : (k : Int) < (acts.length : Int) := by omega
        have wr1 : IntKind.i64.wrap ((k : Int) + 1) = (k : Int) + 1 := IntWalk.i64_in _ (by have := HN60.out; omega)
        have hoa := HAO.out a (List.mem_of_getElem? ha)
        have HKA := Lib.hid ha
        clear ha hc
        go_upto_region 11 with fail
        have hbA := bel_alloc wr (.cells #[.int .u8 a.kind, .int .u8 a.leg, .int .u8 a.more, .int .u8 a.equ, .int .u8 a.cls, .int .i8 a.n] actT)
        have hcA := act_cells wr a
        have hzA : wr.heap.size < (wr.alloc (.cells #[.int .u8 a.kind, .int .u8 a.leg, .int .u8 a.more, .int .u8 a.equ, .int .u8 a.cls, .int .i8 a.n] actT)).heap.size := by simp
        have q0 := hcA 0 _ rfl
        obtain ⟨G, hG⟩ : ∃ G, G = limG cs l acts k := ⟨_, rfl⟩
        have hIS := HI.out.1
        have hIF := HI.out.2.1
        have hIR := HI.out.2.2.1
        have hIB := HI.out.2.2.2
        have HNX : Hid (∀ (W' : World) (g' : Stk) (L : List Int), limD cs l G a = g' → SesE w1.heap.size R F B (k + 1) cs (127 * (k : Int) + 127) W' g' → FitG g' → WantOk L g' → Row W' b7 L → Below w1.heap.size w3 W' → LimS w1.heap.size R F B b7 cs l acts w3 (k + 1) W') := Lib.hid (fun W' g' L h1 h2 h3 h4 h5 h6 => LimS.next (W := wr) HKA.out (by rw [← hG]; exact h1) h2 h3 h4 h5 h6)
        rw [← hG] at hIS hIF hIR
        clear hG
        obtain ⟨j, hj, hm, he⟩ := u8_mod hoa.kind 7 ⟨by omega, by omega⟩
        have hm : a.kind.tmod 7 = (j : Int) := hm
        have he : a.kind % 7 = (j : Int) := he
        have kwj : IntKind.u8.wrap (j : Int) = (j : Int) := by unfold IntKind.wrap; simp [IntKind.bits, IntKind.signed]; omega
        obtain ⟨L, hLw, hLr⟩ := hIR
        have HNEB : Hid (b7 < wr.heap.size) := Lib.hid hLr.lt
        by_cases j6 : j = 6
        · have b6 : ((j : Int) == 6) = true := by rw [j6]; rfl
          have HE : Hid (LimS w1.heap.size R F B b7 cs l acts w3 (k + 1) (wr.alloc (.cells #[.int .u8 a.kind, .int .u8 a.leg, .int .u8 a.more, .int .u8 a.equ, .int .u8 a.cls, .int .i8 a.n] actT))) := Lib.hid (HNX.out _ G L (by unfold limD; rw [if_pos (by omega)]) (((hIS.grow hbA).mono (by omega)).monoN (by omega)) hIF hLw (hLr.more hbA) (hIB.trans (hbA.mono (Nat.le_trans HSZ3.out hIB.size))))
          clear hIS hIF hIB hLw hLr j6 he HNX hbr
          go_wp2
          go_roundw
          case rel => exact ⟨k + 1, by omega, by go_num, HE⟩
          case measure => simp [intOf]; omega
        · have b6 : ((j : Int) == 6) = false := by rw [beq_eq_false_iff_ne]; omega
          have h6 : a.kind % 7 ≠ 6 := by omega
          have hS5 := hIS.more hbA
          obtain ⟨F1, hF1⟩ : ∃ F1 : Nat → Prop, F1 = (fun k => F k ∨ (wr.heap.size ≤ k ∧ k < (wr.alloc (.cells #[.int .u8 a.kind, .int .u8 a.leg, .int .u8 a.more, .int .u8 a.equ, .int .u8 a.cls, .int .i8 a.n] actT)).heap.size)) := ⟨_, rfl⟩
          rw [← hF1] at hS5
          have hFA : F1 wr.heap.size := by rw [hF1]; exact .inr ⟨Nat.le_refl _, hzA⟩
          have hFF : ∀ k, F k → F1 k := fun k h => by rw [hF1]; exact .inl h
          clear hF1
          have KDo := Lib.hid (KD.out _ F1 B cs R k _ G a HSM.out HB1.out.size hS5 (by have := HN60.out; omega) (hbr.trans (hbA.mono hbr.size)) hoa)
          have hsumA := do_sum (l := l) hIS.good.1 HCS.out (by omega) (a := a) h6
          have hfitA := do_fit (l := l) hIS.good.1 HCS.out hIF (a := a) h6
          have hidsA := mov_ids (cs := cs) (l := l) (g := G) (a := a) h6
          have hmv : movB cs l G a = (decide (doE cs l G a = 0) && !decide ((j : Int) = 0) && !decide ((j : Int) = 1)) := by unfold movB; rw [he]
          have hlimA : limD cs l G a = doG cs l G a := by unfold limD; rw [if_neg h6]
          have HNX2 : Hid (∀ (W' : World) (L : List Int), SesE w1.heap.size R F B (k + 1) cs (127 * (k : Int) + 127) W' (doG cs l G a) → WantOk L (doG cs l G a) → Row W' b7 L → Below w1.heap.size w3 W' → LimS w1.heap.size R F B b7 cs l acts w3 (k + 1) W') := Lib.hid (fun W' L h2 h4 h5 h6 => HNX.out W' _ L hlimA h2 hfitA h4 h5 h6)
          have HB5 : Hid (Below w1.heap.size w3 (wr.alloc (.cells #[.int .u8 a.kind, .int .u8 a.leg, .int .u8 a.more, .int .u8 a.equ, .int .u8 a.cls, .int .i8 a.n] actT))) := Lib.hid (hIB.trans (hbA.mono (Nat.le_trans HSZ3.out hIB.size)))
          have hN5 := hS5.hN
          have hR5 := hLr.more hbA
          have hbyA : byA a = if (j : Int) = 5 then -a.n else a.n := by unfold byA; rw [he]
          have hKsum : ∀ i, 0 ≤ sumG G i ∧ sumG G i ≤ 1000000 := fun i => by have := hIS.good.1.sumB (by omega) i; have := HN60.out; omega
          generalize doE cs l G a = E at *
          generalize hMV : movB cs l G a = MV at *
          generalize doG cs l G a = G2 at *
          clear hIS hIF hIB hLr he HNX hbr hS5 hlimA hfitA hMV
          have HC0 : Hid (∀ W', Lv w1.heap.size F1 (wr.alloc (.cells #[.int .u8 a.kind, .int .u8 a.leg, .int .u8 a.more, .int .u8 a.equ, .int .u8 a.cls, .int .i8 a.n] actT)) W' → ∀ j u, (encA a)[j]? = some u → W'.cell? ⟨wr.heap.size, j, none⟩ = some u) := Lib.hid (fun W' h j u hu => h.cell (hcA j u hu) (.inl hFA))
          generalize wr.alloc (.cells #[.int .u8 a.kind, .int .u8 a.leg, .int .u8 a.more, .int .u8 a.equ, .int .u8 a.cls, .int .i8 a.n] actT) = w5 at *
          have KDo2 : Hid (Calls Tryz.prog 14 #[.pointer (some ⟨B, 0, none⟩), .slice A l.length c, aggA a] w5 fun e w' => e = .returned (.int .i64 E) ∧ SesE w1.heap.size R F B (k + 1) cs (127 * (k : Int) + 127) w' G2 ∧ Row w' b7 L ∧ Below w1.heap.size w3 w' ∧ (∀ j u, (encA a)[j]? = some u → w'.cell? ⟨wr.heap.size, j, none⟩ = some u)) := Lib.hid (KDo.out.mono (by
            rintro e w' ⟨rfl, hS6, hl6⟩
            exact ⟨rfl, hS6.less hFF, hR5.lv hl6 (hFF _ HFB.out), HB5.out.trans (hl6.below hN5), HC0.out _ hl6⟩))
          have q1 := hcA 1 _ rfl
          have q2 := hcA 2 _ rfl
          have q3 := hcA 3 _ rfl
          have q4 := hcA 4 _ rfl
          have q5 := hcA 5 _ rfl
          clear KDo hR5 hbA hcA HC0 x0 x1 x2 x3 x4 x5
          cases MV with
          | false =>
            have hw2 : WantOk L G2 := hLw.same (fun i => by rw [hsumA i]; simp)
            have HW2 := Lib.hid hw2
            clear hsumA hidsA hLw hw2 hbyA
            by_cases e0 : E = 0
            · have e0b : (E != 0) = false := by rw [e0]; rfl
              have j1 : (j : Int) < 2 := by
                rw [e0] at hmv
                by_cases n0 : (j : Int) = 0
                · omega
                · by_cases n1 : (j : Int) = 1
                  · omega
                  · rw [decide_eq_false n0, decide_eq_false n1] at hmv
                    exact absurd hmv (by decide)
              clear e0 hmv
              go_wp2_with (go_at_call 14; (with_reducible refine (KDo2.out).mono ?_); rintro e w6 ⟨rfl, hS6, hr6, hb6, hc6⟩; have q0 := hc6 0 _ rfl; have HE : Hid (LimS w1.heap.size R F B b7 cs l acts w3 (k + 1) w6) := Lib.hid (HNX2.out _ L hS6 HW2.out hr6 hb6); clear hS6 hr6 hb6 hc6)
              go_roundw
              case rel => exact ⟨k + 1, by omega, by go_num, HE⟩
              case measure => simp [intOf]; omega
            · have e0b : (E != 0) = true := by simpa using e0
              clear e0 hmv
              go_wp2_with (go_at_call 14; (with_reducible refine (KDo2.out).mono ?_); rintro e w6 ⟨rfl, hS6, hr6, hb6, hc6⟩; have q0 := hc6 0 _ rfl; have HE : Hid (LimS w1.heap.size R F B b7 cs l acts w3 (k + 1) w6) := Lib.hid (HNX2.out _ L hS6 HW2.out hr6 hb6); clear hS6 hr6 hb6 hc6)
              go_roundw
              case rel => exact ⟨k + 1, by omega, by go_num, HE⟩
              case measure => simp [intOf]; omega
          | true =>
            obtain ⟨hne, hnd⟩ := hidsA rfl
            have hmv2 := hmv.symm
            simp only [Bool.and_eq_true, decide_eq_true_eq, Bool.not_eq_true', decide_eq_false_iff_not] at hmv2
            obtain ⟨⟨e0, n0⟩, n1⟩ := hmv2
            have e0b : (E != 0) = false := by rw [e0]; rfl
            have j2 : ¬ (j : Int) < 2 := by omega
            have hs2 : ∀ i, sumG G2 i = sumG G i + if i ∈ idsK a then byA a else 0 := fun i => by rw [hsumA i]; simp
            clear e0 hmv hsumA hidsA n0 n1
            obtain ⟨jl, hjl, hml, hel⟩ := u8_mod hoa.leg 6 ⟨by omega, by omega⟩
            have hml : a.leg.tmod 6 = (jl : Int) := hml
            have hel : a.leg % 6 = (jl : Int) := hel
            have kwl : IntKind.u8.wrap (jl : Int) = (jl : Int) := by unfold IntKind.wrap; simp [IntKind.bits, IntKind.signed]; omega
            have il1 : (0 : Int) ≤ (jl : Int) := by omega
            have il2 : (jl : Int) < 6 := by omega
            have hLx := hLw.get a.leg hoa.leg.1
            have hbx := hKsum (idK a.leg)
            have hq : 0 ≤ a.more / 4 ∧ a.more / 4 ≤ 255 := by have := hoa.more; omega
            have hrt : a.more.tmod 4 = a.more % 4 := Int.tmod_eq_emod_of_nonneg hoa.more.1
            have hrw : IntKind.u8.wrap (a.more % 4) = a.more % 4 := by unfold IntKind.wrap; simp [IntKind.bits, IntKind.signed]; have := hoa.more; omega
            have hqt : a.more.tdiv 4 = a.more / 4 := Int.tdiv_eq_ediv_of_nonneg hoa.more.1
            have hqw : IntKind.u8.wrap (a.more / 4) = a.more / 4 := by unfold IntKind.wrap; simp [IntKind.bits, IntKind.signed]; have := hoa.more; omega
            have han := hoa.n
            have wn : IntKind.i64.wrap a.n = a.n := IntWalk.i64_in _ (by omega)
            have wnn : IntKind.i64.wrap (-a.n) = -a.n := IntWalk.i64_in _ (by omega)
            have hLx : L[jl]? = some (sumG G (idK a.leg)) := by
              have h := hLx
              rw [show (a.leg % 6).toNat = jl by omega] at h
              exact h
            obtain ⟨x, hx⟩ : ∃ x, x = sumG G (idK a.leg) := ⟨_, rfl⟩
            rw [← hx] at hLx hbx
            have hjL : jl < L.length := (List.getElem?_eq_some_iff.1 hLx).1
            have hone : idsK a = [idK a.leg] → WantOk (L.set jl (x + byA a)) G2 := fun e => by
              have h := hLw.one hoa.leg.1 (m := byA a) (fun i => by rw [hs2 i, e]; simp) (hLw.get a.leg hoa.leg.1)
              rw [show (a.leg % 6).toNat = jl by omega, ← hx] at h
              exact h
            have htwo : ∀ (jm : Nat) (y : Int), a.more / 4 % 6 = (jm : Int) → idsK a = [idK a.leg, idK (a.more / 4)] → (L.set jl (x + byA a))[jm]? = some y → WantOk ((L.set jl (x + byA a)).set jm (y + byA a)) G2 := fun jm y hjm e hy => by
              rw [e] at hnd
              have hne2 : idK a.leg ≠ idK (a.more / 4) := fun e2 => by rw [e2] at hnd; simp at hnd
              have e1 : (a.leg % 6).toNat = jl := by omega
              have e2 : (a.more / 4 % 6).toNat = jm := by omega
              have h := hLw.two hoa.leg.1 hq.1 (m := byA a) hne2 (fun i => by rw [hs2 i, e]) (hLw.get a.leg hoa.leg.1) (y := y) (by rw [e1, e2, ← hx]; exact hy)
              rw [e1, e2, ← hx] at h
              exact h
            have hyb : ∀ (jm : Nat) (y : Int), (L.set jl (x + byA a))[jm]? = some y → -1000000 ≤ y ∧ y ≤ 2000000 := fun jm y hy => by
              have h1 := List.mem_of_getElem? hy
              rcases List.mem_or_eq_of_mem_set h1 with h2 | h2
              · obtain ⟨t, ht, e⟩ := List.getElem_of_mem h2
                have ht6 : t < idL.length := by rw [idL_len]; have := hLw.1; omega
                have h3 := hLw.2 t _ (List.getElem?_eq_getElem ht6)
                rw [List.getElem?_eq_getElem ht, e] at h3
                have h4 := hKsum (idL[t])
                rw [← Option.some.inj h3] at h4
                omega
              · rw [h2, hbyA]
                split <;> omega
            have hids : idsK a = if a.more % 4 = 0 then [idK a.leg, idK (a.more / 4)] else if a.more = 255 then [] else [idK a.leg] := rfl
            have HONE := Lib.hid hone
            have HTWO := Lib.hid htwo
            have HYB := Lib.hid hyb
            have hL6 := hLw.1
            clear hone htwo hyb hs2 hKsum hLw hx hnd
            have DOARM : True := trivial
            by_cases j5 : (j : Int) = 5
            · have b5 : ((j : Int) == 5) = true := by rw [j5]; rfl
              have hby : byA a = -a.n := by rw [hbyA, if_pos j5]
              clear j5 hbyA
              rw [hby] at HONE HTWO HYB
              have wx : IntKind.i64.wrap (x + -a.n) = x + -a.n := IntWalk.i64_in _ (by omega)
              by_cases h4 : a.more % 4 = 0
              · rw [if_pos h4] at hids
                have h4b : ((a.more % 4) == 0) = true := by rw [h4]; rfl
                obtain ⟨jm, hjm, hmm, hem⟩ := u8_mod hq 6 ⟨by omega, by omega⟩
                have hmm : (a.more / 4).tmod 6 = (jm : Int) := hmm
                have hem : a.more / 4 % 6 = (jm : Int) := hem
                have kwm : IntKind.u8.wrap (jm : Int) = (jm : Int) := by unfold IntKind.wrap; simp [IntKind.bits, IntKind.signed]; omega
                have im1 : (0 : Int) ≤ (jm : Int) := by omega
                have im2 : (jm : Int) < 6 := by omega
                obtain ⟨y, hy⟩ : ∃ y, (L.set jl (x + -a.n))[jm]? = some y := ⟨_, List.getElem?_eq_getElem (by rw [List.length_set]; omega)⟩
                have hyb := HYB.out jm y hy
                have wy : IntKind.i64.wrap (y + -a.n) = y + -a.n := IntWalk.i64_in _ (by omega)
                have HW2 := Lib.hid (HTWO.out jm y hem hids hy)
                clear HONE HTWO HYB hids h4 hne hby hyb hem
                go_upto_region 16 with (go_at_call 14; (with_reducible refine (KDo2.out).mono ?_); rintro e w6 ⟨rfl, hS6, hr6, hb6, hc6⟩; have q0 := hc6 0 _ rfl; have q1 := hc6 1 _ rfl; have q2 := hc6 2 _ rfl; have q5 := hc6 5 _ rfl)
                have d1 := hr6.at hLx
                have fr1 := hr6.froz jl hjL
                go_region
                have hs7 := But.setCell w6 b7 jl (.int .i64 (x + -a.n))
                have hr7 := (hr6.set jl hjL (x + -a.n)).more (Below.refl _ _).drew
                have hS7 := (hS6.put hs7 HFB.out HRB.out).drew
                have hb7 := hb6.trans ((hs7.below (by have := hb6.size; have := HSZ3.out; omega) (fun k hk e => by have := HB7.out; omega)).drew)
                have z2 : (w6.setCell ⟨b7, jl, none⟩ (.int .i64 (x + -a.n))).drew.cell? ⟨wr.heap.size, 2, none⟩ = _ := but_cell hs7 q2 (by intro e; have h8 : wr.heap.size = b7 := e; have := HNEB.out; omega)
                have d2 := hr7.at hy
                have fr2 := hr7.froz jm (by rw [List.length_set]; omega)
                clear hs7 d1 fr1 q0 q1 q2 q5 hS6 hr6 hb6 hc6
                generalize (w6.setCell ⟨b7, jl, none⟩ (.int .i64 (x + -a.n))).drew = w7 at *
                go_upto_region 18 with fail
                go_region
                have hs8 := But.setCell w7 b7 jm (.int .i64 (y + -a.n))
                have hr8 := hr7.set jm (by rw [List.length_set]; omega) (y + -a.n)
                have hS8 := (hS7.put hs8 HFB.out HRB.out).drew
                have hb8 := hb7.trans ((hs8.below (by have := hb7.size; have := HSZ3.out; omega) (fun k hk e => by have := HB7.out; omega)).drew)
                have HE : Hid (LimS w1.heap.size R F B b7 cs l acts w3 (k + 1) (w7.setCell ⟨b7, jm, none⟩ (.int .i64 (y + -a.n))).drew) := Lib.hid (HNX2.out _ _ hS8 HW2.out (hr8.more (Below.refl _ _).drew) hb8)
                clear hs8 hr8 hS8 hb8 hr7 hS7 hb7 d2 fr2 z2
                generalize w7.setCell ⟨b7, jm, none⟩ (.int .i64 (y + -a.n)) = w8 at *
                go_wp2
                go_roundw
                case rel => exact ⟨k + 1, by omega, by go_num, HE⟩
                case measure => simp [intOf]; omega
              · rw [if_neg h4] at hids
                have h4b : ((a.more % 4) == 0) = false := by rw [beq_eq_false_iff_ne]; exact h4
                by_cases h255 : a.more = 255
                · rw [if_pos h255] at hids
                  exact absurd hids hne
                · rw [if_neg h255] at hids
                  have HW2 := Lib.hid (HONE.out hids)
                  clear HONE HTWO HYB hids h4 h255 hne hby
                  go_upto_region 16 with (go_at_call 14; (with_reducible refine (KDo2.out).mono ?_); rintro e w6 ⟨rfl, hS6, hr6, hb6, hc6⟩; have q0 := hc6 0 _ rfl; have q1 := hc6 1 _ rfl; have q2 := hc6 2 _ rfl; have q5 := hc6 5 _ rfl)
                  have d1 := hr6.at hLx
                  have fr1 := hr6.froz jl hjL
                  go_region
                  have hs7 := But.setCell w6 b7 jl (.int .i64 (x + -a.n))
                  have hr7 := hr6.set jl hjL (x + -a.n)
                  have hS7 := (hS6.put hs7 HFB.out HRB.out).drew
                  have hb7 := hb6.trans ((hs7.below (by have := hb6.size; have := HSZ3.out; omega) (fun k hk e => by have := HB7.out; omega)).drew)
                  have z2 := but_cell hs7 q2 (by intro e; have h8 : wr.heap.size = b7 := e; have := HNEB.out; omega)
                  have HE : Hid (LimS w1.heap.size R F B b7 cs l acts w3 (k + 1) (w6.setCell ⟨b7, jl, none⟩ (.int .i64 (x + -a.n))).drew) := Lib.hid (HNX2.out _ _ hS7 HW2.out (hr7.more (Below.refl _ _).drew) hb7)
                  clear hs7 hr7 hS7 hb7 d1 fr1 q0 q1 q2 q5 hS6 hr6 hb6 hc6
                  generalize w6.setCell ⟨b7, jl, none⟩ (.int .i64 (x + -a.n)) = w7 at *
                  go_wp2
                  go_roundw
                  case rel => exact ⟨k + 1, by omega, by go_num, HE⟩
                  case measure => simp [intOf]; omega
            · have b5 : ((j : Int) == 5) = false := by rw [beq_eq_false_iff_ne]; exact j5
              have hby : byA a = a.n := by rw [hbyA, if_neg j5]
              clear j5 hbyA
              rw [hby] at HONE HTWO HYB
              have wx : IntKind.i64.wrap (x + a.n) = x + a.n := IntWalk.i64_in _ (by omega)
              by_cases h4 : a.more % 4 = 0
              · rw [if_pos h4] at hids
                have h4b : ((a.more % 4) == 0) = true := by rw [h4]; rfl
                obtain ⟨jm, hjm, hmm, hem⟩ := u8_mod hq 6 ⟨by omega, by omega⟩
                have hmm : (a.more / 4).tmod 6 = (jm : Int) := hmm
                have hem : a.more / 4 % 6 = (jm : Int) := hem
                have kwm : IntKind.u8.wrap (jm : Int) = (jm : Int) := by unfold IntKind.wrap; simp [IntKind.bits, IntKind.signed]; omega
                have im1 : (0 : Int) ≤ (jm : Int) := by omega
                have im2 : (jm : Int) < 6 := by omega
                obtain ⟨y, hy⟩ : ∃ y, (L.set jl (x + a.n))[jm]? = some y := ⟨_, List.getElem?_eq_getElem (by rw [List.length_set]; omega)⟩
                have hyb := HYB.out jm y hy
                have wy : IntKind.i64.wrap (y + a.n) = y + a.n := IntWalk.i64_in _ (by omega)
                have HW2 := Lib.hid (HTWO.out jm y hem hids hy)
                clear HONE HTWO HYB hids h4 hne hby hyb hem
                go_upto_region 16 with (go_at_call 14; (with_reducible refine (KDo2.out).mono ?_); rintro e w6 ⟨rfl, hS6, hr6, hb6, hc6⟩; have q0 := hc6 0 _ rfl; have q1 := hc6 1 _ rfl; have q2 := hc6 2 _ rfl; have q5 := hc6 5 _ rfl)
                have d1 := hr6.at hLx
                have fr1 := hr6.froz jl hjL
                go_region
                have hs7 := But.setCell w6 b7 jl (.int .i64 (x + a.n))
                have hr7 := (hr6.set jl hjL (x + a.n)).more (Below.refl _ _).drew
                have hS7 := (hS6.put hs7 HFB.out HRB.out).drew
                have hb7 := hb6.trans ((hs7.below (by have := hb6.size; have := HSZ3.out; omega) (fun k hk e => by have := HB7.out; omega)).drew)
                have z2 : (w6.setCell ⟨b7, jl, none⟩ (.int .i64 (x + a.n))).drew.cell? ⟨wr.heap.size, 2, none⟩ = _ := but_cell hs7 q2 (by intro e; have h8 : wr.heap.size = b7 := e; have := HNEB.out; omega)
                have d2 := hr7.at hy
                have fr2 := hr7.froz jm (by rw [List.length_set]; omega)
                clear hs7 d1 fr1 q0 q1 q2 q5 hS6 hr6 hb6 hc6
                generalize (w6.setCell ⟨b7, jl, none⟩ (.int .i64 (x + a.n))).drew = w7 at *
                go_upto_region 18 with fail
                go_region
                have hs8 := But.setCell w7 b7 jm (.int .i64 (y + a.n))
                have hr8 := hr7.set jm (by rw [List.length_set]; omega) (y + a.n)
                have hS8 := (hS7.put hs8 HFB.out HRB.out).drew
                have hb8 := hb7.trans ((hs8.below (by have := hb7.size; have := HSZ3.out; omega) (fun k hk e => by have := HB7.out; omega)).drew)
                have HE : Hid (LimS w1.heap.size R F B b7 cs l acts w3 (k + 1) (w7.setCell ⟨b7, jm, none⟩ (.int .i64 (y + a.n))).drew) := Lib.hid (HNX2.out _ _ hS8 HW2.out (hr8.more (Below.refl _ _).drew) hb8)
                clear hs8 hr8 hS8 hb8 hr7 hS7 hb7 d2 fr2 z2
                generalize w7.setCell ⟨b7, jm, none⟩ (.int .i64 (y + a.n)) = w8 at *
                go_wp2
                go_roundw
                case rel => exact ⟨k + 1, by omega, by go_num, HE⟩
                case measure => simp [intOf]; omega
              · rw [if_neg h4] at hids
                have h4b : ((a.more % 4) == 0) = false := by rw [beq_eq_false_iff_ne]; exact h4
                by_cases h255 : a.more = 255
                · rw [if_pos h255] at hids
                  exact absurd hids hne
                · rw [if_neg h255] at hids
                  have HW2 := Lib.hid (HONE.out hids)
                  clear HONE HTWO HYB hids h4 h255 hne hby
                  go_upto_region 16 with (go_at_call 14; (with_reducible refine (KDo2.out).mono ?_); rintro e w6 ⟨rfl, hS6, hr6, hb6, hc6⟩; have q0 := hc6 0 _ rfl; have q1 := hc6 1 _ rfl; have q2 := hc6 2 _ rfl; have q5 := hc6 5 _ rfl)
                  have d1 := hr6.at hLx
                  have fr1 := hr6.froz jl hjL
                  go_region
                  have hs7 := But.setCell w6 b7 jl (.int .i64 (x + a.n))
                  have hr7 := hr6.set jl hjL (x + a.n)
                  have hS7 := (hS6.put hs7 HFB.out HRB.out).drew
                  have hb7 := hb6.trans ((hs7.below (by have := hb6.size; have := HSZ3.out; omega) (fun k hk e => by have := HB7.out; omega)).drew)
                  have z2 := but_cell hs7 q2 (by intro e; have h8 : wr.heap.size = b7 := e; have := HNEB.out; omega)
                  have HE : Hid (LimS w1.heap.size R F B b7 cs l acts w3 (k + 1) (w6.setCell ⟨b7, jl, none⟩ (.int .i64 (x + a.n))).drew) := Lib.hid (HNX2.out _ _ hS7 HW2.out (hr7.more (Below.refl _ _).drew) hb7)
                  clear hs7 hr7 hS7 hb7 d1 fr1 q0 q1 q2 q5 hS6 hr6 hb6 hc6
                  generalize w6.setCell ⟨b7, jl, none⟩ (.int .i64 (x + a.n)) = w7 at *
                  go_wp2
                  go_roundw
                  case rel => exact ⟨k + 1, by omega, by go_num, HE⟩
                  case measure => simp [intOf]; omega
      · obtain rfl : k = acts.length := by omega
        have i2 : ¬ (acts.length : Int) < (acts.length : Int) := by omega
        obtain ⟨hS, hFt, ⟨L, hw, hrw⟩, hbz⟩ := HI.out
        generalize limG cs l acts acts.length = G at *
        have hgood := hS.good.1
        have HBZ : Hid (Below w.heap.size w wr) := Lib.hid (HB3.out.trans (hbz.mono HB1.out.size))
        clear hbz HI HA HAO KD
        obtain ⟨w9, rfl⟩ : ∃ w9, w9 = wr := ⟨_, rfl⟩
        go_wp2
        have KX : Hid (∀ W i, Below w9.heap.size w9 W → OkD i → Calls Tryz.prog 17 #[.pointer (some ⟨B, 0, none⟩), aggD i] W fun e w' => e = .returned (.int .i64 0) ∧ Below W.heap.size W w') := Lib.hid (fun W i h hi => by rw [← hFt.exc i]; exact ses_excess (hS.grow h) hi)
        have KS : Hid (∀ W i, Below w9.heap.size w9 W → OkD i → Calls Tryz.prog 19 #[.pointer (some ⟨B, 0, none⟩), aggD i] W fun e w' => e = .returned (.int .i64 (sumG G i)) ∧ Below W.heap.size W w') := Lib.hid (fun W i h hi => sum_any (hS.grow h) ⟨by omega, by have := HN60.out; omega⟩ hi)
        have HROW : Hid (∀ (k : Nat), k < 6 → w9.cell? ⟨b7, k, none⟩ = some (.int .i64 (sumG G (idK (k : Int))))) := Lib.hid (fun k hk => by
          have h1 := hw.get (k : Int) (by omega)
          rw [show (((k : Int)) % 6).toNat = k by omega] at h1
          exact hrw.at h1)
        have KI := Lib.hid (fun W (k : Int) (hk : 0 ≤ k ∧ k ≤ 255) => id_any k hk W)
        clear hS hFt hw hrw hgood
        go_loopw [11] (fun vi wr => ∃ k : Nat, k ≤ 6 ∧ vi = .int .i64 k ∧ Below w9.heap.size w9 wr) (fun vi _ => 6 - (intOf vi).toNat)
        case atStart => exact ⟨0, Nat.zero_le _, rfl, Below.refl _ _⟩
        case round =>
          obtain ⟨k, hk, rfl, hW⟩ := hrel
          by_cases hlt : k < 6
          · have kw : IntKind.u8.wrap (k : Int) = (k : Int) := by unfold IntKind.wrap; simp [IntKind.bits, IntKind.signed]; omega
            have i1 : (0 : Int) ≤ (k : Int) := by omega
            have i2 : (k : Int) < 6 := by omega
            have w1' : IntKind.i64.wrap ((k : Int) + 1) = (k : Int) + 1 := IntWalk.i64_in _ (by omega)
            have d0 := bel_cell hW (HROW.out k hlt)
            have hoi := idK_ok (k : Int)
            have KI2 := Lib.hid (fun W => KI.out W (k : Int) ⟨by omega, by omega⟩)
            generalize idK (k : Int) = i at *
            have hne0 : (sumG G i != sumG G i) = false := by simp
            have KS2 : Hid (∀ W, Below w9.heap.size w9 W → Calls Tryz.prog 19 #[.pointer (some ⟨B, 0, none⟩), aggD i] W fun e w' => e = .returned (.int .i64 (sumG G i)) ∧ Below W.heap.size W w') := Lib.hid (fun W h => KS.out W i h hoi)
            generalize sumG G i = S1 at d0 hne0 KS2
            go_upto_region 22 with fail
            have f0 := sw_cell d0
            clear d0
            have hS : (SW wr) _ := (Below.refl _ _).drew
            refine wp_region_held_drew (S := SW wr) (by kernel_rfl) hS (fun _ => ?_)
            refine wpAnyH_take (i := 0) (v := ?vX0) rfl (by kernel_rfl) (by kernel_rfl) (by kernel_rfl) (fun _ _ _ h => h) (Or.inl ⟨by rfl, ?hyX0⟩) hS ?restX0
            case hyX0 =>
              intro w hSw
              first | (go_simp; done) | (go_simp; with_reducible rfl)
            try simp only [Act.put, List.setIfInBounds_toArray, List.set_cons_zero, List.set_cons_succ]
            refine wpAnyH_take (i := 1) (v := ?vX1) rfl (by kernel_rfl) (by kernel_rfl) (by kernel_rfl) (fun _ _ _ h => h) (Or.inl ⟨by rfl, ?hyX1⟩) hS ?restX1
            case hyX1 =>
              intro w hSw
              first | (go_simp; done) | (go_simp; with_reducible rfl)
            try simp only [Act.put, List.setIfInBounds_toArray, List.set_cons_zero, List.set_cons_succ]
            refine wpAnyH_take (i := 2) (v := ?vX2) rfl (by kernel_rfl) (by kernel_rfl) (by kernel_rfl) (fun _ _ _ h => h) (Or.inl ⟨by rfl, ?hyX2⟩) hS ?restX2
            case hyX2 =>
              intro w hSw
              first | (go_simp; done) | (go_simp; with_reducible rfl)
            try simp only [Act.put, List.setIfInBounds_toArray, List.set_cons_zero, List.set_cons_succ]
            refine wpAnyH_ready (rs := [3]) (by kernel_rfl) (by simp) ?_
            refine AllReadyH.cons rfl (fun K hK => ?_) AllReadyH.nil
            go_simp
            go_wp2_with (go_at_call 18; (with_reducible refine (KI2.out _).mono ?_); rintro e wa ⟨rfl, hbwa⟩)
            have hS : SW wr wa := Below.trans hS (Below.mono hbwa hS.size)
            refine hK.out _ _ hS (fun _ => ?_)
            clear hK K
            refine wpAnyH_ready (rs := [4]) (by kernel_rfl) (by simp) ?_
            refine AllReadyH.cons rfl (fun K hK => ?_) AllReadyH.nil
            go_simp
            go_wp2_with (go_at_call 17; (with_reducible refine (KX.out _ i (Below.trans hW (Below.mono hS hW.size)) hoi).mono ?_); rintro e wb ⟨rfl, hbwb⟩)
            have hS : SW wr wb := Below.trans hS (Below.mono hbwb hS.size)
            refine hK.out _ _ hS (fun _ => ?_)
            clear hK K
            refine wpAnyH_take (i := 5) (v := ?vX5) rfl (by kernel_rfl) (by kernel_rfl) (by kernel_rfl) (fun _ _ _ h => h) (Or.inl ⟨by rfl, ?hyX5⟩) hS ?restX5
            case hyX5 =>
              intro w hSw
              first | (go_simp; done) | (go_simp; with_reducible rfl)
            try simp only [Act.put, List.setIfInBounds_toArray, List.set_cons_zero, List.set_cons_succ]
            refine wpAnyH_take (i := 6) (v := ?vX6) rfl (by kernel_rfl) (by kernel_rfl) (by kernel_rfl) (fun _ _ _ h => h) (Or.inl ⟨by rfl, ?hyX6⟩) hS ?restX6
            case hyX6 =>
              intro w hSw
              first | (go_simp; done) | (go_simp; with_reducible rfl)
            try simp only [Act.put, List.setIfInBounds_toArray, List.set_cons_zero, List.set_cons_succ]
            refine wpAnyH_take (i := 7) (v := ?vX7) rfl (by kernel_rfl) (by kernel_rfl) (by kernel_rfl) (fun _ _ _ h => h) (Or.inl ⟨by kernel_rfl, ?hyX7⟩) hS ?restX7
            case hyX7 =>
              intro w hSw
              first | (go_simp; done) | (go_simp; with_reducible rfl)
            try simp only [Act.put, List.setIfInBounds_toArray, List.set_cons_zero, List.set_cons_succ]
            refine wpAnyH_take (i := 8) (v := ?vX8) rfl (by kernel_rfl) (by kernel_rfl) (by kernel_rfl) (fun _ _ _ h => h) (Or.inl ⟨by kernel_rfl, ?hyX8⟩) hS ?restX8
            case hyX8 =>
              intro w hSw
              first | (go_simp; done) | (go_simp; with_reducible rfl)
            try simp only [Act.put, List.setIfInBounds_toArray, List.set_cons_zero, List.set_cons_succ]
            refine wpAnyH_take (i := 9) (v := ?vX9) rfl (by kernel_rfl) (by kernel_rfl) (by kernel_rfl) (fun _ _ _ h => h) (Or.inl ⟨by kernel_rfl, ?hyX9⟩) hS ?restX9
            case hyX9 =>
              intro w hSw
              first | (go_simp; done) | (go_simp; with_reducible rfl)
            try simp only [Act.put, List.setIfInBounds_toArray, List.set_cons_zero, List.set_cons_succ]
            refine wpAnyH_take (i := 12) (v := ?vX12) rfl (by kernel_rfl) (by kernel_rfl) (by kernel_rfl) (fun _ _ _ h => h) (Or.inl ⟨by kernel_rfl, ?hyX12⟩) hS ?restX12
            case hyX12 =>
              intro w hSw
              first | (go_simp; done) | (go_simp; with_reducible rfl)
            try simp only [Act.put, List.setIfInBounds_toArray, List.set_cons_zero, List.set_cons_succ]
            refine wpAnyH_take (i := 13) (v := ?vX13) rfl (by kernel_rfl) (by kernel_rfl) (by kernel_rfl) (fun _ _ _ h => h) (Or.inl ⟨by kernel_rfl, ?hyX13⟩) hS ?restX13
            case hyX13 =>
              intro w hSw
              have k0 := f0 w hSw
              first | (go_simp; done) | (go_simp; with_reducible rfl)
            try simp only [Act.put, List.setIfInBounds_toArray, List.set_cons_zero, List.set_cons_succ]
            refine wpAnyH_take (i := 14) (v := ?vX14) rfl (by kernel_rfl) (by kernel_rfl) (by kernel_rfl) (fun _ _ _ h => h) (Or.inl ⟨by kernel_rfl, ?hyX14⟩) hS ?restX14
            case hyX14 =>
              intro w hSw
              have k0 := f0 w hSw
              first | (go_simp; done) | (go_simp; with_reducible rfl)
            try simp only [Act.put, List.setIfInBounds_toArray, List.set_cons_zero, List.set_cons_succ]
            refine wpAnyH_ready (rs := [10]) (by kernel_rfl) (by simp) ?_
            refine AllReadyH.cons rfl (fun K hK => ?_) AllReadyH.nil
            go_simp
            go_wp2_with (go_at_call 18; (with_reducible refine (KI2.out _).mono ?_); rintro e wc ⟨rfl, hbwc⟩)
            have hS : SW wr wc := Below.trans hS (Below.mono hbwc hS.size)
            refine hK.out _ _ hS (fun _ => ?_)
            clear hK K
            refine wpAnyH_ready (rs := [11]) (by kernel_rfl) (by simp) ?_
            refine AllReadyH.cons rfl (fun K hK => ?_) AllReadyH.nil
            go_simp
            go_wp2_with (go_at_call 19; (with_reducible refine (KS2.out _ (Below.trans hW (Below.mono hS hW.size))).mono ?_); rintro e wd ⟨rfl, hbwd⟩)
            have hS : SW wr wd := Below.trans hS (Below.mono hbwd hS.size)
            refine hK.out _ _ hS (fun _ => ?_)
            clear hK K
            refine wpAnyH_take (i := 15) (v := ?vX15) rfl (by kernel_rfl) (by kernel_rfl) (by kernel_rfl) (fun _ _ _ h => h) (Or.inl ⟨by kernel_rfl, ?hyX15⟩) hS ?restX15
            case hyX15 =>
              intro w hSw
              first | (go_simp; done) | (go_simp; with_reducible rfl)
            try simp only [Act.put, List.setIfInBounds_toArray, List.set_cons_zero, List.set_cons_succ]
            refine wpAnyH_take (i := 16) (v := ?vX16) rfl (by kernel_rfl) (by kernel_rfl) (by kernel_rfl) (fun _ _ _ h => h) (Or.inl ⟨by rfl, ?hyX16⟩) hS ?restX16
            case hyX16 =>
              intro w hSw
              first | (go_simp; done) | (go_simp; with_reducible rfl)
            try simp only [Act.put, List.setIfInBounds_toArray, List.set_cons_zero, List.set_cons_succ]
            refine wpAnyH_done (by kernel_rfl) ?_ _
            go_wp2
            go_roundw
            case rel => exact ⟨k + 1, by omega, by go_num, Below.trans hW (Below.mono hS hW.size)⟩
            case measure => simp [intOf]; omega
          · obtain rfl : k = 6 := by omega
            go_wp2_with (go_at_call 11; (with_reducible refine (KA.out _).mono ?_); rintro e wd ⟨rfl, hbd⟩)
            go_ret
            have h9 := HBZ.out.trans (hW.mono HBZ.out.size)
            exact ⟨rfl, h9.trans (hbd.mono h9.size)⟩
end Go.Proofs.YtjmahmeionakaaaGreatDoor
