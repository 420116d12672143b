/- Words and walks that the laws below ask: StkN7, StkN8, StkN9, StkNA. -/
import Derived.Test.YtjmahmeionakaaaGreatDoorPk21
/- The law StockExact. -/
namespace Go.Proofs.YtjmahmeionakaaaGreatDoor
open Go.RowKit Go.Shelf Go.Maps Go.MapKept
set_option linter.unusedSimpArgs false
set_option linter.unusedVariables false

section
variable {N : Nat} {R : Nat → Prop} {B n : Nat} {cs : List Cf} {K : Int} {W : World} {g : Stk}
/-- what the laws carry: an inventory, and what has stayed since N -/
theorem SesE.bel {F : Nat → Prop} {w w' : World} (h : SesE N R F B n cs K w g) (hl : Lv N F w w') : Below N w w' := hl.below h.hN
end
set_option maxRecDepth 100000 in
set_option maxHeartbeats 16000000 in
theorem stockExact_walk (A : Option Addr) (c : Nat) (l : List Cf) (A2 : Option Addr) (c2 : Nat) (acts : List Ac) (lg ck : Int) (w : World) (hv : CfL w (.slice A l.length c) l) (hok : SmallP l → ∀ f ∈ l, OkCf f) (hcap : l.length ≤ c) (hA : RowL 6 encA w (.slice A2 acts.length c2) acts) (hAo : ∀ a ∈ acts, OkA a) (hlg : 0 ≤ lg ∧ lg ≤ 255) (hck : 0 ≤ ck ∧ ck ≤ 255) :
    Calls Tryz.prog 5 #[.slice A l.length c, .slice A2 acts.length c2, .int .u8 lg, .int .u8 ck] w fun e w' => e = .returned (.bool true) ∧ Below w.heap.size w w' := by
  have KA := Lib.hid awake15_any
  have KR := Lib.hid (right15_any A c l A2 c2 acts.length w hv hok)
  have KP : Hid (∀ W, SmallP l → acts.length ≤ 60 → conF l l.length = [] → Below w.heap.size w W → Calls Tryz.prog 20 #[.slice A l.length c, .slice A2 acts.length c2] W fun e w' => PlayR l acts W e w') := Lib.hid (fun W hs hn h0 hb => played_any A c l A2 c2 acts W (hv.more hb) hs (hok hs) hcap h0 (RowL.more hA hb) hAo hn)
  have KI := Lib.hid (fun W => id_any lg hlg W)
  have KC := Lib.hid (fun W => class15_any ck hck W)
  have hoi := idK_ok lg
  clear hv hok hcap hA hAo hlg hck
  generalize idK lg = i at *
  generalize clsK ck = s at *
  go_enter Tryz.func5, Tryz.ntmps5
  go_upto_region 1 with fail
  go_upto_if 16 with (go_at_call 10; (with_reducible refine (KR.out).mono ?_); rintro e w1 ⟨b, rfl, hb, hb1⟩)
  cases b with
  | false =>
    clear hb
    go_wp2_with (go_at_call 11; (with_reducible refine (KA.out _).mono ?_); rintro e wd ⟨rfl, hbd⟩)
    go_ret
    exact ⟨rfl, hb1.trans (hbd.mono hb1.size)⟩
  | true =>
    obtain ⟨hs, hn, h0⟩ := hb rfl
    have KP2 := Lib.hid (KP.out w1 hs hn h0 hb1)
    clear hb hs h0 KP KR
    go_upto_region 6 with (go_at_call 20; (with_reducible refine (KP2.out).mono ?_); rintro e w2 ⟨B, cs, R, rfl, hS, hsam, hb2⟩)
    have hok := hS.good.1
    obtain ⟨hL, h2, h3⟩ := left_facts hok i s
    generalize playG cs l acts acts.length = g at *
    have h2b : (selP g [i] s (leftG g i s + 1) == 0) = false := by rw [beq_eq_false_iff_ne]; exact h2
    have hb02 := hb1.trans (hb2.mono hb1.size)
    have HB02 := Lib.hid hb02
    clear hsam hok hb02 hb2
    have HS2 := Lib.hid hS
    have HN2 : Hid (w1.heap.size ≤ w2.heap.size) := Lib.hid hS.hN
    have KL : Hid (∀ W, Below w2.heap.size w2 W → Calls Tryz.prog 21 #[.pointer (some ⟨B, 0, none⟩), aggD i, .string s] W fun e w' => e = .returned (.int .i64 (leftG g i s)) ∧ Below W.heap.size W w') := Lib.hid (fun W h => ses_left (hS.grow h) hoi s)
    have HB1 := Lib.hid hb1
    clear hb1 hS
    have H3 : Hid (1 ≤ leftG g i s → selP g [i] s (leftG g i s) = 0 ∧ leftG (selG g [i] s (leftG g i s)) i s = 0) := Lib.hid h3
    have hE1 : selG g [i] s (leftG g i s + 1) = g := by unfold selG; rw [if_neg h2]
    have HE1 := Lib.hid hE1
    clear h2 h3 hE1
    have hok1 : ∀ x ∈ [i], OkD x := by intro x hx; rw [List.mem_singleton] at hx; subst hx; exact hoi
    have KS1 : Hid (∀ (F : Nat → Prop) W A' cc, SesE w1.heap.size R F B 60 cs 7620 W g → RowIn (fun k => F k ∨ k < w1.heap.size) 4 encD W A' [i] → Calls Tryz.prog 23 #[.pointer (some ⟨B, 0, none⟩), .slice A' 1 cc, .string s, .int .i64 (leftG g i s + 1)] W fun e w' => e = .returned (.int .i64 (selP g [i] s (leftG g i s + 1))) ∧ SesE w1.heap.size R F B 60 cs 500000 w' g ∧ Lv w1.heap.size F W w') := Lib.hid (fun F W A' cc h hr => by
      refine (ses_sell h (by omega) (m := leftG g i s + 1) (by omega) (is := [i]) (by show 1 ≤ 1000; omega) hok1 hr s).mono ?_
      rintro e w' ⟨rfl, a1, a2⟩
      rw [HE1.out] at a1
      exact ⟨rfl, a1.mono (by omega), a2⟩)
    have KS2 : Hid (∀ (F : Nat → Prop) W A' cc, SesE w1.heap.size R F B 60 cs 500000 W g → RowIn (fun k => F k ∨ k < w1.heap.size) 4 encD W A' [i] → Calls Tryz.prog 23 #[.pointer (some ⟨B, 0, none⟩), .slice A' 1 cc, .string s, .int .i64 (leftG g i s)] W fun e w' => e = .returned (.int .i64 (selP g [i] s (leftG g i s))) ∧ SesE w1.heap.size R F B 60 cs 1000000 w' (selG g [i] s (leftG g i s)) ∧ Lv w1.heap.size F W w') := Lib.hid (fun F W A' cc h hr => by
      refine (ses_sell h (by omega) (m := leftG g i s) (by omega) (is := [i]) (by show 1 ≤ 1000; omega) hok1 hr s).mono ?_
      rintro e w' ⟨rfl, a1, a2⟩
      exact ⟨rfl, a1.mono (by omega), a2⟩)
    have KL2 : Hid (∀ (F : Nat → Prop) W, SesE w1.heap.size R F B 60 cs 1000000 W (selG g [i] s (leftG g i s)) → Calls Tryz.prog 21 #[.pointer (some ⟨B, 0, none⟩), aggD i, .string s] W fun e w' => e = .returned (.int .i64 (leftG (selG g [i] s (leftG g i s)) i s)) ∧ Below W.heap.size W w') := Lib.hid (fun F W h => ses_left h hoi s)
    have wr1 : IntKind.i64.wrap (leftG g i s + 1) = leftG g i s + 1 := IntWalk.i64_in _ (by omega)
    clear hok1 hoi HE1
    generalize leftG (selG g [i] s (leftG g i s)) i s = l2 at *
    generalize selG g [i] s (leftG g i s) = g2 at *
    generalize selP g [i] s (leftG g i s + 1) = p1 at *
    generalize selP g [i] s (leftG g i s) = p2 at *
    generalize leftG g i s = n at *
    have i0 : ¬ n < 0 := by omega
    have hW := Below.refl w2.heap.size w2
    go_upto_region 7 with (first
      | (go_at_call 18; (with_reducible refine (KI.out w2).mono ?_); rintro e w3 ⟨rfl, hb3⟩; have hW := Below.trans hW (Below.mono hb3 hW.size); have hr := row_one w3 i; have hal := bel_alloc w3 (.cells #[.string i.car, .int .i64 i.num, .int .i64 i.day, .string i.frm] lidT); have hW := Below.trans hW (Below.mono hal hW.size))
      | (go_at_call 18; (with_reducible refine (KI.out _).mono ?_); rintro e w4 ⟨rfl, hb4⟩; have hW := Below.trans hW (Below.mono hb4 hW.size); have hr := hr.more hb4)
      | (go_at_call 22; (with_reducible refine (KC.out _).mono ?_); rintro e w5 ⟨rfl, hb5⟩; have hW := Below.trans hW (Below.mono hb5 hW.size); have hr := hr.more hb5)
      | (go_at_call 21; (with_reducible refine (KL.out _ hW).mono ?_); rintro e w6 ⟨rfl, hb6⟩; have hW := Below.trans hW (Below.mono hb6 hW.size); have hr := hr.more hb6))
    obtain ⟨F, hF⟩ : ∃ F : Nat → Prop, F = (fun k => False ∨ (w2.heap.size ≤ k ∧ k < w6.heap.size)) := ⟨_, rfl⟩
    have HRA : Hid (RowIn (fun k => F k ∨ k < w1.heap.size) 4 encD w6 (some ⟨w3.heap.size, 0, none⟩) [i]) := Lib.hid (hr.imp (fun k hk => .inl (by
      rw [hF, hk]
      refine .inr ⟨hb3.size, ?_⟩
      have a1 := hal.size
      have a2 := hb4.size
      have a3 := hb5.size
      have a4 := hb6.size
      rw [World.size_alloc] at a1 a2
      omega)))
    have hS6 : SesE w1.heap.size R F B 60 cs 7620 w6 g := by rw [hF]; exact HS2.out.more hW
    have HB6 : Hid (Below w.heap.size w w6) := Lib.hid (HB02.out.trans (hW.mono HB02.out.size))
    have HN6 := Lib.hid hS6.hN
    clear hF hr hal hb3 hb4 hb5 hb6 hW HB02 HS2
    have hLL := Lv.refl w1.heap.size F w6
    go_upto_region 9 with (first
      | (go_at_call 22; (with_reducible refine (KC.out _).mono ?_); rintro e w7 ⟨rfl, hb7⟩; have hLL := Lv.trans hLL (Lv.of hb7); have hS6 := SesE.grow hS6 hb7; clear hb7)
      | (go_at_call 23; (with_reducible refine (KS1.out F _ _ _ hS6 (Lv.row hLL HRA.out)).mono ?_); rintro e w8 ⟨rfl, hS8, hl8⟩; have hLL := Lv.trans hLL hl8))
    by_cases hz : n = 0
    · have hzb : (n == 0) = true := by rw [hz]; rfl
      clear hz
      go_wp2_with (go_at_call 11; (with_reducible refine (KA.out _).mono ?_); rintro e wd ⟨rfl, hbd⟩)
      go_ret
      have h9 := HB6.out.trans ((hLL.below HN6.out).mono HB1.out.size)
      exact ⟨rfl, h9.trans (hbd.mono h9.size)⟩
    · have hzb : (n == 0) = false := by rw [beq_eq_false_iff_ne]; exact hz
      obtain ⟨e2, e3⟩ := H3.out (by omega)
      subst e2
      subst e3
      clear hz
      go_wp2_with (first
        | (go_at_call 22; (with_reducible refine (KC.out w8).mono ?_); rintro e w9 ⟨rfl, hb9⟩; have hLL := Lv.trans hLL (Lv.of hb9); have hS8 := SesE.grow hS8 hb9; clear hb9)
        | (go_at_call 23; (with_reducible refine (KS2.out F _ _ _ hS8 (Lv.row hLL HRA.out)).mono ?_); rintro e w10 ⟨rfl, hS10, hl10⟩; have hLL := Lv.trans hLL hl10)
        | (go_at_call 18; (with_reducible refine (KI.out _).mono ?_); rintro e w11 ⟨rfl, hb11⟩; have hLL := Lv.trans hLL (Lv.of hb11); have hS10 := SesE.grow hS10 hb11; clear hb11)
        | (go_at_call 22; (with_reducible refine (KC.out _).mono ?_); rintro e w12 ⟨rfl, hb12⟩; have hLL := Lv.trans hLL (Lv.of hb12); have hS10 := SesE.grow hS10 hb12; clear hb12)
        | (go_at_call 21; (with_reducible refine (KL2.out F _ hS10).mono ?_); rintro e w13 ⟨rfl, hb13⟩; have hLL := Lv.trans hLL (Lv.of hb13))
        | (go_at_call 11; (with_reducible refine (KA.out _).mono ?_); rintro e wd ⟨rfl, hbd⟩))
      go_ret
      have h9 := HB6.out.trans ((hLL.below HN6.out).mono HB1.out.size)
      exact ⟨rfl, h9.trans (hbd.mono h9.size)⟩
end Go.Proofs.YtjmahmeionakaaaGreatDoor

/- The law StockResizes. -/
namespace Go.Proofs.YtjmahmeionakaaaGreatDoor
open Go.RowKit Go.Shelf Go.Maps Go.MapKept
set_option linter.unusedSimpArgs false
set_option linter.unusedVariables false

/-- what Resize does, seen from outside -/
theorem rsz_facts {K : Int} {cs l : List Cf} {g : Stk} (hG : OkG K cs g) (hcs : ∀ f ∈ cs, GoodF f) (hsam : SamL cs l) (i : Lid) (s : ByteArray) :
    (rszE cs g i s = 0 ∧ (g i).isSome = true ∧ (findQ l s).isSome = true ∧ eqpG (rszG cs g i s) i = .tuple #[.string s, .bool true]) ∨
    (rszE cs g i s = 7 ∧ ((g i).isSome && (findQ l s).isSome) = false ∧ rszG cs g i s = g) := by
  have hff : (findQ cs s).isSome = (findQ l s).isSome := by
    rcases findQ_sam s hsam with ⟨h1, h2⟩ | ⟨f, f', h1, h2, _⟩ <;> rw [h1, h2] <;> rfl
  cases hq : g i with
  | none =>
    refine .inr ⟨?_, rfl, ?_⟩
    · unfold rszE; rw [hq]; simp
    · unfold rszG; rw [hq]
  | some q =>
    cases hf : findQ cs s with
    | none =>
      rw [hf] at hff
      refine .inr ⟨?_, ?_, ?_⟩
      · unfold rszE; rw [hf]; simp
      · rw [← hff]; rfl
      · unfold rszG; rw [hq, hf]
    | some f =>
      rw [hf] at hff
      refine .inl ⟨?_, rfl, hff.symm, ?_⟩
      · unfold rszE; rw [hq, hf]; simp
      · have e1 : rszG cs g i s = updS g i (q.resize f) := by unfold rszG; rw [hq, hf]
        unfold eqpG
        rw [e1, updS_same]
        have h2 : f.equip = s := (eqS_iff _ _).1 (by have := List.find?_some hf; simpa using this)
        show Value.tuple #[.string f.equip, .bool true] = _
        rw [h2]
theorem eqpG_shape (g : Stk) (i : Lid) : ∃ t, eqpG g i = .tuple #[.string t, .bool (g i).isSome] := by
  unfold eqpG
  cases g i with
  | none => exact ⟨_, rfl⟩
  | some q => exact ⟨_, rfl⟩
end Go.Proofs.YtjmahmeionakaaaGreatDoor

/- The law StockResizes. -/
namespace Go.Proofs.YtjmahmeionakaaaGreatDoor
open Go.RowKit Go.Shelf Go.Maps Go.MapKept
set_option linter.unusedSimpArgs false
set_option linter.unusedVariables false
set_option maxRecDepth 100000 in
set_option maxHeartbeats 16000000 in
theorem stockResizes_walk (A : Option Addr) (c : Nat) (l : List Cf) (A2 : Option Addr) (c2 : Nat) (acts : List Ac) (a : Ac) (w : World) (hv : CfL w (.slice A l.length c) l) (hok : SmallP l → ∀ f ∈ l, OkCf f) (hcap : l.length ≤ c) (hA : RowL 6 encA w (.slice A2 acts.length c2) acts) (hAo : ∀ a ∈ acts, OkA a) (ha : OkA a) :
    Calls Tryz.prog 7 #[.slice A l.length c, .slice A2 acts.length c2, aggA a] w fun e w' => e = .returned (.bool true) ∧ Below w.heap.size w w' := by
  have KA := Lib.hid awake15_any
  have hb0 := bel_alloc w (.cells #[.int .u8 a.kind, .int .u8 a.leg, .int .u8 a.more, .int .u8 a.equ, .int .u8 a.cls, .int .i8 a.n] actT)
  have q1 := act_cells w a 1 _ rfl
  have q3 := act_cells w a 3 _ rfl
  have KR := Lib.hid (right15_any A c l A2 c2 acts.length (w.alloc (.cells #[.int .u8 a.kind, .int .u8 a.leg, .int .u8 a.more, .int .u8 a.equ, .int .u8 a.cls, .int .i8 a.n] actT)) (hv.more hb0) hok)
  have KP : Hid (∀ W, SmallP l → acts.length ≤ 60 → conF l l.length = [] → Below w.heap.size w W → Calls Tryz.prog 20 #[.slice A l.length c, .slice A2 acts.length c2] W fun e w' => PlayR l acts W e w') := Lib.hid (fun W hs hn h0 hb => played_any A c l A2 c2 acts W (hv.more hb) hs (hok hs) hcap h0 (RowL.more hA hb) hAo hn)
  have KI := Lib.hid (fun W => id_any a.leg ha.leg W)
  have KQ : Hid (∀ W, SmallP l → Below w.heap.size w W → Calls Tryz.prog 27 #[.slice A l.length c, .int .u8 a.equ] W fun e w' => e = .returned (.string (equQ l a.equ)) ∧ w' = W) := Lib.hid (fun W hs hb => equip15_any A c l a.equ W (hv.more hb) (by have := hs.1; omega) ha.equ)
  have KN : Hid (∀ W, SmallP l → Below w.heap.size w W → Calls Tryz.prog 30 #[.slice A l.length c, .string (equQ l a.equ)] W fun e w' => e = .returned (.bool (findQ l (equQ l a.equ)).isSome) ∧ Below W.heap.size W w') := Lib.hid (fun W hs hb => known_any A c l _ W (hv.more hb) hs.1)
  have hoi := idK_ok a.leg
  have hsz : SmallP l → (equQ l a.equ).size ≤ maxLen := fun hs => equQ_size (fun f hf => (hok hs f hf).equip) a.equ
  have HSZ := Lib.hid hsz
  have HB0 := Lib.hid hb0
  clear hv hok hcap hA hAo ha hsz hb0
  obtain ⟨s, hs0⟩ : ∃ s, s = equQ l a.equ := ⟨_, rfl⟩
  rw [← hs0] at KQ KN HSZ
  clear hs0
  generalize idK a.leg = i at *
  go_enter Tryz.func7, Tryz.ntmps7
  go_upto_region 1 with fail
  generalize w.alloc (.cells #[.int .u8 a.kind, .int .u8 a.leg, .int .u8 a.more, .int .u8 a.equ, .int .u8 a.cls, .int .i8 a.n] actT) = w0 at *
  go_upto_if 20 with (go_at_call 10; (with_reducible refine (KR.out).mono ?_); rintro e w1 ⟨b, rfl, hb, hb1⟩)
  cases b with
  | false =>
    clear hb
    go_wp2_with (go_at_call 11; (with_reducible refine (KA.out _).mono ?_); rintro e wd ⟨rfl, hbd⟩)
    go_ret
    have h9 := HB0.out.trans (hb1.mono HB0.out.size)
    exact ⟨rfl, h9.trans (hbd.mono h9.size)⟩
  | true =>
    obtain ⟨hs, hn, h0⟩ := hb rfl
    have h01 := HB0.out.trans (hb1.mono HB0.out.size)
    have q1 := bel_cell hb1 q1
    have q3 := bel_cell hb1 q3
    have KP2 := Lib.hid (KP.out w1 hs hn h0 h01)
    have HSM := Lib.hid hs
    clear hb h0 KP KR hs
    go_upto_region 6 with (go_at_call 20; (with_reducible refine (KP2.out).mono ?_); rintro e w2 ⟨B, cs, R, rfl, hS, hsam, hb2⟩)
    have h02 := h01.trans (hb2.mono h01.size)
    have q1 := bel_cell hb2 q1
    have q3 := bel_cell hb2 q3
    have HS2 := Lib.hid hS
    have HB2 := Lib.hid h02
    have HB1 := Lib.hid h01
    have HSA := Lib.hid hsam
    clear hS h02 hb1 hb2 h01 hsam
    have KQ2 : Hid (∀ W, Below w2.heap.size w2 W → Calls Tryz.prog 27 #[.slice A l.length c, .int .u8 a.equ] W fun e w' => e = .returned (.string s) ∧ w' = W) := Lib.hid (fun W h => KQ.out W HSM.out (HB2.out.trans (h.mono HB2.out.size)))
    have f1 := sw_cell q1
    have f3 := sw_cell q3
    clear q1 q3
    refine (fun (hh : Hid (∀ (W : World) (p : Nat), ((Below w2.heap.size w2 W ∧ w2.heap.size ≤ p) ∧ W.heap[p]? = some (.cells #[.string i.car, .int .i64 i.num, .int .i64 i.day, .string i.frm] lidT (0, 0))) → (?G : World → Nat → Prop) W p)) => ?walk) (Lib.hid ?rest)
    case walk =>
      have hS : (SW w2) _ := (Below.refl _ _).drew
      refine wp_region_held_drew (S := SW w2) (by kernel_rfl) hS (fun _ => ?_)
      refine wpAnyH_take (i := 0) (v := ?vR1) rfl (by kernel_rfl) (by kernel_rfl) (by kernel_rfl) (fun _ _ _ h => h) (Or.inl ⟨by rfl, ?hyR1⟩) hS ?restR1
      case hyR1 =>
        intro w hSw
        first | (go_simp; done) | (go_simp; with_reducible rfl)
      try simp only [Act.put, List.setIfInBounds_toArray, List.set_cons_zero, List.set_cons_succ]
      refine wpAnyH_take (i := 1) (v := ?vR2) rfl (by kernel_rfl) (by kernel_rfl) (by kernel_rfl) (fun _ _ _ h => h) (Or.inl ⟨by rfl, ?hyR2⟩) hS ?restR2
      case hyR2 =>
        intro w hSw
        have k0 := f1 w hSw; have k1 := f3 w hSw
        first | (go_simp; done) | (go_simp; with_reducible rfl)
      try simp only [Act.put, List.setIfInBounds_toArray, List.set_cons_zero, List.set_cons_succ]
      refine wpAnyH_take (i := 3) (v := ?vR3) rfl (by kernel_rfl) (by kernel_rfl) (by kernel_rfl) (fun _ _ _ h => h) (Or.inl ⟨by rfl, ?hyR3⟩) hS ?restR3
      case hyR3 =>
        intro w hSw
        first | (go_simp; done) | (go_simp; with_reducible rfl)
      try simp only [Act.put, List.setIfInBounds_toArray, List.set_cons_zero, List.set_cons_succ]
      refine wpAnyH_take (i := 4) (v := ?vR4) rfl (by kernel_rfl) (by kernel_rfl) (by kernel_rfl) (fun _ _ _ h => h) (Or.inl ⟨by rfl, ?hyR4⟩) hS ?restR4
      case hyR4 =>
        intro w hSw
        first | (go_simp; done) | (go_simp; with_reducible rfl)
      try simp only [Act.put, List.setIfInBounds_toArray, List.set_cons_zero, List.set_cons_succ]
      refine wpAnyH_take (i := 5) (v := ?vR5) rfl (by kernel_rfl) (by kernel_rfl) (by kernel_rfl) (fun _ _ _ h => h) (Or.inl ⟨by rfl, ?hyR5⟩) hS ?restR5
      case hyR5 =>
        intro w hSw
        have k0 := f1 w hSw; have k1 := f3 w hSw
        first | (go_simp; done) | (go_simp; with_reducible rfl)
      try simp only [Act.put, List.setIfInBounds_toArray, List.set_cons_zero, List.set_cons_succ]
      refine wpAnyH_ready (rs := [2, 7]) (by kernel_rfl) (by simp) ?_
      refine (AllReadyH.cons rfl (fun K hK => ?_) (AllReadyH.cons rfl (fun K hK => ?_) AllReadyH.nil))
      · go_simp
        go_wp2_with (go_at_call 18; (with_reducible refine (KI.out _).mono ?_); rintro e w3 ⟨rfl, hb3⟩)
        have hS : SW w2 w3 := Below.trans hS (Below.mono hb3 hS.size)
        have hs3 : w2.heap.size ≤ w3.heap.size := hS.size
        refine hK.out _ _ hS (fun _ => ?_)
        clear hK K
        refine wpAnyH_ready (rs := [6, 7]) (by kernel_rfl) (by simp) ?_
        refine (AllReadyH.cons rfl (fun K hK => ?_) (AllReadyH.cons rfl (fun K hK => ?_) AllReadyH.nil))
        · go_simp
          go_wp2_with (go_at_call 27; (with_reducible refine (KQ2.out _ hS).mono ?_); rintro e w4 ⟨rfl, hw4⟩; have hw5 := hw4.symm; subst hw5; clear hw4)
          refine hK.out _ _ hS (fun _ => ?_)
          clear hK K
          refine wpAnyH_ready (rs := [7]) (by kernel_rfl) (by simp) ?_
          refine AllReadyH.cons rfl (fun K hK => ?_) AllReadyH.nil
          go_simp
          have hS0 := hS
          have hz := heap_alloc_new w3 (.cells #[.string noB, .int .i64 0, .int .i64 0, .string noB] lidT)
          have hS : SW w2 (w3.alloc (.cells #[.string noB, .int .i64 0, .int .i64 0, .string noB] lidT)) := Below.trans hS (Below.mono (bel_alloc w3 (.cells #[.string noB, .int .i64 0, .int .i64 0, .string noB] lidT)) hS.size)
          refine hK.out _ _ hS (fun _ => ?_)
          clear hK K
          refine wpAnyH_ready (rs := [8]) (by kernel_rfl) (by simp) ?_
          refine AllReadyH.cons rfl (fun K hK => ?_) AllReadyH.nil
          go_simp
          have hS : SW w2 (w3.alloc (.cells #[.string i.car, .int .i64 i.num, .int .i64 i.day, .string i.frm] lidT)) := Below.trans hS0 (Below.mono (bel_alloc w3 (.cells #[.string i.car, .int .i64 i.num, .int .i64 i.day, .string i.frm] lidT)) hS0.size)
          refine hK.out _ _ hS (fun _ => ?_)
          clear hK K
          refine wpAnyH_take (i := 9) (v := ?vR6) rfl (by kernel_rfl) (by kernel_rfl) (by kernel_rfl) (fun _ _ _ h => h) (Or.inl ⟨by rfl, ?hyR6⟩) hS ?restR6
          case hyR6 =>
            intro w hSw
            first | (go_simp; done) | (go_simp; with_reducible rfl)
          try simp only [Act.put, List.setIfInBounds_toArray, List.set_cons_zero, List.set_cons_succ]
          refine wpAnyH_done (by kernel_rfl) ?_ _
          have hp := And.intro (And.intro hS hs3) (heap_alloc_new w3 (.cells #[.string i.car, .int .i64 i.num, .int .i64 i.day, .string i.frm] lidT))
          generalize w3.alloc (.cells #[.string i.car, .int .i64 i.num, .int .i64 i.day, .string i.frm] lidT) = W1 at hp ⊢
          generalize w3.heap.size = p1 at hp ⊢
          exact hh.out W1 p1 hp
        · go_simp
          have hS0 := hS
          have hz := heap_alloc_new w3 (.cells #[.string noB, .int .i64 0, .int .i64 0, .string noB] lidT)
          have hS : SW w2 (w3.alloc (.cells #[.string noB, .int .i64 0, .int .i64 0, .string noB] lidT)) := Below.trans hS (Below.mono (bel_alloc w3 (.cells #[.string noB, .int .i64 0, .int .i64 0, .string noB] lidT)) hS.size)
          refine hK.out _ _ hS (fun _ => ?_)
          clear hK K
          refine wpAnyH_ready (rs := [6]) (by kernel_rfl) (by simp) ?_
          refine AllReadyH.cons rfl (fun K hK => ?_) AllReadyH.nil
          go_simp
          go_wp2_with (go_at_call 27; (with_reducible refine (KQ2.out _ hS).mono ?_); rintro e w4 ⟨rfl, hw4⟩; have hw5 := hw4.symm; subst hw5; clear hw4)
          refine hK.out _ _ hS (fun _ => ?_)
          clear hK K
          refine wpAnyH_ready (rs := [8]) (by kernel_rfl) (by simp) ?_
          refine AllReadyH.cons rfl (fun K hK => ?_) AllReadyH.nil
          go_simp
          have hS : SW w2 (w3.alloc (.cells #[.string i.car, .int .i64 i.num, .int .i64 i.day, .string i.frm] lidT)) := Below.trans hS0 (Below.mono (bel_alloc w3 (.cells #[.string i.car, .int .i64 i.num, .int .i64 i.day, .string i.frm] lidT)) hS0.size)
          refine hK.out _ _ hS (fun _ => ?_)
          clear hK K
          refine wpAnyH_take (i := 9) (v := ?vR7) rfl (by kernel_rfl) (by kernel_rfl) (by kernel_rfl) (fun _ _ _ h => h) (Or.inl ⟨by rfl, ?hyR7⟩) hS ?restR7
          case hyR7 =>
            intro w hSw
            first | (go_simp; done) | (go_simp; with_reducible rfl)
          try simp only [Act.put, List.setIfInBounds_toArray, List.set_cons_zero, List.set_cons_succ]
          refine wpAnyH_done (by kernel_rfl) ?_ _
          have hp := And.intro (And.intro hS hs3) (heap_alloc_new w3 (.cells #[.string i.car, .int .i64 i.num, .int .i64 i.day, .string i.frm] lidT))
          generalize w3.alloc (.cells #[.string i.car, .int .i64 i.num, .int .i64 i.day, .string i.frm] lidT) = W1 at hp ⊢
          generalize w3.heap.size = p1 at hp ⊢
          exact hh.out W1 p1 hp
      · go_simp
        have hz := heap_alloc_new w2.drew (.cells #[.string noB, .int .i64 0, .int .i64 0, .string noB] lidT)
        have hS : SW w2 (w2.drew.alloc (.cells #[.string noB, .int .i64 0, .int .i64 0, .string noB] lidT)) := Below.trans hS (Below.mono (bel_alloc w2.drew (.cells #[.string noB, .int .i64 0, .int .i64 0, .string noB] lidT)) hS.size)
        refine hK.out _ _ hS (fun _ => ?_)
        clear hK K
        refine wpAnyH_ready (rs := [2]) (by kernel_rfl) (by simp) ?_
        refine AllReadyH.cons rfl (fun K hK => ?_) AllReadyH.nil
        go_simp
        go_wp2_with (go_at_call 18; (with_reducible refine (KI.out _).mono ?_); rintro e w3 ⟨rfl, hb3⟩)
        have hS : SW w2 w3 := Below.trans hS (Below.mono hb3 hS.size)
        have hs3 : w2.heap.size ≤ w3.heap.size := hS.size
        have hz : w3.heap[w2.heap.size]? = some (.cells #[.string noB, .int .i64 0, .int .i64 0, .string noB] lidT (0, 0)) := (hb3.block _ (lt_of_cell2 hz)).trans hz
        have y0 := cell_of_row _ _ 0 _ _ (0, 0) hz
        have y1 := cell_of_row _ _ 1 _ _ (0, 0) hz
        have y2 := cell_of_row _ _ 2 _ _ (0, 0) hz
        have y3 := cell_of_row _ _ 3 _ _ (0, 0) hz
        have g0 := frozen_of_row _ _ 0 _ _ hz
        have g1 := frozen_of_row _ _ 1 _ _ hz
        have g2 := frozen_of_row _ _ 2 _ _ hz
        have g3 := frozen_of_row _ _ 3 _ _ hz
        refine hK.out _ _ hS (fun _ => ?_)
        clear hK K
        refine wpAnyH_ready (rs := [6]) (by kernel_rfl) (by simp) ?_
        refine AllReadyH.cons rfl (fun K hK => ?_) AllReadyH.nil
        go_simp
        go_wp2_with (go_at_call 27; (with_reducible refine (KQ2.out _ hS).mono ?_); rintro e w4 ⟨rfl, hw4⟩; have hw5 := hw4.symm; subst hw5; clear hw4)
        refine hK.out _ _ hS (fun _ => ?_)
        clear hK K
        refine wpAnyH_ready (rs := [8]) (by kernel_rfl) (by simp) ?_
        refine AllReadyH.cons rfl (fun K hK => ?_) AllReadyH.nil
        go_simp
        have hh4 := S4.heap hz (.string i.car) (.int .i64 i.num) (.int .i64 i.day) (.string i.frm)
        have hbut := S4.but w3 w2.heap.size (.string i.car) (.int .i64 i.num) (.int .i64 i.day) (.string i.frm)
        have hS : SW w2 ((((w3.setCell ⟨w2.heap.size, 0, none⟩ (.string i.car)).setCell ⟨w2.heap.size, 1, none⟩ (.int .i64 i.num)).setCell ⟨w2.heap.size, 2, none⟩ (.int .i64 i.day)).setCell ⟨w2.heap.size, 3, none⟩ (.string i.frm)) := Below.trans hS (hbut.below hS.size (fun k hk e => by omega))
        refine hK.out _ _ hS (fun _ => ?_)
        clear hK K
        refine wpAnyH_take (i := 9) (v := ?vR8) rfl (by kernel_rfl) (by kernel_rfl) (by kernel_rfl) (fun _ _ _ h => h) (Or.inl ⟨by rfl, ?hyR8⟩) hS ?restR8
        case hyR8 =>
          intro w hSw
          first | (go_simp; done) | (go_simp; with_reducible rfl)
        try simp only [Act.put, List.setIfInBounds_toArray, List.set_cons_zero, List.set_cons_succ]
        refine wpAnyH_done (by kernel_rfl) ?_ _
        have hp := And.intro (And.intro hS (Nat.le_refl w2.heap.size)) hh4
        generalize (((w3.setCell ⟨w2.heap.size, 0, none⟩ (.string i.car)).setCell ⟨w2.heap.size, 1, none⟩ (.int .i64 i.num)).setCell ⟨w2.heap.size, 2, none⟩ (.int .i64 i.day)).setCell ⟨w2.heap.size, 3, none⟩ (.string i.frm) = W1 at hp ⊢
        exact hh.out W1 w2.heap.size hp
    case rest =>
      rintro W p ⟨⟨hbW, hlp⟩, hp⟩
      have hG := HS2.out.good.1
      have hcs := HS2.out.good.2
      have hfx := rsz_facts hG hcs HSA.out i s
      have hsum := sumG_rsz hG hcs i s i
      obtain ⟨t0, ht0⟩ := eqpG_shape (playG cs l acts acts.length) i
      generalize playG cs l acts acts.length = g at *
      obtain ⟨F, hF⟩ : ∃ F : Nat → Prop, F = (fun k => False ∨ (w2.heap.size ≤ k ∧ k < W.heap.size)) := ⟨_, rfl⟩
      have hS : SesE w1.heap.size R F B 60 cs 7620 W g := by rw [hF]; exact HS2.out.more hbW
      have hFp : F p := by rw [hF]; exact .inr ⟨hlp, lt_of_cell2 hp⟩
      have HX : Hid (∀ W', Lv w1.heap.size F W W' → W'.cell? ⟨p, 0, none⟩ = some (.string i.car) ∧ W'.cell? ⟨p, 1, none⟩ = some (.int .i64 i.num) ∧ W'.cell? ⟨p, 2, none⟩ = some (.int .i64 i.day) ∧ W'.cell? ⟨p, 3, none⟩ = some (.string i.frm)) := Lib.hid (fun W' h => ⟨h.cell (cell_of_row _ _ 0 _ _ (0, 0) hp) (.inl hFp), h.cell (cell_of_row _ _ 1 _ _ (0, 0) hp) (.inl hFp), h.cell (cell_of_row _ _ 2 _ _ (0, 0) hp) (.inl hFp), h.cell (cell_of_row _ _ 3 _ _ (0, 0) hp) (.inl hFp)⟩)
      have KS1 : Hid (∀ W', SesE w1.heap.size R F B 60 cs 7620 W' g → Calls Tryz.prog 19 #[.pointer (some ⟨B, 0, none⟩), aggD i] W' fun e w' => e = .returned (.int .i64 (sumG g i)) ∧ Below W'.heap.size W' w') := Lib.hid (fun W' h => sum_any h ⟨by omega, by omega⟩ hoi)
      have KS2 : Hid (∀ W', SesE w1.heap.size R F B 60 cs 7620 W' (rszG cs g i s) → Calls Tryz.prog 19 #[.pointer (some ⟨B, 0, none⟩), aggD i] W' fun e w' => e = .returned (.int .i64 (sumG g i)) ∧ Below W'.heap.size W' w') := Lib.hid (fun W' h => by rw [← hsum]; exact sum_any h ⟨by omega, by omega⟩ hoi)
      have KE1 : Hid (∀ W', SesE w1.heap.size R F B 60 cs 7620 W' g → Calls Tryz.prog 28 #[.pointer (some ⟨B, 0, none⟩), aggD i] W' fun e w' => e = .returned (.tuple #[.string t0, .bool (g i).isSome]) ∧ Below W'.heap.size W' w') := Lib.hid (fun W' h => by rw [← ht0]; exact ses_equip h hoi)
      have KE2 : Hid (∀ W', SesE w1.heap.size R F B 60 cs 7620 W' (rszG cs g i s) → Calls Tryz.prog 28 #[.pointer (some ⟨B, 0, none⟩), aggD i] W' fun e w' => e = .returned (eqpG (rszG cs g i s) i) ∧ Below W'.heap.size W' w') := Lib.hid (fun W' h => ses_equip h hoi)
      have KR := Lib.hid (fun W' (h : SesE w1.heap.size R F B 60 cs 7620 W' g) => ses_resize h (by omega) hoi (HSZ.out HSM.out))
      have HBW : Hid (Below w.heap.size w W ∧ w1.heap.size ≤ W.heap.size) := Lib.hid ⟨HB2.out.trans (hbW.mono HB2.out.size), hS.hN⟩
      have KN2 : Hid (∀ W', Lv w1.heap.size F W W' → Calls Tryz.prog 30 #[.slice A l.length c, .string s] W' fun e w' => e = .returned (.bool (findQ l s).isSome) ∧ Below W'.heap.size W' w') := Lib.hid (fun W' h => KN.out W' HSM.out (HBW.out.1.trans ((h.below HBW.out.2).mono HB1.out.size)))
      have hLL := Lv.refl w1.heap.size F W
      have hself : (s.toList == s.toList) = true := by simp
      have hself0 : (t0.toList == t0.toList) = true := by simp
      clear hF hFp hp hlp hbW hG hcs hsum HS2 HSA KQ KQ2 KI KN
      generalize findQ l s = fo at *
      generalize g i = go at *
      generalize sumG g i = S1 at *
      obtain ⟨x0, x1, x2, x3⟩ := HX.out _ hLL
      rcases hfx with ⟨h1, h2, h3, h4⟩ | ⟨h1, h2, h3⟩
      · rw [h1] at KR
        rw [h2] at KE1 ht0
        rw [h3] at KN2
        rw [h4] at KE2
        clear h1 h2 h3 h4 ht0
        generalize rszG cs g i s = g2 at *
        go_wp2_with (first | (go_at_call 19; (with_reducible refine (KS2.out _ hT).mono ?_); rintro e w5 ⟨rfl, hb5⟩; have hLL := Lv.trans hLL (Lv.of hb5); have hT := SesE.grow hT hb5; obtain ⟨x0, x1, x2, x3⟩ := HX.out _ hLL; clear hb5) | (go_at_call 19; (with_reducible refine (KS1.out _ hS).mono ?_); rintro e w5 ⟨rfl, hb5⟩; have hLL := Lv.trans hLL (Lv.of hb5); have hS := SesE.grow hS hb5; obtain ⟨x0, x1, x2, x3⟩ := HX.out _ hLL; clear hb5) | (go_at_call 28; (with_reducible refine (KE2.out _ hT).mono ?_); rintro e w5 ⟨rfl, hb5⟩; have hLL := Lv.trans hLL (Lv.of hb5); have hT := SesE.grow hT hb5; obtain ⟨x0, x1, x2, x3⟩ := HX.out _ hLL; clear hb5) | (go_at_call 28; (with_reducible refine (KE1.out _ hS).mono ?_); rintro e w5 ⟨rfl, hb5⟩; have hLL := Lv.trans hLL (Lv.of hb5); have hS := SesE.grow hS hb5; obtain ⟨x0, x1, x2, x3⟩ := HX.out _ hLL; clear hb5) | (go_at_call 29; (with_reducible refine (KR.out _ hS).mono ?_); rintro e w5 ⟨rfl, hT, hl5⟩; have hLL := Lv.trans hLL hl5; obtain ⟨x0, x1, x2, x3⟩ := HX.out _ hLL; clear hS hl5) | (go_at_call 30; (with_reducible refine (KN2.out _ hLL).mono ?_); rintro e w5 ⟨rfl, hb5⟩; have hLL := Lv.trans hLL (Lv.of hb5); clear hb5) | (go_at_call 11; (with_reducible refine (KA.out _).mono ?_); rintro e wd ⟨rfl, hbd⟩))
        go_ret
        have h9 := HBW.out.1.trans ((hLL.below HBW.out.2).mono HB1.out.size)
        exact ⟨rfl, h9.trans (hbd.mono h9.size)⟩
      · rw [h1] at KR
        have e4 := (congrArg (fun gg => eqpG gg i) h3).trans ht0
        have e4 : eqpG (rszG cs g i s) i = _ := e4
        rw [e4] at KE2
        clear e4
        cases go with
        | none =>
          clear h1 h2 ht0 h3
          simp only [Option.isSome_none] at KE1 KE2
          generalize rszG cs g i s = g2 at *
          go_wp2_with (first | (go_at_call 19; (with_reducible refine (KS2.out _ hT).mono ?_); rintro e w5 ⟨rfl, hb5⟩; have hLL := Lv.trans hLL (Lv.of hb5); have hT := SesE.grow hT hb5; obtain ⟨x0, x1, x2, x3⟩ := HX.out _ hLL; clear hb5) | (go_at_call 19; (with_reducible refine (KS1.out _ hS).mono ?_); rintro e w5 ⟨rfl, hb5⟩; have hLL := Lv.trans hLL (Lv.of hb5); have hS := SesE.grow hS hb5; obtain ⟨x0, x1, x2, x3⟩ := HX.out _ hLL; clear hb5) | (go_at_call 28; (with_reducible refine (KE2.out _ hT).mono ?_); rintro e w5 ⟨rfl, hb5⟩; have hLL := Lv.trans hLL (Lv.of hb5); have hT := SesE.grow hT hb5; obtain ⟨x0, x1, x2, x3⟩ := HX.out _ hLL; clear hb5) | (go_at_call 28; (with_reducible refine (KE1.out _ hS).mono ?_); rintro e w5 ⟨rfl, hb5⟩; have hLL := Lv.trans hLL (Lv.of hb5); have hS := SesE.grow hS hb5; obtain ⟨x0, x1, x2, x3⟩ := HX.out _ hLL; clear hb5) | (go_at_call 29; (with_reducible refine (KR.out _ hS).mono ?_); rintro e w5 ⟨rfl, hT, hl5⟩; have hLL := Lv.trans hLL hl5; obtain ⟨x0, x1, x2, x3⟩ := HX.out _ hLL; clear hS hl5) | (go_at_call 30; (with_reducible refine (KN2.out _ hLL).mono ?_); rintro e w5 ⟨rfl, hb5⟩; have hLL := Lv.trans hLL (Lv.of hb5); clear hb5) | (go_at_call 11; (with_reducible refine (KA.out _).mono ?_); rintro e wd ⟨rfl, hbd⟩))
          go_ret
          have h9 := HBW.out.1.trans ((hLL.below HBW.out.2).mono HB1.out.size)
          exact ⟨rfl, h9.trans (hbd.mono h9.size)⟩
        | some q =>
          rw [show ((some q).isSome && fo.isSome) = fo.isSome from rfl] at h2
          rw [h2] at KN2
          clear h1 h2 ht0 h3
          simp only [Option.isSome_some] at KE1 KE2
          generalize rszG cs g i s = g2 at *
          go_wp2_with (first | (go_at_call 19; (with_reducible refine (KS2.out _ hT).mono ?_); rintro e w5 ⟨rfl, hb5⟩; have hLL := Lv.trans hLL (Lv.of hb5); have hT := SesE.grow hT hb5; obtain ⟨x0, x1, x2, x3⟩ := HX.out _ hLL; clear hb5) | (go_at_call 19; (with_reducible refine (KS1.out _ hS).mono ?_); rintro e w5 ⟨rfl, hb5⟩; have hLL := Lv.trans hLL (Lv.of hb5); have hS := SesE.grow hS hb5; obtain ⟨x0, x1, x2, x3⟩ := HX.out _ hLL; clear hb5) | (go_at_call 28; (with_reducible refine (KE2.out _ hT).mono ?_); rintro e w5 ⟨rfl, hb5⟩; have hLL := Lv.trans hLL (Lv.of hb5); have hT := SesE.grow hT hb5; obtain ⟨x0, x1, x2, x3⟩ := HX.out _ hLL; clear hb5) | (go_at_call 28; (with_reducible refine (KE1.out _ hS).mono ?_); rintro e w5 ⟨rfl, hb5⟩; have hLL := Lv.trans hLL (Lv.of hb5); have hS := SesE.grow hS hb5; obtain ⟨x0, x1, x2, x3⟩ := HX.out _ hLL; clear hb5) | (go_at_call 29; (with_reducible refine (KR.out _ hS).mono ?_); rintro e w5 ⟨rfl, hT, hl5⟩; have hLL := Lv.trans hLL hl5; obtain ⟨x0, x1, x2, x3⟩ := HX.out _ hLL; clear hS hl5) | (go_at_call 30; (with_reducible refine (KN2.out _ hLL).mono ?_); rintro e w5 ⟨rfl, hb5⟩; have hLL := Lv.trans hLL (Lv.of hb5); clear hb5) | (go_at_call 11; (with_reducible refine (KA.out _).mono ?_); rintro e wd ⟨rfl, hbd⟩))
          go_ret
          have h9 := HBW.out.1.trans ((hLL.below HBW.out.2).mono HB1.out.size)
          exact ⟨rfl, h9.trans (hbd.mono h9.size)⟩
end Go.Proofs.YtjmahmeionakaaaGreatDoor

/- What is sold on the six legs, call by call. -/
namespace Go.Proofs.YtjmahmeionakaaaGreatDoor
open Go.RowKit Go.Shelf Go.Maps Go.MapKept
set_option linter.unusedSimpArgs false
set_option linter.unusedVariables false

/-- nothing but a block that is not the inventory's -/
theorem SesE.put {N : Nat} {R F : Nat → Prop} {B n : Nat} {cs : List Cf} {K : Int} {W W' : World} {g : Stk} {b : Nat} (h : SesE N R F B n cs K W g) (hb : But W W' (fun k => k = b)) (hF : F b) (hR : ¬ R b) : SesE N R F B n cs K W' g := by
  obtain ⟨o, h⟩ := h
  exact ⟨o, h.stk.same hb (fun k e => by rw [e]; exact ⟨(h.far b hF).2, hR⟩), h.ok, h.low, fun k hk => ⟨Nat.lt_of_lt_of_le (h.far k hk).1 hb.size, (h.far k hk).2⟩, Nat.le_trans h.hN hb.size⟩
theorem SesE.rlt {N : Nat} {R F : Nat → Prop} {B n : Nat} {cs : List Cf} {K : Int} {W : World} {g : Stk} (h : SesE N R F B n cs K W g) : ∀ k, R k → k < W.heap.size := by
  obtain ⟨o, h⟩ := h
  exact h.stk.rlt
theorem Lv.put {N : Nat} {F : Nat → Prop} {w w' : World} {b : Nat} (hb : But w w' (fun k => k = b)) (hw : w.heap.size ≤ w.heap.size) : But w w' (fun k => k = b) := hb
/-- a call, resizes left out -/
def limD (cs l : List Cf) (g : Stk) (a : Ac) : Stk := if a.kind % 7 = 6 then g else doG cs l g a
def limG (cs l : List Cf) (acts : List Ac) (k : Nat) : Stk := (acts.take k).foldl (limD cs l) S0
theorem limG_succ {cs l : List Cf} {acts : List Ac} {k : Nat} {a : Ac} (h : acts[k]? = some a) : limG cs l acts (k + 1) = limD cs l (limG cs l acts k) a := by
  unfold limG
  rw [List.take_add_one, h, List.foldl_append]
  rfl
/-- by how much a call changes what is sold on a leg -/
def byA (a : Ac) : Int := if a.kind % 7 = 5 then -a.n else a.n
def movB (cs l : List Cf) (g : Stk) (a : Ac) : Bool := decide (doE cs l g a = 0) && !decide (a.kind % 7 = 0) && !decide (a.kind % 7 = 1)
theorem do_sum {K : Int} {cs l : List Cf} {g : Stk} (hG : OkG K cs g) (hcs : ∀ f ∈ cs, GoodF f) (hK : 0 ≤ K) {a : Ac} (h6 : a.kind % 7 ≠ 6) (j : Lid) :
    sumG (doG cs l g a) j = sumG g j + if movB cs l g a = true ∧ j ∈ idsK a then byA a else 0 := by
  unfold movB doE doG byA
  by_cases h0 : a.kind % 7 = 0
  · simp only [h0, if_true]
    rw [sumG_opn hG hcs hK]
    simp
  by_cases h1 : a.kind % 7 = 1
  · simp only [h1, show ¬ ((1 : Int) = 0) by decide, if_false, if_true]
    rw [sumG_clo]
    simp
  by_cases h5 : a.kind % 7 = 5
  · simp only [h5, show ¬ ((5 : Int) = 0) by decide, show ¬ ((5 : Int) = 1) by decide, if_false, if_true]
    rw [sumG_can hG]
    simp
  · simp only [h0, h1, h5, h6, if_false]
    rw [sumG_sel hG]
    simp
theorem do_fit {K : Int} {cs l : List Cf} {g : Stk} (hG : OkG K cs g) (hcs : ∀ f ∈ cs, GoodF f) (hF : FitG g) {a : Ac} (h6 : a.kind % 7 ≠ 6) : FitG (doG cs l g a) := by
  unfold doG
  by_cases h0 : a.kind % 7 = 0
  · rw [if_pos h0]; exact hF.opn hcs _ _
  rw [if_neg h0]
  by_cases h1 : a.kind % 7 = 1
  · rw [if_pos h1]; exact hF.clo _
  rw [if_neg h1]
  by_cases h5 : a.kind % 7 = 5
  · rw [if_pos h5]; exact hF.can hG _ _ _
  rw [if_neg h5, if_neg h6]
  exact hF.sel hG _ _ _
/-- legs are sold on only if they are there, each once -/
theorem mov_ids {cs l : List Cf} {g : Stk} {a : Ac} (h6 : a.kind % 7 ≠ 6) (h : movB cs l g a = true) : idsK a ≠ [] ∧ (idsK a).Nodup := by
  unfold movB doE at h
  simp only [Bool.and_eq_true, decide_eq_true_eq, Bool.not_eq_true', decide_eq_false_iff_not] at h
  obtain ⟨⟨h0, h1⟩, h2⟩ := h
  rw [if_neg h1, if_neg h2, if_neg h6] at h0
  split at h0
  · obtain ⟨_, k1, k2, _⟩ := can_zero' h0; exact ⟨k1, k2⟩
  · obtain ⟨_, k1, k2, _⟩ := sel_zero' h0; exact ⟨k1, k2⟩
/-! ### the six sums -/
def WantOk (L : List Int) (g : Stk) : Prop := L.length = 6 ∧ ∀ (j : Nat) (i : Lid), idL[j]? = some i → L[j]? = some (sumG g i)
theorem idL_len : idL.length = 6 := rfl
theorem idL_nodup : idL.Nodup := Classical.byContradiction (fun h => by
  have h1 := (twi_iff idL).2 h
  rw [show twiP idL = false by kernel_rfl] at h1
  cases h1)
theorem idK_get (k : Int) (hk : 0 ≤ k) : idL[(k % 6).toNat]? = some (idK k) := by
  have h1 := Int.emod_nonneg k (show (6 : Int) ≠ 0 by decide)
  have h2 := Int.emod_lt_of_pos k (show (0 : Int) < 6 by decide)
  have h3 : (k % 6).toNat < idL.length := by rw [idL_len]; omega
  unfold idK
  rw [List.getElem?_eq_getElem h3]
  rfl
theorem idL_inj {j j' : Nat} {i : Lid} (h : idL[j]? = some i) (h' : idL[j']? = some i) : j = j' := by
  obtain ⟨h1, h2⟩ := List.getElem?_eq_some_iff.1 h
  obtain ⟨h3, h4⟩ := List.getElem?_eq_some_iff.1 h'
  have hn := idL_nodup
  rw [List.nodup_iff_pairwise_ne, List.pairwise_iff_getElem] at hn
  rcases Nat.lt_trichotomy j j' with e | e | e
  · exact absurd (h2.trans h4.symm) (hn j j' h1 h3 e)
  · exact e
  · exact absurd (h4.trans h2.symm) (hn j' j h3 h1 e)
theorem WantOk.same {L : List Int} {g g' : Stk} (h : WantOk L g) (hs : ∀ i, sumG g' i = sumG g i) : WantOk L g' := ⟨h.1, fun j i hi => by rw [hs]; exact h.2 j i hi⟩
theorem WantOk.one {L : List Int} {g g' : Stk} (h : WantOk L g) {k : Int} (hk : 0 ≤ k) {m : Int} (hs : ∀ i, sumG g' i = sumG g i + if i = idK k then m else 0) {x : Int} (hx : L[(k % 6).toNat]? = some x) : WantOk (L.set (k % 6).toNat (x + m)) g' := by
  refine ⟨by rw [List.length_set]; exact h.1, fun j i hi => ?_⟩
  rw [hs, List.getElem?_set]
  by_cases e : (k % 6).toNat = j
  · subst e
    have e2 : i = idK k := by rw [idK_get k hk] at hi; exact (Option.some.inj hi).symm
    have h1 := h.2 _ i hi
    rw [hx] at h1
    have h3 := (List.getElem?_eq_some_iff.1 hx).1
    rw [if_pos rfl, if_pos h3, if_pos e2, Option.some.inj h1]
  · have e2 : ¬ i = idK k := fun e2 => e (idL_inj (by rw [e2]; exact idK_get k hk) hi)
    rw [if_neg e, if_neg e2, h.2 j i hi]
    simp
theorem WantOk.get {L : List Int} {g : Stk} (h : WantOk L g) (k : Int) (hk : 0 ≤ k) : L[(k % 6).toNat]? = some (sumG g (idK k)) := h.2 _ _ (idK_get k hk)
/-- the two legs of a call -/
theorem WantOk.two {L : List Int} {g g' : Stk} (h : WantOk L g) {k q : Int} (hk : 0 ≤ k) (hq : 0 ≤ q) {m : Int} (hne : idK k ≠ idK q) (hs : ∀ i, sumG g' i = sumG g i + if i ∈ [idK k, idK q] then m else 0) {x y : Int} (hx : L[(k % 6).toNat]? = some x) (hy : (L.set (k % 6).toNat (x + m))[(q % 6).toNat]? = some y) : WantOk ((L.set (k % 6).toNat (x + m)).set (q % 6).toNat (y + m)) g' := by
  have hd : (k % 6).toNat ≠ (q % 6).toNat := fun e => hne (by
    have h1 := idK_get k hk
    rw [e, idK_get q hq] at h1
    exact (Option.some.inj h1).symm)
  refine ⟨by rw [List.length_set, List.length_set]; exact h.1, fun j i hi => ?_⟩
  rw [hs, List.getElem?_set]
  by_cases e : (q % 6).toNat = j
  · subst e
    have e2 : i = idK q := by rw [idK_get q hq] at hi; exact (Option.some.inj hi).symm
    have h3 := (List.getElem?_eq_some_iff.1 hy).1
    rw [List.getElem?_set, if_neg hd] at hy
    have h1 := h.2 _ i hi
    rw [hy] at h1
    rw [if_pos rfl, if_pos h3, if_pos (by simp [e2]), Option.some.inj h1]
  · rw [if_neg e, List.getElem?_set]
    have n2 : ¬ i = idK q := fun e2 => e (idL_inj (by rw [e2]; exact idK_get q hq) hi)
    by_cases e1 : (k % 6).toNat = j
    · subst e1
      have e2 : i = idK k := by rw [idK_get k hk] at hi; exact (Option.some.inj hi).symm
      have h1 := h.2 _ i hi
      rw [hx] at h1
      have h3 := (List.getElem?_eq_some_iff.1 hx).1
      rw [if_pos rfl, if_pos h3, if_pos (by simp [e2]), Option.some.inj h1]
    · have n1 : ¬ i = idK k := fun e2 => e1 (idL_inj (by rw [e2]; exact idK_get k hk) hi)
      rw [if_neg e1, if_neg (by simp [n1, n2]), h.2 j i hi]
      simp
theorem want_start {g : Stk} (h : ∀ i, g i = none) : WantOk [0, 0, 0, 0, 0, 0] g := by
  refine ⟨rfl, fun j i hi => ?_⟩
  rw [sumG_none (h i)]
  have hj : j < 6 := by have := (List.getElem?_eq_some_iff.1 hi).1; rw [idL_len] at this; exact this
  match j, hj with
  | 0, _ => rfl
  | 1, _ => rfl
  | 2, _ => rfl
  | 3, _ => rfl
  | 4, _ => rfl
  | 5, _ => rfl
theorem OkG.sumB {K : Int} {cs : List Cf} {g : Stk} (h : OkG K cs g) (hK : 0 ≤ K) (i : Lid) : 0 ≤ sumG g i ∧ sumG g i ≤ K := by
  have h1 := h.sum hK i (cntG g i).length
  rw [List.take_length] at h1
  exact h1
end Go.Proofs.YtjmahmeionakaaaGreatDoor
