/- Same. -/
import Derived.Test.YtjcceeikkehglaaDoorCabN
import Derived.Test.YtjcceeikkehglaaDoorCabG
import Derived.Deep.LoopGhost
import Derived.BigQuiet
import Derived.Deep.CutRange
import Derived.Deep.CutBlock
namespace Go.Proofs.YtjcceeikkehglaaDoor
open Go.RowKit Go.Shelf
set_option linter.unusedSimpArgs false
set_option linter.unusedVariables false


theorem anyH_opaque {P : Program} {md : Region.Mode} {ops : Array Oper} {Q : Exit → Act → World → Prop} {S : World → Prop} {fuel : Nat} {listed : Array Bool} {a : Act} {w : World} (R : World → Prop) (hR : R w) (h : ∀ W, R W → wpAnyH P md ops Q S fuel listed a W) : wpAnyH P md ops Q S fuel listed a w := h w hR
set_option maxRecDepth 100000 in
set_option maxHeartbeats 16000000 in
theorem same12_any (f g : Cf) (w : World) (hf : CfAt w f) (hg : CfAt w g) (hs : SamC f g) (hsm : smallF g) :
    Calls Tryd.prog 14 #[aggCf f, aggCf g] w fun e w' => e = .returned (.bool true) ∧ Below w.heap.size w w' := by
  obtain ⟨fe, fA, fc, fl⟩ := f
  obtain ⟨ge, gA, gc, gl⟩ := g
  obtain ⟨hse, hsl⟩ := hs
  dsimp only at hse hsl
  subst hse
  have hlen : fl.length = gl.length := sam_len hsl
  obtain ⟨n8, h30⟩ := hsm
  dsimp only [] at n8 h30
  have hbA := bel_alloc w (.cells #[.string fe, .slice fA fl.length fc] cfT)
  have hbB := bel_alloc (w.alloc (.cells #[.string fe, .slice fA fl.length fc] cfT)) (.cells #[.string fe, .slice gA gl.length gc] cfT)
  have hb0 := hbA.trans (hbB.mono hbA.size)
  have p0 := bel_cell hbB ((cells_new w #[.string fe, .slice fA fl.length fc] cfT 0).trans (show _ = some (Value.string fe) from rfl))
  have p1 := bel_cell hbB ((cells_new w #[.string fe, .slice fA fl.length fc] cfT 1).trans (show _ = some (Value.slice fA fl.length fc) from rfl))
  have q0 := (cells_new (w.alloc (.cells #[.string fe, .slice fA fl.length fc] cfT)) #[.string fe, .slice gA gl.length gc] cfT 0).trans (show _ = some (Value.string fe) from rfl)
  have q1 := (cells_new (w.alloc (.cells #[.string fe, .slice fA fl.length fc] cfT)) #[.string fe, .slice gA gl.length gc] cfT 1).trans (show _ = some (Value.slice gA gl.length gc) from rfl)
  rw [World.size_alloc] at q0 q1
  obtain ⟨B, hB⟩ : ∃ B, B = w.heap.size := ⟨_, rfl⟩
  rw [← hB] at p0 p1 q0 q1
  have HF : Hid (CbL ((w.alloc (.cells #[.string fe, .slice fA fl.length fc] cfT)).alloc (.cells #[.string fe, .slice gA gl.length gc] cfT)) (.slice fA fl.length fc) fl) := Lib.hid (CbL.more hf hb0)
  have HG : Hid (CbL ((w.alloc (.cells #[.string fe, .slice fA fl.length fc] cfT)).alloc (.cells #[.string fe, .slice gA gl.length gc] cfT)) (.slice gA gl.length gc) gl) := Lib.hid (CbL.more hg hb0)
  have HSL := Lib.hid hsl
  have H30 := Lib.hid h30
  have HLN := Lib.hid hlen
  clear hf hg hsl h30 hlen
  go_enter Tryd.func14, Tryd.ntmps14
  go_upto_region 1 with fail
  rw [← hB]
  have HB5 := Lib.hid hb0
  generalize (w.alloc (.cells #[.string fe, .slice fA fl.length fc] cfT)).alloc (.cells #[.string fe, .slice gA gl.length gc] cfT) = w5 at *
  clear hb0 hbA hbB hB
  have hlen := HLN.out
  rw [hlen] at p1
  have g0 : (fe.toList == fe.toList) = true := by simp
  have P1 := Lib.hid (fun W (h : SW w5 W) => bel_get p1 _ h)
  have Q1 := Lib.hid (fun W (h : SW w5 W) => bel_get q1 _ h)
  rw [hlen] at HF
  obtain ⟨n, hn⟩ : ∃ n, n = gl.length := ⟨_, rfl⟩
  have HN := Lib.hid hn
  rw [← hn] at n8 p1 q1 P1 Q1 HF HG
  try rw [hlen, ← hn]
  clear hlen hn
  go_wp2
  clear p0 p1 q0 q1 g0
  go_loopg [5] n (fun kx v5 wr => ∃ i : Nat, v5 = .int .i64 i ∧ i + kx = n ∧ SW w5 wr)
  case atStart => exact ⟨0, rfl, by omega, Below.refl _ _⟩
  case round =>
    obtain ⟨i, rfl, hix, hS5⟩ := hrel
    have HIX := Lib.hid hix
    have p1 := P1.out _ hS5
    have q1 := Q1.out _ hS5
    by_cases hlt : i < n
    · obtain ⟨x, hx⟩ : ∃ x, fl[i]? = some x := ⟨_, List.getElem?_eq_getElem (by have := HLN.out; have := HN.out; omega)⟩
      obtain ⟨y, hy⟩ : ∃ y, gl[i]? = some y := ⟨_, List.getElem?_eq_getElem (by have := HN.out; omega)⟩
      obtain ⟨yA, yc, hye⟩ : ∃ yA yc, y = ⟨x.name, x.seats, x.over, yA, yc, x.l⟩ := by
        have he := sam_at HSL.out hx hy
        obtain ⟨yn, ys, yo, yA, yc, yl⟩ := y
        simp only [pcb, Prod.mk.injEq] at he
        obtain ⟨h1, h2, h3, h4⟩ := he
        exact ⟨yA, yc, by rw [h1, h2, h3, h4]⟩
      subst hye
      have hl30 : x.l.length ≤ 30 := H30.out ⟨x.name, x.seats, x.over, yA, yc, x.l⟩ (List.mem_of_getElem? hy)
      obtain ⟨xA, hxA⟩ : ∃ A, A = x.A := ⟨_, rfl⟩
      have HXA := Lib.hid hxA
      obtain ⟨b1, o1, e1, hg1, hc1⟩ := row_get (HF.out.more hS5).1 hx
      obtain ⟨b2, o2, e2, hg2, hc2⟩ := row_get (HG.out.more hS5).1 hy
      rw [e1] at p1
      rw [e2] at q1
      have u0 := hc1 0 _ rfl
      have u1 := hc1 1 _ rfl
      have u2 := hc1 2 _ rfl
      have u3 := hc1 3 _ rfl
      have v0 := hc2 0 _ rfl
      have v1 := hc2 1 _ rfl
      have v2 := hc2 2 _ rfl
      have v3 := hc2 3 _ rfl
      rw [Nat.add_zero] at u0 v0
      rw [← hxA] at u3
      dsimp only at v0 v1 v2 v3
      have i1 : (i : Int) < (n : Int) := by omega
      have HXR : Hid (∀ W, SW wr W → ClL W (.slice xA x.l.length x.c) x.l ∧ ClL W (.slice yA x.l.length yc) x.l) := Lib.hid (fun W h => by
        rw [hxA]
        exact ⟨((HF.out.more hS5).2 x (List.mem_of_getElem? hx)).more h, RowL.more ((HG.out.more hS5).2 _ (List.mem_of_getElem? hy)) h⟩)
      have P1 := fun W (h : SW wr W) => bel_get p1 _ h
      have Q1 := fun W (h : SW wr W) => bel_get q1 _ h
      have U0 := fun W (h : SW wr W) => bel_get u0 _ h
      have U1 := fun W (h : SW wr W) => bel_get u1 _ h
      have U2 := fun W (h : SW wr W) => bel_get u2 _ h
      have U3 := fun W (h : SW wr W) => bel_get u3 _ h
      have V0 := fun W (h : SW wr W) => bel_get v0 _ h
      have V1 := fun W (h : SW wr W) => bel_get v1 _ h
      have V2 := fun W (h : SW wr W) => bel_get v2 _ h
      have V3 := fun W (h : SW wr W) => bel_get v3 _ h
      clear hx hy hc1 hc2 e1 e2 hg1 hg2 hix hxA
      go_upto_region 6 with fail
      go_cut [6, 7] from 23 to 85 (fun v6 v7 wx => ∃ N6 N7 : Nat, v6 = .pointer (some ⟨N6, 0, none⟩) ∧ v7 = .pointer (some ⟨N7, 0, none⟩) ∧ Hid ((∀ j y, (encCb x)[j]? = some y → wx.cell? ⟨N6, j, none⟩ = some y) ∧ (∀ j y, (encCb ⟨x.name, x.seats, x.over, yA, yc, x.l⟩)[j]? = some y → wx.cell? ⟨N7, j, none⟩ = some y) ∧ SW wr wx))
      case first =>
        have hS : (SW wr) _ := SW.drew _
        refine wp_region_held_drew (S := SW wr) (by kernel_rfl) hS (fun _ => ?_)
        refine wpAnyH_take (i := 0) (v := ?vR60) rfl (by kernel_rfl) (by kernel_rfl) (by kernel_rfl) (fun _ _ _ h => h) (Or.inl ⟨by rfl, ?hyR60⟩) hS ?restR60
        case hyR60 =>
          intro w hSw
          first | (go_simp; done) | (go_simp; with_reducible rfl)
        try simp only [Act.put, List.setIfInBounds_toArray, List.set_cons_zero, List.set_cons_succ]
        refine wpAnyH_take (i := 1) (v := ?vR61) rfl (by kernel_rfl) (by kernel_rfl) (by kernel_rfl) (fun _ _ _ h => h) (Or.inl ⟨by rfl, ?hyR61⟩) hS ?restR61
        case hyR61 =>
          intro w hSw
          have k0 := P1 w hSw; have k1 := Q1 w hSw; have k2 := U0 w hSw; have k3 := U1 w hSw; have k4 := U2 w hSw; have k5 := U3 w hSw; have k6 := V0 w hSw; have k7 := V1 w hSw; have k8 := V2 w hSw; have k9 := V3 w hSw
          first | (go_simp; done) | (go_simp; with_reducible rfl)
        try simp only [Act.put, List.setIfInBounds_toArray, List.set_cons_zero, List.set_cons_succ]
        refine wpAnyH_take (i := 2) (v := ?vR62) rfl (by kernel_rfl) (by kernel_rfl) (by kernel_rfl) (fun _ _ _ h => h) (Or.inl ⟨by rfl, ?hyR62⟩) hS ?restR62
        case hyR62 =>
          intro w hSw
          first | (go_simp; done) | (go_simp; with_reducible rfl)
        try simp only [Act.put, List.setIfInBounds_toArray, List.set_cons_zero, List.set_cons_succ]
        refine wpAnyH_take (i := 3) (v := ?vR63) rfl (by kernel_rfl) (by kernel_rfl) (by kernel_rfl) (fun _ _ _ h => h) (Or.inl ⟨by rfl, ?hyR63⟩) hS ?restR63
        case hyR63 =>
          intro w hSw
          have k0 := P1 w hSw; have k1 := Q1 w hSw; have k2 := U0 w hSw; have k3 := U1 w hSw; have k4 := U2 w hSw; have k5 := U3 w hSw; have k6 := V0 w hSw; have k7 := V1 w hSw; have k8 := V2 w hSw; have k9 := V3 w hSw
          first | (go_simp; done) | (go_simp; with_reducible rfl)
        try simp only [Act.put, List.setIfInBounds_toArray, List.set_cons_zero, List.set_cons_succ]
        refine wpAnyH_take (i := 4) (v := ?vR64) rfl (by kernel_rfl) (by kernel_rfl) (by kernel_rfl) (fun _ _ _ h => h) (Or.inl ⟨by rfl, ?hyR64⟩) hS ?restR64
        case hyR64 =>
          intro w hSw
          have k0 := P1 w hSw; have k1 := Q1 w hSw; have k2 := U0 w hSw; have k3 := U1 w hSw; have k4 := U2 w hSw; have k5 := U3 w hSw; have k6 := V0 w hSw; have k7 := V1 w hSw; have k8 := V2 w hSw; have k9 := V3 w hSw
          first | (go_simp; done) | (go_simp; with_reducible rfl)
        try simp only [Act.put, List.setIfInBounds_toArray, List.set_cons_zero, List.set_cons_succ]
        refine wpAnyH_take (i := 5) (v := ?vR65) rfl (by kernel_rfl) (by kernel_rfl) (by kernel_rfl) (fun _ _ _ h => h) (Or.inl ⟨by rfl, ?hyR65⟩) hS ?restR65
        case hyR65 =>
          intro w hSw
          first | (go_simp; done) | (go_simp; with_reducible rfl)
        try simp only [Act.put, List.setIfInBounds_toArray, List.set_cons_zero, List.set_cons_succ]
        refine wpAnyH_take (i := 6) (v := ?vR66) rfl (by kernel_rfl) (by kernel_rfl) (by kernel_rfl) (fun _ _ _ h => h) (Or.inl ⟨by rfl, ?hyR66⟩) hS ?restR66
        case hyR66 =>
          intro w hSw
          have k0 := P1 w hSw; have k1 := Q1 w hSw; have k2 := U0 w hSw; have k3 := U1 w hSw; have k4 := U2 w hSw; have k5 := U3 w hSw; have k6 := V0 w hSw; have k7 := V1 w hSw; have k8 := V2 w hSw; have k9 := V3 w hSw
          first | (go_simp; done) | (go_simp; with_reducible rfl)
        try simp only [Act.put, List.setIfInBounds_toArray, List.set_cons_zero, List.set_cons_succ]
        refine wpAnyH_take (i := 7) (v := ?vR67) rfl (by kernel_rfl) (by kernel_rfl) (by kernel_rfl) (fun _ _ _ h => h) (Or.inl ⟨by rfl, ?hyR67⟩) hS ?restR67
        case hyR67 =>
          intro w hSw
          first | (go_simp; done) | (go_simp; with_reducible rfl)
        try simp only [Act.put, List.setIfInBounds_toArray, List.set_cons_zero, List.set_cons_succ]
        refine wpAnyH_take (i := 8) (v := ?vR68) rfl (by kernel_rfl) (by kernel_rfl) (by kernel_rfl) (fun _ _ _ h => h) (Or.inl ⟨by rfl, ?hyR68⟩) hS ?restR68
        case hyR68 =>
          intro w hSw
          have k0 := P1 w hSw; have k1 := Q1 w hSw; have k2 := U0 w hSw; have k3 := U1 w hSw; have k4 := U2 w hSw; have k5 := U3 w hSw; have k6 := V0 w hSw; have k7 := V1 w hSw; have k8 := V2 w hSw; have k9 := V3 w hSw
          first | (go_simp; done) | (go_simp; with_reducible rfl)
        try simp only [Act.put, List.setIfInBounds_toArray, List.set_cons_zero, List.set_cons_succ]
        refine wpAnyH_take (i := 9) (v := ?vR69) rfl (by kernel_rfl) (by kernel_rfl) (by kernel_rfl) (fun _ _ _ h => h) (Or.inl ⟨by rfl, ?hyR69⟩) hS ?restR69
        case hyR69 =>
          intro w hSw
          have k0 := P1 w hSw; have k1 := Q1 w hSw; have k2 := U0 w hSw; have k3 := U1 w hSw; have k4 := U2 w hSw; have k5 := U3 w hSw; have k6 := V0 w hSw; have k7 := V1 w hSw; have k8 := V2 w hSw; have k9 := V3 w hSw
          first | (go_simp; done) | (go_simp; with_reducible rfl)
        try simp only [Act.put, List.setIfInBounds_toArray, List.set_cons_zero, List.set_cons_succ]
        refine wpAnyH_ready (rs := [10, 11]) (by kernel_rfl) (by simp) ?_
        refine AllReadyH.cons rfl (fun K hK => ?_) (AllReadyH.cons rfl (fun K hK => ?_) AllReadyH.nil)
        · go_simp
          have hSb := hS
          have hS : SW wr (wr.drew.alloc (.cells #[.string noB, .int .i64 0, .int .i64 0, .slice none 0 0] cbT)) := Below.trans hSb (Below.mono (bel_alloc _ (.cells #[.string noB, .int .i64 0, .int .i64 0, .slice none 0 0] cbT)) hSb.size)
          have hA : (wr.drew.alloc (.cells #[.string noB, .int .i64 0, .int .i64 0, .slice none 0 0] cbT)).heap[wr.heap.size]? = some (.cells #[.string noB, .int .i64 0, .int .i64 0, .slice none 0 0] cbT (0, 0)) := heap_alloc_new wr.drew (.cells #[.string noB, .int .i64 0, .int .i64 0, .slice none 0 0] cbT)
          have hsz : (wr.drew.alloc (.cells #[.string noB, .int .i64 0, .int .i64 0, .slice none 0 0] cbT)).heap.size = wr.heap.size + 1 := World.size_alloc _ _
          refine hK.out _ _ hS (fun _ => ?_)
          clear hK K
          refine anyH_opaque (fun W => SW wr W ∧ W.heap[wr.heap.size]? = some (.cells #[.string noB, .int .i64 0, .int .i64 0, .slice none 0 0] cbT (0, 0)) ∧ W.heap.size = wr.heap.size + 1) ⟨hS, hA, hsz⟩ (fun W1 hR => ?_)
          obtain ⟨hS, hA, hsz⟩ := hR
          have HSZ := Lib.hid hsz
          clear hsz
          refine wpAnyH_ready (rs := [11]) (by kernel_rfl) (by simp) ?_
          refine AllReadyH.cons rfl (fun K hK => ?_) AllReadyH.nil
          go_simp
          have hSb := hS
          have hS : SW wr (W1.alloc (.cells #[.string noB, .int .i64 0, .int .i64 0, .slice none 0 0] cbT)) := Below.trans hSb (Below.mono (bel_alloc _ (.cells #[.string noB, .int .i64 0, .int .i64 0, .slice none 0 0] cbT)) hSb.size)
          have h10 : (W1.alloc (.cells #[.string noB, .int .i64 0, .int .i64 0, .slice none 0 0] cbT)).heap[wr.heap.size]? = some (.cells #[.string noB, .int .i64 0, .int .i64 0, .slice none 0 0] cbT (0, 0)) := ((bel_alloc W1 (.cells #[.string noB, .int .i64 0, .int .i64 0, .slice none 0 0] cbT)).block _ (lt_of_cell2 hA)).trans hA
          have h11 : (W1.alloc (.cells #[.string noB, .int .i64 0, .int .i64 0, .slice none 0 0] cbT)).heap[W1.heap.size]? = some (.cells #[.string noB, .int .i64 0, .int .i64 0, .slice none 0 0] cbT (0, 0)) := heap_alloc_new W1 (.cells #[.string noB, .int .i64 0, .int .i64 0, .slice none 0 0] cbT)
          refine hK.out _ _ hS (fun _ => ?_)
          clear hK K
          refine anyH_opaque (fun W => SW wr W ∧ W.heap[wr.heap.size]? = some (.cells #[.string noB, .int .i64 0, .int .i64 0, .slice none 0 0] cbT (0, 0)) ∧ W.heap[W1.heap.size]? = some (.cells #[.string noB, .int .i64 0, .int .i64 0, .slice none 0 0] cbT (0, 0))) ⟨hS, h10, h11⟩ (fun W2 hR => ?_)
          obtain ⟨hS, h10, h11⟩ := hR
          refine wpAnyH_ready (rs := [12]) (by kernel_rfl) (by simp) ?_
          refine AllReadyH.cons rfl (fun K hK => ?_) AllReadyH.nil
          have n0 := (cell_of_row _ _ 0 _ _ (0, 0) h10).trans (show _ = some _ from rfl)
          have n1 := (cell_of_row _ _ 1 _ _ (0, 0) h10).trans (show _ = some _ from rfl)
          have n2 := (cell_of_row _ _ 2 _ _ (0, 0) h10).trans (show _ = some _ from rfl)
          have n3 := (cell_of_row _ _ 3 _ _ (0, 0) h10).trans (show _ = some _ from rfl)
          have z0 := frozen_of_row _ _ 0 _ _ h10
          have z1 := frozen_of_row _ _ 1 _ _ h10
          have z2 := frozen_of_row _ _ 2 _ _ h10
          have z3 := frozen_of_row _ _ 3 _ _ h10
          go_simp
          have hbt := S4.but W2 wr.heap.size (.string x.name) (.int .i64 x.seats) (.int .i64 x.over) (.slice xA x.l.length x.c)
          have hS : SW wr ((((W2.setCell ⟨wr.heap.size, 0, none⟩ (.string x.name)).setCell ⟨wr.heap.size, 1, none⟩ (.int .i64 x.seats)).setCell ⟨wr.heap.size, 2, none⟩ (.int .i64 x.over)).setCell ⟨wr.heap.size, 3, none⟩ (.slice xA x.l.length x.c)) := Below.trans hS (hbt.below (Below.size hS) (fun q hq he => by have : q = wr.heap.size := he; have := HSZ.out; omega))
          have h10 := S4.heap h10 (.string x.name) (.int .i64 x.seats) (.int .i64 x.over) (.slice xA x.l.length x.c)
          have h11 := (hbt.block W1.heap.size (lt_of_cell2 h11) (by have := HSZ.out; omega)).trans h11
          refine hK.out _ _ hS (fun _ => ?_)
          clear hK K
          refine anyH_opaque (fun W => SW wr W ∧ W.heap[wr.heap.size]? = some (.cells #[.string x.name, .int .i64 x.seats, .int .i64 x.over, .slice xA x.l.length x.c] cbT (0, 0)) ∧ W.heap[W1.heap.size]? = some (.cells #[.string noB, .int .i64 0, .int .i64 0, .slice none 0 0] cbT (0, 0))) ⟨hS, h10, h11⟩ (fun W3 hR => ?_)
          obtain ⟨hS, h10, h11⟩ := hR
          refine wpAnyH_ready (rs := [13]) (by kernel_rfl) (by simp) ?_
          refine AllReadyH.cons rfl (fun K hK => ?_) AllReadyH.nil
          have n0 := (cell_of_row _ _ 0 _ _ (0, 0) h11).trans (show _ = some _ from rfl)
          have n1 := (cell_of_row _ _ 1 _ _ (0, 0) h11).trans (show _ = some _ from rfl)
          have n2 := (cell_of_row _ _ 2 _ _ (0, 0) h11).trans (show _ = some _ from rfl)
          have n3 := (cell_of_row _ _ 3 _ _ (0, 0) h11).trans (show _ = some _ from rfl)
          have z0 := frozen_of_row _ _ 0 _ _ h11
          have z1 := frozen_of_row _ _ 1 _ _ h11
          have z2 := frozen_of_row _ _ 2 _ _ h11
          have z3 := frozen_of_row _ _ 3 _ _ h11
          go_simp
          have hbt := S4.but W3 W1.heap.size (.string x.name) (.int .i64 x.seats) (.int .i64 x.over) (.slice yA x.l.length yc)
          have hS : SW wr ((((W3.setCell ⟨W1.heap.size, 0, none⟩ (.string x.name)).setCell ⟨W1.heap.size, 1, none⟩ (.int .i64 x.seats)).setCell ⟨W1.heap.size, 2, none⟩ (.int .i64 x.over)).setCell ⟨W1.heap.size, 3, none⟩ (.slice yA x.l.length yc)) := Below.trans hS (hbt.below (Below.size hS) (fun q hq he => by have : q = W1.heap.size := he; have := HSZ.out; omega))
          have h11 := S4.heap h11 (.string x.name) (.int .i64 x.seats) (.int .i64 x.over) (.slice yA x.l.length yc)
          have h10 := (hbt.block wr.heap.size (lt_of_cell2 h10) (by have := HSZ.out; omega)).trans h10
          refine hK.out _ _ hS (fun _ => ?_)
          clear hK K
          refine anyH_opaque (fun W => SW wr W ∧ W.heap[wr.heap.size]? = some (.cells #[.string x.name, .int .i64 x.seats, .int .i64 x.over, .slice xA x.l.length x.c] cbT (0, 0)) ∧ W.heap[W1.heap.size]? = some (.cells #[.string x.name, .int .i64 x.seats, .int .i64 x.over, .slice yA x.l.length yc] cbT (0, 0))) ⟨hS, h10, h11⟩ (fun W4 hR => ?_)
          obtain ⟨hS, h10, h11⟩ := hR
          refine wpAnyH_done (by kernel_rfl) ?_ _
          try simp only [List.getElem_toArray, List.getElem_cons_succ, List.getElem_cons_zero, List.set_cons_zero, List.set_cons_succ]
          try simp only [List.setIfInBounds_toArray, List.set_cons_zero, List.set_cons_succ]
          go_wp2_with fail
          go_meet
          exact ⟨_, _, rfl, rfl, Lib.hid ⟨row_cell (enc := encCb) (x := x) h10 (by unfold encCb; rw [← HXA.out]), row_cell (enc := encCb) (x := ⟨x.name, x.seats, x.over, yA, yc, x.l⟩) h11 rfl, hS⟩⟩
        · go_simp
          have hSb := hS
          have hS : SW wr (wr.drew.alloc (.cells #[.string noB, .int .i64 0, .int .i64 0, .slice none 0 0] cbT)) := Below.trans hSb (Below.mono (bel_alloc _ (.cells #[.string noB, .int .i64 0, .int .i64 0, .slice none 0 0] cbT)) hSb.size)
          have hA : (wr.drew.alloc (.cells #[.string noB, .int .i64 0, .int .i64 0, .slice none 0 0] cbT)).heap[wr.heap.size]? = some (.cells #[.string noB, .int .i64 0, .int .i64 0, .slice none 0 0] cbT (0, 0)) := heap_alloc_new wr.drew (.cells #[.string noB, .int .i64 0, .int .i64 0, .slice none 0 0] cbT)
          have hsz : (wr.drew.alloc (.cells #[.string noB, .int .i64 0, .int .i64 0, .slice none 0 0] cbT)).heap.size = wr.heap.size + 1 := World.size_alloc _ _
          refine hK.out _ _ hS (fun _ => ?_)
          clear hK K
          refine anyH_opaque (fun W => SW wr W ∧ W.heap[wr.heap.size]? = some (.cells #[.string noB, .int .i64 0, .int .i64 0, .slice none 0 0] cbT (0, 0)) ∧ W.heap.size = wr.heap.size + 1) ⟨hS, hA, hsz⟩ (fun W1 hR => ?_)
          obtain ⟨hS, hA, hsz⟩ := hR
          have HSZ := Lib.hid hsz
          clear hsz
          refine wpAnyH_ready (rs := [10]) (by kernel_rfl) (by simp) ?_
          refine AllReadyH.cons rfl (fun K hK => ?_) AllReadyH.nil
          go_simp
          have hSb := hS
          have hS : SW wr (W1.alloc (.cells #[.string noB, .int .i64 0, .int .i64 0, .slice none 0 0] cbT)) := Below.trans hSb (Below.mono (bel_alloc _ (.cells #[.string noB, .int .i64 0, .int .i64 0, .slice none 0 0] cbT)) hSb.size)
          have h11 : (W1.alloc (.cells #[.string noB, .int .i64 0, .int .i64 0, .slice none 0 0] cbT)).heap[wr.heap.size]? = some (.cells #[.string noB, .int .i64 0, .int .i64 0, .slice none 0 0] cbT (0, 0)) := ((bel_alloc W1 (.cells #[.string noB, .int .i64 0, .int .i64 0, .slice none 0 0] cbT)).block _ (lt_of_cell2 hA)).trans hA
          have h10 : (W1.alloc (.cells #[.string noB, .int .i64 0, .int .i64 0, .slice none 0 0] cbT)).heap[W1.heap.size]? = some (.cells #[.string noB, .int .i64 0, .int .i64 0, .slice none 0 0] cbT (0, 0)) := heap_alloc_new W1 (.cells #[.string noB, .int .i64 0, .int .i64 0, .slice none 0 0] cbT)
          refine hK.out _ _ hS (fun _ => ?_)
          clear hK K
          refine anyH_opaque (fun W => SW wr W ∧ W.heap[W1.heap.size]? = some (.cells #[.string noB, .int .i64 0, .int .i64 0, .slice none 0 0] cbT (0, 0)) ∧ W.heap[wr.heap.size]? = some (.cells #[.string noB, .int .i64 0, .int .i64 0, .slice none 0 0] cbT (0, 0))) ⟨hS, h10, h11⟩ (fun W2 hR => ?_)
          obtain ⟨hS, h10, h11⟩ := hR
          refine wpAnyH_ready (rs := [12]) (by kernel_rfl) (by simp) ?_
          refine AllReadyH.cons rfl (fun K hK => ?_) AllReadyH.nil
          have n0 := (cell_of_row _ _ 0 _ _ (0, 0) h10).trans (show _ = some _ from rfl)
          have n1 := (cell_of_row _ _ 1 _ _ (0, 0) h10).trans (show _ = some _ from rfl)
          have n2 := (cell_of_row _ _ 2 _ _ (0, 0) h10).trans (show _ = some _ from rfl)
          have n3 := (cell_of_row _ _ 3 _ _ (0, 0) h10).trans (show _ = some _ from rfl)
          have z0 := frozen_of_row _ _ 0 _ _ h10
          have z1 := frozen_of_row _ _ 1 _ _ h10
          have z2 := frozen_of_row _ _ 2 _ _ h10
          have z3 := frozen_of_row _ _ 3 _ _ h10
          go_simp
          have hbt := S4.but W2 W1.heap.size (.string x.name) (.int .i64 x.seats) (.int .i64 x.over) (.slice xA x.l.length x.c)
          have hS : SW wr ((((W2.setCell ⟨W1.heap.size, 0, none⟩ (.string x.name)).setCell ⟨W1.heap.size, 1, none⟩ (.int .i64 x.seats)).setCell ⟨W1.heap.size, 2, none⟩ (.int .i64 x.over)).setCell ⟨W1.heap.size, 3, none⟩ (.slice xA x.l.length x.c)) := Below.trans hS (hbt.below (Below.size hS) (fun q hq he => by have : q = W1.heap.size := he; have := HSZ.out; omega))
          have h10 := S4.heap h10 (.string x.name) (.int .i64 x.seats) (.int .i64 x.over) (.slice xA x.l.length x.c)
          have h11 := (hbt.block wr.heap.size (lt_of_cell2 h11) (by have := HSZ.out; omega)).trans h11
          refine hK.out _ _ hS (fun _ => ?_)
          clear hK K
          refine anyH_opaque (fun W => SW wr W ∧ W.heap[W1.heap.size]? = some (.cells #[.string x.name, .int .i64 x.seats, .int .i64 x.over, .slice xA x.l.length x.c] cbT (0, 0)) ∧ W.heap[wr.heap.size]? = some (.cells #[.string noB, .int .i64 0, .int .i64 0, .slice none 0 0] cbT (0, 0))) ⟨hS, h10, h11⟩ (fun W3 hR => ?_)
          obtain ⟨hS, h10, h11⟩ := hR
          refine wpAnyH_ready (rs := [13]) (by kernel_rfl) (by simp) ?_
          refine AllReadyH.cons rfl (fun K hK => ?_) AllReadyH.nil
          have n0 := (cell_of_row _ _ 0 _ _ (0, 0) h11).trans (show _ = some _ from rfl)
          have n1 := (cell_of_row _ _ 1 _ _ (0, 0) h11).trans (show _ = some _ from rfl)
          have n2 := (cell_of_row _ _ 2 _ _ (0, 0) h11).trans (show _ = some _ from rfl)
          have n3 := (cell_of_row _ _ 3 _ _ (0, 0) h11).trans (show _ = some _ from rfl)
          have z0 := frozen_of_row _ _ 0 _ _ h11
          have z1 := frozen_of_row _ _ 1 _ _ h11
          have z2 := frozen_of_row _ _ 2 _ _ h11
          have z3 := frozen_of_row _ _ 3 _ _ h11
          go_simp
          have hbt := S4.but W3 wr.heap.size (.string x.name) (.int .i64 x.seats) (.int .i64 x.over) (.slice yA x.l.length yc)
          have hS : SW wr ((((W3.setCell ⟨wr.heap.size, 0, none⟩ (.string x.name)).setCell ⟨wr.heap.size, 1, none⟩ (.int .i64 x.seats)).setCell ⟨wr.heap.size, 2, none⟩ (.int .i64 x.over)).setCell ⟨wr.heap.size, 3, none⟩ (.slice yA x.l.length yc)) := Below.trans hS (hbt.below (Below.size hS) (fun q hq he => by have : q = wr.heap.size := he; have := HSZ.out; omega))
          have h11 := S4.heap h11 (.string x.name) (.int .i64 x.seats) (.int .i64 x.over) (.slice yA x.l.length yc)
          have h10 := (hbt.block W1.heap.size (lt_of_cell2 h10) (by have := HSZ.out; omega)).trans h10
          refine hK.out _ _ hS (fun _ => ?_)
          clear hK K
          refine anyH_opaque (fun W => SW wr W ∧ W.heap[W1.heap.size]? = some (.cells #[.string x.name, .int .i64 x.seats, .int .i64 x.over, .slice xA x.l.length x.c] cbT (0, 0)) ∧ W.heap[wr.heap.size]? = some (.cells #[.string x.name, .int .i64 x.seats, .int .i64 x.over, .slice yA x.l.length yc] cbT (0, 0))) ⟨hS, h10, h11⟩ (fun W4 hR => ?_)
          obtain ⟨hS, h10, h11⟩ := hR
          refine wpAnyH_done (by kernel_rfl) ?_ _
          try simp only [List.getElem_toArray, List.getElem_cons_succ, List.getElem_cons_zero, List.set_cons_zero, List.set_cons_succ]
          try simp only [List.setIfInBounds_toArray, List.set_cons_zero, List.set_cons_succ]
          go_wp2_with fail
          go_meet
          exact ⟨_, _, rfl, rfl, Lib.hid ⟨row_cell (enc := encCb) (x := x) h10 (by unfold encCb; rw [← HXA.out]), row_cell (enc := encCb) (x := ⟨x.name, x.seats, x.over, yA, yc, x.l⟩) h11 rfl, hS⟩⟩
      case rest =>
        obtain ⟨N6, N7, rfl, rfl, HC⟩ := hcut
        clear P1 Q1 U0 U1 U2 U3 V0 V1 V2 V3 u0 u1 u2 u3 v0 v1 v2 v3 p1 q1
        obtain ⟨wb, hwb⟩ : ∃ wb, wb = wc := ⟨_, rfl⟩
        subst hwb
        have n0 := HC.out.1 0 _ rfl
        have n1 := HC.out.1 1 _ rfl
        have n2 := HC.out.1 2 _ rfl
        have n3 := HC.out.1 3 _ rfl
        have m0 := HC.out.2.1 0 _ rfl
        have m1 := HC.out.2.1 1 _ rfl
        have m2 := HC.out.2.1 2 _ rfl
        have m3 := HC.out.2.1 3 _ rfl
        dsimp only at m0 m1 m2 m3
        rw [← HXA.out] at n3
        have g1 : (x.name.toList == x.name.toList) = true := by simp
        have g2 : (x.seats == x.seats) = true := by simp
        have g3 : (x.over == x.over) = true := by simp
        have HSB : Hid (SW w5 wb) := Lib.hid (Below.trans hS5 (Below.mono HC.out.2.2 (Below.size hS5)))
        obtain ⟨nk, hnk⟩ : ∃ nk, nk = x.l.length := ⟨_, rfl⟩
        have HNK := Lib.hid hnk
        rw [← hnk] at hl30 n3 m3
        have HX2 : Hid (∀ W, SW wb W → ClL W (.slice xA nk x.c) x.l ∧ ClL W (.slice yA nk yc) x.l) := Lib.hid (fun W h => by rw [HNK.out]; exact HXR.out W (Below.trans HC.out.2.2 (Below.mono h HC.out.2.2.size)))
        clear hnk hS5 HXR
        go_upto_region 10 with fail
        have N3 := Lib.hid (fun W (h : SW wb W) => bel_get n3 _ h)
        have M3 := Lib.hid (fun W (h : SW wb W) => bel_get m3 _ h)
        clear n0 n1 n2 n3 m0 m1 m2 m3 g1 g2 g3 HC
        go_loopg [8] nk (fun kx v8 wq => ∃ k : Nat, v8 = .int .i64 k ∧ k + kx = nk ∧ SW wb wq)
        case atStart => exact ⟨0, rfl, by omega, Below.refl _ _⟩
        case round =>
          obtain ⟨k, rfl, hkx, hS⟩ := hrel
          have HKX := Lib.hid hkx
          have n3 := N3.out _ hS
          have m3 := M3.out _ hS
          have HS := Lib.hid hS
          by_cases hlk : k < nk
          · obtain ⟨z, hz⟩ : ∃ z, x.l[k]? = some z := ⟨_, List.getElem?_eq_getElem (by have := HNK.out; omega)⟩
            obtain ⟨b3, o3, e3, hg3, hc3⟩ := row_get (HX2.out _ hS).1 hz
            obtain ⟨b4, o4, e4, hg4, hc4⟩ := row_get (HX2.out _ hS).2 hz
            rw [e3] at n3
            rw [e4] at m3
            have s0 := hc3 0 _ rfl
            have s1 := hc3 1 _ rfl
            have t0 := hc4 0 _ rfl
            have t1 := hc4 1 _ rfl
            rw [Nat.add_zero] at s0 t0
            have i3 : (k : Int) < (nk : Int) := by omega
            have g4 : (z.code.toList == z.code.toList) = true := by simp
            have g5 : (z.prot == z.prot) = true := by simp
            clear hc3 hc4 hg3 hg4 e3 e4 hkx hz
            go_wp2
            go_quiet (fail)
            go_wp2
            go_roundg (nk - (k + 1))
            case measure => have := HKX.out; omega
            case rel => exact ⟨k + 1, by go_num, by have := HKX.out; omega, below_drewN HS.out _⟩
          · have i3 : ¬ (k : Int) < (nk : Int) := by omega
            go_wp2
            go_roundg (n - (i + 1))
            case measure => have := HIX.out; omega
            case rel => exact ⟨i + 1, by go_num, by have := HIX.out; omega, Below.trans HSB.out (Below.mono HS.out HSB.out.size)⟩
    · have i1 : ¬ (i : Int) < (n : Int) := by omega
      go_wp2
      go_ret
      exact ⟨rfl, HB5.out.trans (Below.mono hS5 HB5.out.size)⟩
end Go.Proofs.YtjcceeikkehglaaDoor
