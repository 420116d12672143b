/- Words and walks that the laws below ask: ShrO. -/
import Derived.Test.YtdpcjafkahhecaaGreatDoorPk11
import Derived.Test.YtdpcjafkahhecaaGreatDoorPk16
/- Walk of Check of shares. -/
namespace Go.Proofs.YtdpcjafkahhecaaGreatDoor
open Go.RowKit Go.Shelf Go.Maps
set_option linter.unusedSimpArgs false
set_option linter.unusedVariables false
attribute [local go_sem] Oper.semAt_some
attribute [local simp] wide_fn
abbrev opsT : TypeId := 64
/-- what holds between the rounds of the first loop: Z is the block of the box of the places -/
def PreF (A0 : Option Addr) (c0 : Nat) (fs : List FV) (w : World) (Z : Nat) (pre : List (Bf fs)) (W : World) : Prop := (∃ g, TV W (Z + 1) (Z + 1) pre.length g (opT (hadF pre))) ∧ Boxed W (Z + 1 + 1) opsT (.map (some (Z + 1))) ∧ Boxed W (Z + 1 + 1 + 1) flsT (.slice A0 fs.length c0) ∧ Below w.heap.size w W
theorem preF_own (A0 : Option Addr) (c0 : Nat) (fs : List FV) (w : World) (Z B : Nat) (hB : w.heap.size ≤ B) : OwnBk B (PreF A0 c0 fs w Z) := fun s X Y row ⟨⟨g, h1⟩, h2, h4, h3⟩ hg hr => by
  have hr' : ∀ r, row = some r → ∃ o : Obj, X.heap[r]? = some o ∧ bookB o = true := fun r e => (hr r e).2
  refine ⟨⟨g, h1.kept hg hr'⟩, book_cells hg hr' h2 rfl, book_cells hg hr' h4 rfl, h3.trans ⟨hg.os, hg.tape, hg.output, hg.size, fun k hk => hg.block k (Nat.lt_of_lt_of_le hk h3.size) (fun e => ?_)⟩⟩
  have := (hr k e.symm).1
  omega
/-- the loop's variable: a flight in a block of its own -/
def AtF (p : PV) (A0 A : Option Addr) (c0 c : Nat) (fs : List FV) (sh : List Sh) (Z : Nat) (y : Bf fs) (a : Act) (W : World) : Prop := ∃ B, a = { tmps := #[encP p, .slice A0 fs.length c0, .slice A sh.length c, .pointer (some ⟨Z, 0, none⟩), undef, undef, .slice none 0 0, .slice none 0 0, .pointer (some ⟨Z + 1 + 1, 0, none⟩), undef, .pointer (some ⟨B, 0, none⟩), undef, undef, undef, undef, undef, .map (some (Z + 1)), .slice A0 fs.length c0, .func (.func 60) #[] #[.pointer (some ⟨Z + 1 + 1 + 1, 0, none⟩)], .int .i64 (y.1.1 : Int), encFl y.1.2, undef, undef, undef, undef, undef, undef, undef, undef, undef, undef, undef, undef, undef, undef, undef, undef, undef, undef, undef, undef, undef, undef, undef, undef, undef, undef, undef, undef, undef, undef, undef, undef, undef, undef, undef, undef, undef, undef, undef, undef, undef, undef, undef, undef, undef, undef, undef, undef, undef, undef, undef, undef, undef, undef, undef, undef, undef, undef, undef, undef, undef, undef, undef, undef, undef, undef, undef, undef, undef, undef, undef, undef, undef, undef, undef, undef, undef, undef, undef], defers := [] } ∧ W.heap[B]? = some (.cells #[.string y.1.2.car, .int .i64 y.1.2.num, .int .i64 y.1.2.pf, .int .i64 y.1.2.pt, .int .i64 y.1.2.pd, .slice y.1.2.A y.1.2.lg.length y.1.2.c] fliT (0, 0))
/-- a tail that ends and does not panic -/
def tailP (Q : Exit → Act → World → Prop) : Exit → Act → World → Prop
  | .normal, a, w => Q .normal a w
  | .ret, a, w => Q .ret a w
  | _, _, _ => False
theorem tailP_le (Q : Exit → Act → World → Prop) (e : Exit) (a : Act) (w : World) (h : tailP Q e a w) : Q e a w := by
  cases e with
  | normal => exact h
  | ret => exact h
  | _ => exact h.elim
set_option maxRecDepth 100000 in
set_option maxHeartbeats 16000000 in
theorem ccheck_any (p : PV) (A0 : Option Addr) (c0 : Nat) (fs : List FV) (A : Option Addr) (c : Nat) (sh : List Sh) (w : World) (hfl : fs.length ≤ 1000) (hv : TblL w (.slice A0 fs.length c0) fs) (hl : sh.length ≤ 50) (hs : RowL 9 encSh9 w (.slice A sh.length c) sh)
    (hfo : ∀ f ∈ fs, (f.car.size ≤ maxLen ∧ (Lit.int .i64 f.num).wf = true) ∧ f.lg.length ≤ 1000 ∧ f.lg.length ≤ f.c) (hso : ∀ s ∈ sh, (s.car.size ≤ maxLen ∧ (Lit.int .i64 s.num).wf = true) ∧ s.op.size ≤ maxLen ∧ (Lit.int .i64 s.am).wf = true) :
    CallsIn Fence.wide 10 Tryz.prog 11 #[encP p, .slice A0 fs.length c0, .slice A sh.length c] w fun e w' => ∃ v, e = .returned v ∧ FOwn w.heap.size w' v (shrF fs sh sh.length) ∧ Below w.heap.size w w' := by
  have hmm := @run_makeMap Tryz.prog
  refine callsIn_of_wp_marks Tryz.func11 rfl trivial ?_ rfl
  simp only [Tryz.ntmps11, List.size_toArray, List.length_cons, List.length_nil, Nat.reduceAdd, Nat.reduceSub, Array.replicate_succ, Array.replicate_zero, List.push_toArray, List.append_toArray, List.nil_append, List.cons_append]
  have HV := Lib.hid hv
  have HS := Lib.hid hs
  have HFO := Lib.hid hfo
  have HSO := Lib.hid hso
  have HFL := Lib.hid hfl
  clear hv hs hfo hso
  gi_wp2_with (gi_at_call 30; refine (back_any _ _ _ _).mono ?_; rintro e w2 ⟨rfl, rfl⟩)
  obtain ⟨Z, hZ⟩ : ∃ Z, Z = w.heap.size := ⟨_, rfl⟩
  have HZ := Lib.hid hZ
  obtain ⟨W0, hW0⟩ : ∃ W0, W0 = (((w.alloc (.cells #[.slice p.A p.l.length p.ca, .slice p.D p.ds.length p.cd] placesT)).alloc (.map #[] 0)).alloc (.cells #[.map (some (w.heap.size + 1))] opsT)).alloc (.cells #[.slice A0 fs.length c0] flsT) := ⟨_, rfl⟩
  have hs0 : W0.heap.size = Z + 4 := by rw [hW0, hZ]; simp
  have p0 : PreF A0 c0 fs w Z [] W0 := by
    have e : opT (hadF ([] : List (Bf fs))) = fun _ _ => none := by funext c d; rfl
    have h1 := TV.made (w.alloc (.cells #[.slice p.A p.l.length p.ca, .slice p.D p.ds.length p.cd] placesT)) (w.heap.size + 1) (by simp)
    rw [World.size_alloc] at h1
    have h2 := Boxed.new ((w.alloc (.cells #[.slice p.A p.l.length p.ca, .slice p.D p.ds.length p.cd] placesT)).alloc (.map #[] 0)) opsT (.map (some (w.heap.size + 1)))
    simp only [World.size_alloc] at h2
    rw [hW0, hZ]
    have h4 := Boxed.new (((w.alloc (.cells #[.slice p.A p.l.length p.ca, .slice p.D p.ds.length p.cd] placesT)).alloc (.map #[] 0)).alloc (.cells #[.map (some (w.heap.size + 1))] opsT)) flsT (.slice A0 fs.length c0)
    simp only [World.size_alloc] at h4
    refine ⟨⟨_, by rw [e]; exact (h1.more (bel_alloc _ _)).more (bel_alloc _ _)⟩, h2.alloc _, h4, ?_⟩
    exact ((((Below.refl w.heap.size w).alloc (Nat.le_refl _) _).alloc (by simp) _).alloc (by simp; omega) _).alloc (by simp; omega) _
  have b4 := p0.2.2.1
  have hIF : InF w.heap.size W0 A0 fs := (inF_of HV.out.row).more p0.2.2.2
  rw [← hZ]
  rw [show (((w.alloc (.cells #[.slice p.A p.l.length p.ca, .slice p.D p.ds.length p.cd] placesT)).alloc (.map #[] 0)).alloc (.cells #[.map (some (Z + 1))] opsT)).alloc (.cells #[.slice A0 fs.length c0] flsT) = W0 by rw [hW0, hZ]]
  have hzW : w.heap.size ≤ W0.heap.size := by omega
  clear hW0 hZ hmm
  refine range_maps rfl (by omega) (gf := 60) (lb := #[.pointer (some ⟨Z + 1 + 1 + 1, 0, none⟩)]) rfl trivial (enters_of Tryz.func60 (by kernel_rfl) rfl)
    (back_seq (Z + 1 + 1 + 1) w.heap.size A0 c0 fs hfl W0 hzW b4 hIF) kp_t (kp_b hzW (by omega)) (Below.refl _ _) (fun _ => rfl)
    (PreF A0 c0 fs w Z) (preF_own A0 c0 fs w Z _ hzW) p0 (AtF p A0 A c0 c fs sh Z) ?ax ?assign ?body ?done
  case ax =>
    rintro x a' s X Y row ⟨B, rfl, h⟩ hg hr
    exact ⟨B, rfl, book_cells hg (fun r e => (hr r e).2) h rfl⟩
  case assign =>
    rintro l pre ⟨⟨q, x⟩, hx⟩ W K hI hK
    dsimp only [encBf]
    rw [zip_two]
    have hba := bel_alloc W (.cells #[.string x.car, .int .i64 x.num, .int .i64 x.pf, .int .i64 x.pt, .int .i64 x.pd, .slice x.A x.lg.length x.c] fliT)
    have hK := hK { tmps := #[encP p, .slice A0 fs.length c0, .slice A sh.length c, .pointer (some ⟨Z, 0, none⟩), undef, undef, .slice none 0 0, .slice none 0 0, .pointer (some ⟨Z + 1 + 1, 0, none⟩), undef, .pointer (some ⟨W.heap.size, 0, none⟩), undef, undef, undef, undef, undef, .map (some (Z + 1)), .slice A0 fs.length c0, .func (.func 60) #[] #[.pointer (some ⟨Z + 1 + 1 + 1, 0, none⟩)], .int .i64 (q : Int), encFl x, undef, undef, undef, undef, undef, undef, undef, undef, undef, undef, undef, undef, undef, undef, undef, undef, undef, undef, undef, undef, undef, undef, undef, undef, undef, undef, undef, undef, undef, undef, undef, undef, undef, undef, undef, undef, undef, undef, undef, undef, undef, undef, undef, undef, undef, undef, undef, undef, undef, undef, undef, undef, undef, undef, undef, undef, undef, undef, undef, undef, undef, undef, undef, undef, undef, undef, undef, undef, undef, undef, undef, undef, undef, undef, undef, undef, undef, undef, undef], defers := [] } (W.alloc (.cells #[.string x.car, .int .i64 x.num, .int .i64 x.pf, .int .i64 x.pt, .int .i64 x.pd, .slice x.A x.lg.length x.c] fliT)) ⟨hba.size, fun k o _ hk _ => (hba.block k (Array.getElem?_eq_some_iff.1 hk).1).trans hk⟩ ⟨hba.mono hI.2.2.2.size, hba.block _ hI.2.2.1.lt⟩ ⟨hI.1.imp fun g h => h.more hba, boxed_more hI.2.1 hba, boxed_more hI.2.2.1 hba, hI.2.2.2.trans (hba.mono hI.2.2.2.size)⟩ ⟨W.heap.size, rfl, heap_alloc_new _ _⟩
    gi_wp2
    exact hK
  case body =>
    rintro l pre ⟨⟨q, x⟩, hx⟩ a' W ⟨⟨g, hT⟩, hB8, hB9, hBl⟩ ⟨B, rfl, hB⟩ hlt
    clear hs0 p0 b4 hIF
    dsimp only at hx hB ⊢
    have d0 := hB8.cell
    have z0 : W.cell? ⟨B, 0, none⟩ = some (.string x.car) := by simp [World.cell?, hB]
    have z1 : W.cell? ⟨B, 1, none⟩ = some (.int .i64 x.num) := by simp [World.cell?, hB]
    have z2 : W.cell? ⟨B, 2, none⟩ = some (.int .i64 x.pf) := by simp [World.cell?, hB]
    have z3 : W.cell? ⟨B, 3, none⟩ = some (.int .i64 x.pt) := by simp [World.cell?, hB]
    have z4 : W.cell? ⟨B, 4, none⟩ = some (.int .i64 x.pd) := by simp [World.cell?, hB]
    have z5 : W.cell? ⟨B, 5, none⟩ = some (.slice x.A x.lg.length x.c) := by simp [World.cell?, hB]
    have hfo := HFO.out x (List.mem_of_getElem? hx)
    have KE := Lib.hid (CallsIn.inRound (n := 7) l (callsIn_wide.2 (enterL_any (Z + 1) (Z + 1) pre.length g (opT (hadF pre)) x.car x.num x.pf x.pt x.pd (.slice x.A x.lg.length x.c) W hT (by omega) (by have := hT.map.lt; omega) hfo.1.1 hfo.1.2)))
    gi_wp2_with (gi_at_call 31; refine KE.out.mono ?_; rintro e w9 ⟨⟨v9, rfl⟩, ⟨g9, hT9⟩, hbu⟩)
    have hbe : Below w.heap.size W w9 := hbu.below hBl.size (fun k hk hx => by have := hx.1; have := HZ.out; omega)
    have hb9 := but_obj hbu hB9
    have hlen : (pre ++ [(⟨(q, x), hx⟩ : Bf fs)]).length = pre.length + 1 := by simp
    refine ⟨keepsBk_but hbu, ⟨hbe, hb9.trans hB9.symm⟩, ⟨g9, ?_⟩, but_obj hbu hB8, hb9, hBl.trans hbe⟩
    rw [hadF_snoc, opT_cons, hlen]
    exact hT9
  case done =>
    rintro D ys W hD hys ⟨⟨g, hT⟩, hB8, hB9, hBl⟩ hK
    have hall := hadF_all hys
    rw [hall] at hT
    have HF := Lib.hid hT.fix
    rename_i zz2 zz3 zz4
    refine zz4 _ _ (wpIn_wide.2 (wp_mono ?_ (tailP_le zz2)))
    clear zz4 zz3 hs0 p0 b4 hIF hB9 hys hall hT
    dsimp only
    have hmm := @run_makeMap Tryz.prog
    obtain ⟨sb, hsb⟩ : ∃ sb, sb = W.heap.size := ⟨_, rfl⟩
    have hbm := bel_alloc W (.map #[] 0)
    have htm : TV (W.alloc (.map #[] 0)) sb sb 0 (fun _ => none) (boT (soS (sh.take 0))) := by
      rw [List.take_zero, boT_nil, hsb]
      exact TV.made W _ (Nat.le_refl _)
    have hDs : D < sb := by rw [hsb]; exact (Array.getElem?_eq_some_iff.1 hK).1
    have hZs : Z + 1 + 1 < sb := by rw [hsb]; exact hB8.lt
    have HB8 := Lib.hid hB8
    have HSB := Lib.hid hsb
    have HKD := Lib.hid hK
    rw [← hsb] at HF
    have hwsb : w.heap.size ≤ sb := by rw [hsb]; exact hBl.size
    have HBL := Lib.hid hBl
    clear hB8 hBl hK
    go_upto_region 7 with fail
    try rw [← hsb]
    rw [← hsb] at hbm
    generalize W.alloc (.map #[] 0) = w5 at *
    have HTM := Lib.hid htm
    have HBM := Lib.hid hbm
    clear htm hbm hsb
    go_wp2
    go_loopw [7, 35] (fun v vi wr => ∃ (k : Nat), k ≤ sh.length ∧ vi = .int .i64 k ∧ Hid (FOwn sb wr v (shrF fs sh k) ∧ (∃ g, TV wr sb sb k g (boT (soS (sh.take k)))) ∧ Below sb W wr)) (fun _ vi _ => sh.length - (intOf vi).toNat)
    case atStart => exact ⟨0, Nat.zero_le _, rfl, Lib.hid ⟨ROwn.nil (by have h1 := HBM.out.size; have h2 := HSB.out; omega), ⟨_, HTM.out⟩, HBM.out⟩⟩
    case round =>
      obtain ⟨v, hv7⟩ : ∃ v, v = u7 := ⟨_, rfl⟩
      subst hv7
      obtain ⟨k, hk, rfl, HK⟩ := hrel
      obtain ⟨hO, ⟨g, htm⟩, hbk⟩ := HK.out
      by_cases hlt : k < sh.length
      · obtain ⟨s, hs⟩ : ∃ s, sh[k]? = some s := ⟨_, List.getElem?_eq_getElem hlt⟩
        have hsm := List.mem_of_getElem? hs
        have hws : Below w.heap.size w wr := HBL.out.trans (hbk.mono hwsb)
        obtain ⟨b, o, e1, hbl, hc⟩ := RowL.at9 (HS.out.more hws) hs
        cases e1
        have i2 : (k : Int) < (sh.length : Int) := by omega
        have d0 := hc 0 _ rfl
        have d1 := hc 1 _ rfl
        have d2 := hc 2 _ rfl
        have d3 := hc 3 _ rfl
        have d4 := hc 4 _ rfl
        have d5 := hc 5 _ rfl
        have d6 := hc 6 _ rfl
        have d7 := hc 7 _ rfl
        have d8 := hc 8 _ rfl
        rw [Nat.add_zero] at d0
        have HSU := Lib.hid (shrF_succ fs sh k s hs)
        have HNX := Lib.hid (soS_next sh hs)
        have HFL2 : Hid ((shrF fs sh k).length ≤ 1000000) := Lib.hid (by have h1 := shrF_le fs sh k; omega)
        have hso := HSO.out s hsm
        have hb6 := bel_alloc wr (.cells #[.string s.car, .int .i64 s.num, .int .i64 s.pf, .int .i64 s.pt, .int .i64 s.pd, .string s.op, .int .i64 s.am, .string s.f, .string s.t] shT)
        have HV1 : Hid (∀ g, v.ownBlock = some g → sb ≤ g ∧ g < wr.heap.size) := Lib.hid (fun g hg => hO.low hg)
        have n0 := (cells_new wr #[.string s.car, .int .i64 s.num, .int .i64 s.pf, .int .i64 s.pt, .int .i64 s.pd, .string s.op, .int .i64 s.am, .string s.f, .string s.t] shT 0).trans (show _ = some (Value.string s.car) from rfl)
        have n1 := (cells_new wr #[.string s.car, .int .i64 s.num, .int .i64 s.pf, .int .i64 s.pt, .int .i64 s.pd, .string s.op, .int .i64 s.am, .string s.f, .string s.t] shT 1).trans (show _ = some (Value.int .i64 s.num) from rfl)
        have n2 := (cells_new wr #[.string s.car, .int .i64 s.num, .int .i64 s.pf, .int .i64 s.pt, .int .i64 s.pd, .string s.op, .int .i64 s.am, .string s.f, .string s.t] shT 2).trans (show _ = some (Value.int .i64 s.pf) from rfl)
        have n3 := (cells_new wr #[.string s.car, .int .i64 s.num, .int .i64 s.pf, .int .i64 s.pt, .int .i64 s.pd, .string s.op, .int .i64 s.am, .string s.f, .string s.t] shT 3).trans (show _ = some (Value.int .i64 s.pt) from rfl)
        have n4 := (cells_new wr #[.string s.car, .int .i64 s.num, .int .i64 s.pf, .int .i64 s.pt, .int .i64 s.pd, .string s.op, .int .i64 s.am, .string s.f, .string s.t] shT 4).trans (show _ = some (Value.int .i64 s.pd) from rfl)
        have n5 := (cells_new wr #[.string s.car, .int .i64 s.num, .int .i64 s.pf, .int .i64 s.pt, .int .i64 s.pd, .string s.op, .int .i64 s.am, .string s.f, .string s.t] shT 5).trans (show _ = some (Value.string s.op) from rfl)
        have n6 := (cells_new wr #[.string s.car, .int .i64 s.num, .int .i64 s.pf, .int .i64 s.pt, .int .i64 s.pd, .string s.op, .int .i64 s.am, .string s.f, .string s.t] shT 6).trans (show _ = some (Value.int .i64 s.am) from rfl)
        have n7 := (cells_new wr #[.string s.car, .int .i64 s.num, .int .i64 s.pf, .int .i64 s.pt, .int .i64 s.pd, .string s.op, .int .i64 s.am, .string s.f, .string s.t] shT 7).trans (show _ = some (Value.string s.f) from rfl)
        have n8 := (cells_new wr #[.string s.car, .int .i64 s.num, .int .i64 s.pf, .int .i64 s.pt, .int .i64 s.pd, .string s.op, .int .i64 s.am, .string s.f, .string s.t] shT 8).trans (show _ = some (Value.string s.t) from rfl)
        clear hc hbl hs hsm HK
        have hO := hO.more hb6
        have htm := htm.more hb6
        have hsbr : sb ≤ wr.heap.size := by have h1 := hbk.size; have h2 := HSB.out; omega
        have hbk := hbk.trans (hb6.mono hsbr)
        go_upto_region 10 with fail
        generalize hw6 : wr.alloc (.cells #[.string s.car, .int .i64 s.num, .int .i64 s.pf, .int .i64 s.pt, .int .i64 s.pd, .string s.op, .int .i64 s.am, .string s.f, .string s.t] shT) = w6 at *
        clear hw6 hb6 d0 d1 d2 d3 d4 d5 d6 d7 d8
        have hN : wr.heap.size < w6.heap.size := World.block_lt_of_cell? _ _ n0
        have HO6 := Lib.hid hO
        have HTM6 := Lib.hid htm
        have HBK6 := Lib.hid hbk
        have m8 := (hbk.cell (p := ⟨Z + 1 + 1, 0, none⟩) hZs).trans HB8.out.cell
        have hbw6 : Below w.heap.size w w6 := HBL.out.trans (hbk.mono hwsb)
        have hs6 : sb ≤ w6.heap.size := by omega
        have KO := Lib.hid (coper_any fs (Z + 1) sb s w6 (HF.out.more hbk) hs6 (fun f hf => (HV.out.legs f hf).more hbw6) (fun f hf => (HFO.out f hf).2) hso.2.1 hso.2.2)
        clear hO htm hbk
        obtain ⟨x4, hx4⟩ : ∃ x : Int, x = wh ((Per.daysQ (s.pf, s.pt, s.pd)).any (nonD fs s)) 7 := ⟨_, rfl⟩
        obtain ⟨x5, hx5⟩ : ∃ x : Int, x = wh ((Per.daysQ (s.pf, s.pt, s.pd)).any (offD fs s)) 15 := ⟨_, rfl⟩
        obtain ⟨x6, hx6⟩ : ∃ x : Int, x = wh ((Per.daysQ (s.pf, s.pt, s.pd)).any (ownB fs (soS (sh.take k)) s)) 6 := ⟨_, rfl⟩
        obtain ⟨x3, hx3⟩ : ∃ x : Int, x = Per.errQ (s.pf, s.pt, s.pd) := ⟨_, rfl⟩
        obtain ⟨kd, hkd⟩ : ∃ x : Bool, (s.car.toList == s.op.toList) = x := ⟨_, rfl⟩
        obtain ⟨c0', hc0⟩ : ∃ x : Bool, x = carB s.car := ⟨_, rfl⟩
        obtain ⟨c1, hc1⟩ : ∃ x : Bool, x = carB s.op := ⟨_, rfl⟩
        obtain ⟨k0, hk0⟩ : ∃ x : Bool, x = num9B s.num := ⟨_, rfl⟩
        obtain ⟨k1, hk1⟩ : ∃ x : Bool, x = num9B s.am := ⟨_, rfl⟩
        have HEq : Hid (shEs fs (sh.take k) s = [wh (!c0' || !c1) 5, wh (!k0 || !k1) 2, wh kd 8, x3, x4, x5, x6]) := Lib.hid (by rw [hc0, hc1, hk0, hk1, ← hkd, hx3, hx4, hx5, hx6]; rfl)
        have KC0 : Hid (∀ W, Calls Tryz.prog 36 #[.string s.car] W fun e w' => e = .returned (.bool c0') ∧ W = w') := Lib.hid (fun W => by rw [hc0]; exact carrier_any s.car W hso.1.1)
        have KC1 : Hid (∀ W, Calls Tryz.prog 36 #[.string s.op] W fun e w' => e = .returned (.bool c1) ∧ W = w') := Lib.hid (fun W => by rw [hc1]; exact carrier_any s.op W hso.2.1)
        have KN0 : Hid (∀ W, Calls Tryz.prog 37 #[.int .i64 s.num] W fun e w' => e = .returned (.bool k0) ∧ W = w') := Lib.hid (fun W => by rw [hk0]; exact isNum9_any s.num W)
        have KN1 : Hid (∀ W, Calls Tryz.prog 37 #[.int .i64 s.am] W fun e w' => e = .returned (.bool k1) ∧ W = w') := Lib.hid (fun W => by rw [hk1]; exact isNum9_any s.am W)
        have KP : Hid (∀ W, Calls Tryz.prog 38 #[.agg #[.int .i64 s.pf, .int .i64 s.pt, .int .i64 s.pd]] W fun e w' => e = .returned (.int .i64 x3) ∧ Below W.heap.size W w') := Lib.hid (fun W => by rw [hx3]; exact Per.check_any s.pf s.pt s.pd W)
        rw [← hx4, ← hx5] at KO
        have HX6 := Lib.hid hx6
        clear hx3 hx4 hx5 hx6 hc0 hc1 hk0 hk1
        go_upto_region 11 with (go_at_call 32; refine KO.out.mono ?_; rintro e w7 ⟨rfl, hb7⟩)
        have hO := HO6.out.more hb7
        have htm := HTM6.out.more hb7
        have hbk := HBK6.out.trans (hb7.mono hs6)
        have hs7 : sb ≤ w7.heap.size := by have := hb7.size; omega
        have HV7 : Hid (∀ q, q < sb → v.ownBlock ≠ some q) := Lib.hid (fun q hq e => by have := (HV1.out q e).1; omega)
        have HSW : Hid (∀ W', SX w7 v W' → Below sb w7 W') := Lib.hid (fun W' h => h.below hs7 (fun q hq e => HV7.out q hq e))
        have HTM7 : Hid (∀ W', SX w7 v W' → TV W' sb sb k g (boT (soS (sh.take k)))) := Lib.hid (fun W' h => htm.but h (fun q hm hq => hO.not_map q hq hm))
        have HBK7 := Lib.hid hbk
        have KS : Hid (∀ W', SX w7 v W' → Calls Tryz.prog 39 #[.map (some (Z + 1)), .map (some sb), encSh s] W' fun e w' => e = .returned (.int .i64 x6) ∧ Below W'.heap.size W' w') := Lib.hid (fun W' h => by
          rw [HX6.out]
          exact csole_any fs (Z + 1) sb sb sb k g (soS (sh.take k)) s W' (HF.out.more (HBK7.out.trans (HSW.out W' h))) (Nat.le_trans hs7 h.size) (HTM7.out W' h) hso.1.1 hso.1.2)
        have hvN : v.ownBlock ≠ some wr.heap.size := fun h => by have := (HV1.out _ h).2; omega
        have m8 : ∀ W', SX w7 v W' → W'.cell? ⟨Z + 1 + 1, 0, none⟩ = some (.map (some (Z + 1))) := fun W' h => SX.cell (bel_cell hb7 m8) (HV7.out _ hZs) h
        have n0 : ∀ W', SX w7 v W' → W'.cell? ⟨wr.heap.size, 0, none⟩ = some (Value.string s.car) := fun W' h => SX.cell (bel_cell hb7 n0) hvN h
        have n1 : ∀ W', SX w7 v W' → W'.cell? ⟨wr.heap.size, 1, none⟩ = some (Value.int .i64 s.num) := fun W' h => SX.cell (bel_cell hb7 n1) hvN h
        have n2 : ∀ W', SX w7 v W' → W'.cell? ⟨wr.heap.size, 2, none⟩ = some (Value.int .i64 s.pf) := fun W' h => SX.cell (bel_cell hb7 n2) hvN h
        have n3 : ∀ W', SX w7 v W' → W'.cell? ⟨wr.heap.size, 3, none⟩ = some (Value.int .i64 s.pt) := fun W' h => SX.cell (bel_cell hb7 n3) hvN h
        have n4 : ∀ W', SX w7 v W' → W'.cell? ⟨wr.heap.size, 4, none⟩ = some (Value.int .i64 s.pd) := fun W' h => SX.cell (bel_cell hb7 n4) hvN h
        have n5 : ∀ W', SX w7 v W' → W'.cell? ⟨wr.heap.size, 5, none⟩ = some (Value.string s.op) := fun W' h => SX.cell (bel_cell hb7 n5) hvN h
        have n6 : ∀ W', SX w7 v W' → W'.cell? ⟨wr.heap.size, 6, none⟩ = some (Value.int .i64 s.am) := fun W' h => SX.cell (bel_cell hb7 n6) hvN h
        have n7 : ∀ W', SX w7 v W' → W'.cell? ⟨wr.heap.size, 7, none⟩ = some (Value.string s.f) := fun W' h => SX.cell (bel_cell hb7 n7) hvN h
        have n8 : ∀ W', SX w7 v W' → W'.cell? ⟨wr.heap.size, 8, none⟩ = some (Value.string s.t) := fun W' h => SX.cell (bel_cell hb7 n8) hvN h
        have KD := Lib.hid (dec_small k (by omega))
        have hadd : ∀ W : World, (Op.stringOp .add ⟨#[115, 104, 97, 114, 101, 32]⟩ (decA k)).run Tryz.prog W = .ok (.string (shW ++ decA k)) W := fun W => run_string_add_sum W _ _ (by have := decA_size k (by omega); have e : (⟨#[115, 104, 97, 114, 101, 32]⟩ : ByteArray).size = 6 := rfl; omega)
        generalize decA k = sk at *
        have hO := hO.more (Below.refl _ w7).drew
        clear htm hbk KO HO6 HTM6 hb7 hN hbw6
        have hS : (SX w7 v) _ := But.of_below (Below.refl _ _).drew
        refine wp_region_held_drew (S := SX w7 v) (by kernel_rfl) hS (fun _ => ?_)
        refine wpAnyH_take (i := 0) (v := ?vC0) rfl (by kernel_rfl) (by kernel_rfl) (by kernel_rfl) (fun _ _ _ h => h) (Or.inl ⟨by rfl, ?hyC0⟩) hS ?restC0
        case hyC0 =>
          intro w hSw
          first | (go_simp; done) | (go_simp; with_reducible rfl)
        try simp only [Act.put, List.setIfInBounds_toArray, List.set_cons_zero, List.set_cons_succ]
        refine wpAnyH_take (i := 1) (v := ?vC1) rfl (by kernel_rfl) (by kernel_rfl) (by kernel_rfl) (fun _ _ _ h => h) (Or.inl ⟨by rfl, ?hyC1⟩) hS ?restC1
        case hyC1 =>
          intro w hSw
          first | (go_simp; done) | (go_simp; with_reducible rfl)
        try simp only [Act.put, List.setIfInBounds_toArray, List.set_cons_zero, List.set_cons_succ]
        refine wpAnyH_take (i := 4) (v := ?vC4) rfl (by kernel_rfl) (by kernel_rfl) (by kernel_rfl) (fun _ _ _ h => h) (Or.inl ⟨by rfl, ?hyC4⟩) hS ?restC4
        case hyC4 =>
          intro w hSw
          first | (go_simp; done) | (go_simp; with_reducible rfl)
        try simp only [Act.put, List.setIfInBounds_toArray, List.set_cons_zero, List.set_cons_succ]
        refine wpAnyH_take (i := 5) (v := ?vC5) rfl (by kernel_rfl) (by kernel_rfl) (by kernel_rfl) (fun _ _ _ h => h) (Or.inl ⟨by rfl, ?hyC5⟩) hS ?restC5
        case hyC5 =>
          intro w hSw
          have k0 := n0 w hSw
          first | (go_simp; done) | (go_simp; with_reducible rfl)
        try simp only [Act.put, List.setIfInBounds_toArray, List.set_cons_zero, List.set_cons_succ]
        refine wpAnyH_take (i := 15) (v := ?vC15) rfl (by kernel_rfl) (by kernel_rfl) (by kernel_rfl) (fun _ _ _ h => h) (Or.inl ⟨by rfl, ?hyC15⟩) hS ?restC15
        case hyC15 =>
          intro w hSw
          first | (go_simp; done) | (go_simp; with_reducible rfl)
        try simp only [Act.put, List.setIfInBounds_toArray, List.set_cons_zero, List.set_cons_succ]
        refine wpAnyH_take (i := 16) (v := ?vC16) rfl (by kernel_rfl) (by kernel_rfl) (by kernel_rfl) (fun _ _ _ h => h) (Or.inl ⟨by rfl, ?hyC16⟩) hS ?restC16
        case hyC16 =>
          intro w hSw
          have k0 := n1 w hSw
          first | (go_simp; done) | (go_simp; with_reducible rfl)
        try simp only [Act.put, List.setIfInBounds_toArray, List.set_cons_zero, List.set_cons_succ]
        refine wpAnyH_take (i := 26) (v := ?vC26) rfl (by kernel_rfl) (by kernel_rfl) (by kernel_rfl) (fun _ _ _ h => h) (Or.inl ⟨by rfl, ?hyC26⟩) hS ?restC26
        case hyC26 =>
          intro w hSw
          first | (go_simp; done) | (go_simp; with_reducible rfl)
        try simp only [Act.put, List.setIfInBounds_toArray, List.set_cons_zero, List.set_cons_succ]
        refine wpAnyH_take (i := 27) (v := ?vC27) rfl (by kernel_rfl) (by kernel_rfl) (by kernel_rfl) (fun _ _ _ h => h) (Or.inl ⟨by rfl, ?hyC27⟩) hS ?restC27
        case hyC27 =>
          intro w hSw
          have k0 := n0 w hSw
          first | (go_simp; done) | (go_simp; with_reducible rfl)
        try simp only [Act.put, List.setIfInBounds_toArray, List.set_cons_zero, List.set_cons_succ]
        refine wpAnyH_take (i := 28) (v := ?vC28) rfl (by kernel_rfl) (by kernel_rfl) (by kernel_rfl) (fun _ _ _ h => h) (Or.inl ⟨by rfl, ?hyC28⟩) hS ?restC28
        case hyC28 =>
          intro w hSw
          first | (go_simp; done) | (go_simp; with_reducible rfl)
        try simp only [Act.put, List.setIfInBounds_toArray, List.set_cons_zero, List.set_cons_succ]
        refine wpAnyH_take (i := 29) (v := ?vC29) rfl (by kernel_rfl) (by kernel_rfl) (by kernel_rfl) (fun _ _ _ h => h) (Or.inl ⟨by rfl, ?hyC29⟩) hS ?restC29
        case hyC29 =>
          intro w hSw
          have k0 := n5 w hSw
          first | (go_simp; done) | (go_simp; with_reducible rfl)
        try simp only [Act.put, List.setIfInBounds_toArray, List.set_cons_zero, List.set_cons_succ]
        refine wpAnyH_take (i := 30) (v := ?vC30) rfl (by kernel_rfl) (by kernel_rfl) (by kernel_rfl) (fun _ _ _ h => h) (Or.inl ⟨by rfl, ?hyC30⟩) hS ?restC30
        case hyC30 =>
          intro w hSw
          first | (go_simp; done) | (go_simp; with_reducible rfl)
        try simp only [Act.put, List.setIfInBounds_toArray, List.set_cons_zero, List.set_cons_succ]
        refine wpAnyH_take (i := 32) (v := ?vC32) rfl (by kernel_rfl) (by kernel_rfl) (by kernel_rfl) (fun _ _ _ h => h) (Or.inl ⟨by rfl, ?hyC32⟩) hS ?restC32
        case hyC32 =>
          intro w hSw
          first | (go_simp; done) | (go_simp; with_reducible rfl)
        try simp only [Act.put, List.setIfInBounds_toArray, List.set_cons_zero, List.set_cons_succ]
        refine wpAnyH_take (i := 33) (v := ?vC33) rfl (by kernel_rfl) (by kernel_rfl) (by kernel_rfl) (fun _ _ _ h => h) (Or.inl ⟨by rfl, ?hyC33⟩) hS ?restC33
        case hyC33 =>
          intro w hSw
          have k0 := n2 w hSw; have k1 := n3 w hSw; have k2 := n4 w hSw
          first | (go_simp; done) | (go_simp; with_reducible rfl)
        try simp only [Act.put, List.setIfInBounds_toArray, List.set_cons_zero, List.set_cons_succ]
        refine wpAnyH_take (i := 35) (v := ?vC35) rfl (by kernel_rfl) (by kernel_rfl) (by kernel_rfl) (fun _ _ _ h => h) (Or.inl ⟨by rfl, ?hyC35⟩) hS ?restC35
        case hyC35 =>
          intro w hSw
          first | (go_simp; done) | (go_simp; with_reducible rfl)
        try simp only [Act.put, List.setIfInBounds_toArray, List.set_cons_zero, List.set_cons_succ]
        refine wpAnyH_take (i := 36) (v := ?vC36) rfl (by kernel_rfl) (by kernel_rfl) (by kernel_rfl) (fun _ _ _ h => h) (Or.inl ⟨by rfl, ?hyC36⟩) hS ?restC36
        case hyC36 =>
          intro w hSw
          first | (go_simp; done) | (go_simp; with_reducible rfl)
        try simp only [Act.put, List.setIfInBounds_toArray, List.set_cons_zero, List.set_cons_succ]
        refine wpAnyH_take (i := 37) (v := ?vC37) rfl (by kernel_rfl) (by kernel_rfl) (by kernel_rfl) (fun _ _ _ h => h) (Or.inl ⟨by rfl, ?hyC37⟩) hS ?restC37
        case hyC37 =>
          intro w hSw
          have k0 := m8 w hSw
          first | (go_simp; done) | (go_simp; with_reducible rfl)
        try simp only [Act.put, List.setIfInBounds_toArray, List.set_cons_zero, List.set_cons_succ]
        refine wpAnyH_take (i := 38) (v := ?vC38) rfl (by kernel_rfl) (by kernel_rfl) (by kernel_rfl) (fun _ _ _ h => h) (Or.inl ⟨by rfl, ?hyC38⟩) hS ?restC38
        case hyC38 =>
          intro w hSw
          first | (go_simp; done) | (go_simp; with_reducible rfl)
        try simp only [Act.put, List.setIfInBounds_toArray, List.set_cons_zero, List.set_cons_succ]
        refine wpAnyH_take (i := 39) (v := ?vC39) rfl (by kernel_rfl) (by kernel_rfl) (by kernel_rfl) (fun _ _ _ h => h) (Or.inl ⟨by rfl, ?hyC39⟩) hS ?restC39
        case hyC39 =>
          intro w hSw
          have k0 := n0 w hSw; have k1 := n1 w hSw; have k2 := n2 w hSw; have k3 := n3 w hSw; have k4 := n4 w hSw; have k5 := n5 w hSw; have k6 := n6 w hSw; have k7 := n7 w hSw; have k8 := n8 w hSw
          first | (go_simp; done) | (go_simp; with_reducible rfl)
        try simp only [Act.put, List.setIfInBounds_toArray, List.set_cons_zero, List.set_cons_succ]
        refine wpAnyH_ready (rs := [2]) (by kernel_rfl) (by simp) ?_
        refine AllReadyH.cons rfl (fun K hK => ?_) AllReadyH.nil
        go_simp
        go_wp2_with ((go_at_call 34; refine (KD.out _).mono ?_; rintro e w' ⟨rfl, rfl⟩))
        refine hK.out _ _ hS (fun _ => ?_)
        clear hK K
        refine wpAnyH_take (i := 3) (v := ?vC3) rfl (by kernel_rfl) (by kernel_rfl) (by kernel_rfl) (fun _ _ _ h => h) (Or.inl ⟨by rfl, ?hyC3⟩) hS ?restC3
        case hyC3 =>
          intro w hSw
          have kadd := hadd w
          first | (go_simp; done) | (go_simp; with_reducible rfl)
        try simp only [Act.put, List.setIfInBounds_toArray, List.set_cons_zero, List.set_cons_succ]
        refine wpAnyH_ready (rs := [6]) (by kernel_rfl) (by simp) ?_
        refine AllReadyH.cons rfl (fun K hK => ?_) AllReadyH.nil
        go_simp
        go_wp2_with ((go_at_call 36; refine (KC0.out _).mono ?_; rintro e w' ⟨rfl, rfl⟩))
        refine hK.out _ _ hS (fun _ => ?_)
        clear hK K
        refine wpAnyH_take (i := 7) (v := ?vC7) rfl (by kernel_rfl) (by kernel_rfl) (by kernel_rfl) (fun _ _ _ h => h) (Or.inl ⟨by rfl, ?hyC7⟩) hS ?restC7
        case hyC7 =>
          intro w hSw
          first | (go_simp; done) | (go_simp; with_reducible rfl)
        try simp only [Act.put, List.setIfInBounds_toArray, List.set_cons_zero, List.set_cons_succ]
        refine wpAnyH_take (i := 8) (v := ?vC8) rfl (by kernel_rfl) (by kernel_rfl) (by kernel_rfl) (fun _ _ _ h => h) (Or.inl ⟨by rfl, ?hyC8⟩) hS ?restC8
        case hyC8 =>
          intro w hSw
          first | (go_simp; done) | (go_simp; with_reducible rfl)
        try simp only [Act.put, List.setIfInBounds_toArray, List.set_cons_zero, List.set_cons_succ]
        cases c0' with
        | false =>
          refine wpAnyH_take (i := 9) (v := undef) rfl (by kernel_rfl) (by kernel_rfl) (by kernel_rfl) (fun _ _ _ h => h) (Or.inr ⟨by kernel_rfl, rfl⟩) hS ?_
          try simp only [Act.put, List.setIfInBounds_toArray, List.set_cons_zero, List.set_cons_succ]
          refine wpAnyH_take (i := 10) (v := undef) rfl (by kernel_rfl) (by kernel_rfl) (by kernel_rfl) (fun _ _ _ h => h) (Or.inr ⟨by kernel_rfl, rfl⟩) hS ?_
          try simp only [Act.put, List.setIfInBounds_toArray, List.set_cons_zero, List.set_cons_succ]
          refine wpAnyH_take (i := 11) (v := undef) rfl (by kernel_rfl) (by kernel_rfl) (by kernel_rfl) (fun _ _ _ h => h) (Or.inr ⟨by kernel_rfl, rfl⟩) hS ?_
          try simp only [Act.put, List.setIfInBounds_toArray, List.set_cons_zero, List.set_cons_succ]
          refine wpAnyH_take (i := 12) (v := undef) rfl (by kernel_rfl) (by kernel_rfl) (by kernel_rfl) (fun _ _ _ h => h) (Or.inr ⟨by kernel_rfl, rfl⟩) hS ?_
          try simp only [Act.put, List.setIfInBounds_toArray, List.set_cons_zero, List.set_cons_succ]
          refine wpAnyH_take (i := 13) (v := ?vCf13) rfl (by kernel_rfl) (by kernel_rfl) (by kernel_rfl) (fun _ _ _ h => h) (Or.inl ⟨by rfl, ?hyCf13⟩) hS ?restCf13
          case hyCf13 =>
            intro w hSw
            first | (go_simp; done) | (go_simp; with_reducible rfl)
          try simp only [Act.put, List.setIfInBounds_toArray, List.set_cons_zero, List.set_cons_succ]
          refine wpAnyH_ready (rs := [14]) (by kernel_rfl) (by simp) ?_
          refine AllReadyH.cons rfl (fun K hK => ?_) AllReadyH.nil
          go_simp
          go_wp2_with ((go_at_call 35; refine (fwh_any _ _ _).mono ?_; rintro e w' ⟨rfl, rfl⟩))
          refine hK.out _ _ hS (fun _ => ?_)
          clear hK K
          refine wpAnyH_ready (rs := [17]) (by kernel_rfl) (by simp) ?_
          refine AllReadyH.cons rfl (fun K hK => ?_) AllReadyH.nil
          go_simp
          go_wp2_with ((go_at_call 37; refine (KN0.out _).mono ?_; rintro e w' ⟨rfl, rfl⟩))
          refine hK.out _ _ hS (fun _ => ?_)
          clear hK K
          refine wpAnyH_take (i := 18) (v := ?vCf18) rfl (by kernel_rfl) (by kernel_rfl) (by kernel_rfl) (fun _ _ _ h => h) (Or.inl ⟨by rfl, ?hyCf18⟩) hS ?restCf18
          case hyCf18 =>
            intro w hSw
            first | (go_simp; done) | (go_simp; with_reducible rfl)
          try simp only [Act.put, List.setIfInBounds_toArray, List.set_cons_zero, List.set_cons_succ]
          refine wpAnyH_take (i := 19) (v := ?vCf19) rfl (by kernel_rfl) (by kernel_rfl) (by kernel_rfl) (fun _ _ _ h => h) (Or.inl ⟨by rfl, ?hyCf19⟩) hS ?restCf19
          case hyCf19 =>
            intro w hSw
            first | (go_simp; done) | (go_simp; with_reducible rfl)
          try simp only [Act.put, List.setIfInBounds_toArray, List.set_cons_zero, List.set_cons_succ]
          cases k0 with
          | false =>
            refine wpAnyH_take (i := 20) (v := undef) rfl (by kernel_rfl) (by kernel_rfl) (by kernel_rfl) (fun _ _ _ h => h) (Or.inr ⟨by kernel_rfl, rfl⟩) hS ?_
            try simp only [Act.put, List.setIfInBounds_toArray, List.set_cons_zero, List.set_cons_succ]
            refine wpAnyH_take (i := 21) (v := undef) rfl (by kernel_rfl) (by kernel_rfl) (by kernel_rfl) (fun _ _ _ h => h) (Or.inr ⟨by kernel_rfl, rfl⟩) hS ?_
            try simp only [Act.put, List.setIfInBounds_toArray, List.set_cons_zero, List.set_cons_succ]
            refine wpAnyH_take (i := 22) (v := undef) rfl (by kernel_rfl) (by kernel_rfl) (by kernel_rfl) (fun _ _ _ h => h) (Or.inr ⟨by kernel_rfl, rfl⟩) hS ?_
            try simp only [Act.put, List.setIfInBounds_toArray, List.set_cons_zero, List.set_cons_succ]
            refine wpAnyH_take (i := 23) (v := undef) rfl (by kernel_rfl) (by kernel_rfl) (by kernel_rfl) (fun _ _ _ h => h) (Or.inr ⟨by kernel_rfl, rfl⟩) hS ?_
            try simp only [Act.put, List.setIfInBounds_toArray, List.set_cons_zero, List.set_cons_succ]
            refine wpAnyH_take (i := 24) (v := ?vCff24) rfl (by kernel_rfl) (by kernel_rfl) (by kernel_rfl) (fun _ _ _ h => h) (Or.inl ⟨by rfl, ?hyCff24⟩) hS ?restCff24
            case hyCff24 =>
              intro w hSw
              first | (go_simp; done) | (go_simp; with_reducible rfl)
            try simp only [Act.put, List.setIfInBounds_toArray, List.set_cons_zero, List.set_cons_succ]
            refine wpAnyH_ready (rs := [25]) (by kernel_rfl) (by simp) ?_
            refine AllReadyH.cons rfl (fun K hK => ?_) AllReadyH.nil
            go_simp
            go_wp2_with ((go_at_call 35; refine (fwh_any _ _ _).mono ?_; rintro e w' ⟨rfl, rfl⟩))
            refine hK.out _ _ hS (fun _ => ?_)
            clear hK K
            refine wpAnyH_ready (rs := [31]) (by kernel_rfl) (by simp) ?_
            refine AllReadyH.cons rfl (fun K hK => ?_) AllReadyH.nil
            go_simp
            go_wp2_with ((go_at_call 35; refine (fwh_any _ _ _).mono ?_; rintro e w' ⟨rfl, rfl⟩))
            refine hK.out _ _ hS (fun _ => ?_)
            clear hK K
            refine wpAnyH_ready (rs := [34]) (by kernel_rfl) (by simp) ?_
            refine AllReadyH.cons rfl (fun K hK => ?_) AllReadyH.nil
            go_simp
            go_wp2_with ((go_at_call 38; refine (KP.out _).mono ?_; rintro e w' ⟨rfl, hb'⟩; have hO := hO.more hb'; have hS := hS.on hb'))
            refine hK.out _ _ hS (fun _ => ?_)
            clear hK K
            refine wpAnyH_ready (rs := [40]) (by kernel_rfl) (by simp) ?_
            refine AllReadyH.cons rfl (fun K hK => ?_) AllReadyH.nil
            go_simp
            go_wp2_with ((go_at_call 39; refine (KS.out _ hS).mono ?_; rintro e w' ⟨rfl, hb'⟩; have hO := hO.more hb'; have hS := hS.on hb'))
            refine hK.out _ _ hS (fun _ => ?_)
            clear hK K
            refine wpAnyH_ready (rs := [41]) (by kernel_rfl) (by simp) ?_
            refine AllReadyH.cons rfl (fun K hK => ?_) AllReadyH.nil
            go_simp
            have hNv : v.ownBlock ≠ some w'.heap.size := fun h => Nat.lt_irrefl _ (hO.low h).2
            have hO := hO.alloc (.cells #[.int .i64 (wh true 5), .int .i64 (wh true 2), .int .i64 (wh kd 8), .int .i64 (x3), .int .i64 (x4), .int .i64 (x5), .int .i64 (x6)] errT)
            have hS := hS.on (bel_alloc _ (.cells #[.int .i64 (wh true 5), .int .i64 (wh true 2), .int .i64 (wh kd 8), .int .i64 (x3), .int .i64 (x4), .int .i64 (x5), .int .i64 (x6)] errT))
            refine hK.out _ _ hS (fun _ => ?_)
            clear hK K
            refine wpAnyH_ready (rs := [42]) (by kernel_rfl) (by simp) ?_
            refine AllReadyH.cons rfl (fun K hK => ?_) AllReadyH.nil
            go_simp
            go_wp2_with ((go_at_call 33; refine (fadd_any _ v _ _ w'.heap.size 7 7 [wh true 5, wh true 2, wh kd 8, x3, x4, x5, x6] _ hO rfl (by omega) (errs_new w' _ rfl) hNv HFL2.out).mono ?_; rintro e w8 ⟨v8, rfl, hO8, hC8⟩; have hS := hS.trans hC8.but (fun _ _ h => h)))
            refine hK.out _ _ hS (fun _ => ?_)
            clear hK K
            refine wpAnyH_take (i := 43) (v := ?vCff43) rfl (by kernel_rfl) (by kernel_rfl) (by kernel_rfl) (fun _ _ _ h => h) (Or.inl ⟨by rfl, ?hyCff43⟩) hS ?restCff43
            case hyCff43 =>
              intro w hSw
              first | (go_simp; done) | (go_simp; with_reducible rfl)
            try simp only [Act.put, List.setIfInBounds_toArray, List.set_cons_zero, List.set_cons_succ]
            refine wpAnyH_done (by kernel_rfl) ?_ _
            simp only [List.getElem_toArray, List.getElem_cons_succ, List.getElem_cons_zero, List.set_cons_zero, List.set_cons_succ]
            have HEr : Hid (shEs fs (sh.take k) s = [wh true 5, wh true 2, wh kd 8, x3, x4, x5, x6]) := Lib.hid (by rw [HEq.out]; simp [wh])
            have HY : Hid (FOwn sb w8 v8 (shrF fs sh (k + 1))) := Lib.hid (by rw [HSU.out, HEr.out]; exact hO8)
            have htm8 := HTM7.out _ hS
            have hbk8 := HBK7.out.trans (HSW.out _ hS)
            have hs8 : sb ≤ w8.heap.size := Nat.le_trans hs7 hS.size
            have KE := Lib.hid (enterB_any sb sb k g (boT (soS (sh.take k))) s.car s.num s.pf s.pt s.pd (.bool true) w8 htm8 (by omega) hs8 hso.1.1 hso.1.2)
            have HBK8 := Lib.hid hbk8
            have HS8 := Lib.hid hs8
            have y0 := n0 _ hS
            have y1 := n1 _ hS
            have y2 := n2 _ hS
            have y3 := n3 _ hS
            have y4 := n4 _ hS
            clear hO8 hC8 hO htm8 hbk8 hs8 n0 n1 n2 n3 n4 n5 n6 n7 n8 m8 hS
            go_wp2_with (go_at_call 40; refine KE.out.mono ?_; rintro e w9 ⟨⟨v9, rfl⟩, ⟨g9, hT9⟩, hbu⟩)
            go_roundw
            case rel => exact ⟨k + 1, by omega, by go_num, Lib.hid ⟨HY.out.but hbu HY.out.not_map, ⟨g9, by rw [HNX.out]; exact hT9⟩, HBK8.out.trans (hbu.below HS8.out (fun q hq h => by have := h.1; omega))⟩⟩
            case measure => simp [intOf]; omega
          | true =>
            refine wpAnyH_take (i := 20) (v := ?vCft20) rfl (by kernel_rfl) (by kernel_rfl) (by kernel_rfl) (fun _ _ _ h => h) (Or.inl ⟨by kernel_rfl, ?hyCft20⟩) hS ?restCft20
            case hyCft20 =>
              intro w hSw
              first | (go_simp; done) | (go_simp; with_reducible rfl)
            try simp only [Act.put, List.setIfInBounds_toArray, List.set_cons_zero, List.set_cons_succ]
            refine wpAnyH_take (i := 21) (v := ?vCft21) rfl (by kernel_rfl) (by kernel_rfl) (by kernel_rfl) (fun _ _ _ h => h) (Or.inl ⟨by kernel_rfl, ?hyCft21⟩) hS ?restCft21
            case hyCft21 =>
              intro w hSw
              have k0 := n6 w hSw
              first | (go_simp; done) | (go_simp; with_reducible rfl)
            try simp only [Act.put, List.setIfInBounds_toArray, List.set_cons_zero, List.set_cons_succ]
            refine wpAnyH_ready (rs := [22]) (by kernel_rfl) (by simp) ?_
            refine AllReadyH.cons rfl (fun K hK => ?_) AllReadyH.nil
            go_simp
            go_wp2_with ((go_at_call 37; refine (KN1.out _).mono ?_; rintro e w' ⟨rfl, rfl⟩))
            refine hK.out _ _ hS (fun _ => ?_)
            clear hK K
            refine wpAnyH_take (i := 23) (v := ?vCft23) rfl (by kernel_rfl) (by kernel_rfl) (by kernel_rfl) (fun _ _ _ h => h) (Or.inl ⟨by kernel_rfl, ?hyCft23⟩) hS ?restCft23
            case hyCft23 =>
              intro w hSw
              first | (go_simp; done) | (go_simp; with_reducible rfl)
            try simp only [Act.put, List.setIfInBounds_toArray, List.set_cons_zero, List.set_cons_succ]
            refine wpAnyH_take (i := 24) (v := ?vCft24) rfl (by kernel_rfl) (by kernel_rfl) (by kernel_rfl) (fun _ _ _ h => h) (Or.inl ⟨by rfl, ?hyCft24⟩) hS ?restCft24
            case hyCft24 =>
              intro w hSw
              first | (go_simp; done) | (go_simp; with_reducible rfl)
            try simp only [Act.put, List.setIfInBounds_toArray, List.set_cons_zero, List.set_cons_succ]
            refine wpAnyH_ready (rs := [25]) (by kernel_rfl) (by simp) ?_
            refine AllReadyH.cons rfl (fun K hK => ?_) AllReadyH.nil
            go_simp
            go_wp2_with ((go_at_call 35; refine (fwh_any _ _ _).mono ?_; rintro e w' ⟨rfl, rfl⟩))
            refine hK.out _ _ hS (fun _ => ?_)
            clear hK K
            refine wpAnyH_ready (rs := [31]) (by kernel_rfl) (by simp) ?_
            refine AllReadyH.cons rfl (fun K hK => ?_) AllReadyH.nil
            go_simp
            go_wp2_with ((go_at_call 35; refine (fwh_any _ _ _).mono ?_; rintro e w' ⟨rfl, rfl⟩))
            refine hK.out _ _ hS (fun _ => ?_)
            clear hK K
            refine wpAnyH_ready (rs := [34]) (by kernel_rfl) (by simp) ?_
            refine AllReadyH.cons rfl (fun K hK => ?_) AllReadyH.nil
            go_simp
            go_wp2_with ((go_at_call 38; refine (KP.out _).mono ?_; rintro e w' ⟨rfl, hb'⟩; have hO := hO.more hb'; have hS := hS.on hb'))
            refine hK.out _ _ hS (fun _ => ?_)
            clear hK K
            refine wpAnyH_ready (rs := [40]) (by kernel_rfl) (by simp) ?_
            refine AllReadyH.cons rfl (fun K hK => ?_) AllReadyH.nil
            go_simp
            go_wp2_with ((go_at_call 39; refine (KS.out _ hS).mono ?_; rintro e w' ⟨rfl, hb'⟩; have hO := hO.more hb'; have hS := hS.on hb'))
            refine hK.out _ _ hS (fun _ => ?_)
            clear hK K
            refine wpAnyH_ready (rs := [41]) (by kernel_rfl) (by simp) ?_
            refine AllReadyH.cons rfl (fun K hK => ?_) AllReadyH.nil
            go_simp
            have hNv : v.ownBlock ≠ some w'.heap.size := fun h => Nat.lt_irrefl _ (hO.low h).2
            have hO := hO.alloc (.cells #[.int .i64 (wh true 5), .int .i64 (wh (!k1) 2), .int .i64 (wh kd 8), .int .i64 (x3), .int .i64 (x4), .int .i64 (x5), .int .i64 (x6)] errT)
            have hS := hS.on (bel_alloc _ (.cells #[.int .i64 (wh true 5), .int .i64 (wh (!k1) 2), .int .i64 (wh kd 8), .int .i64 (x3), .int .i64 (x4), .int .i64 (x5), .int .i64 (x6)] errT))
            refine hK.out _ _ hS (fun _ => ?_)
            clear hK K
            refine wpAnyH_ready (rs := [42]) (by kernel_rfl) (by simp) ?_
            refine AllReadyH.cons rfl (fun K hK => ?_) AllReadyH.nil
            go_simp
            go_wp2_with ((go_at_call 33; refine (fadd_any _ v _ _ w'.heap.size 7 7 [wh true 5, wh (!k1) 2, wh kd 8, x3, x4, x5, x6] _ hO rfl (by omega) (errs_new w' _ rfl) hNv HFL2.out).mono ?_; rintro e w8 ⟨v8, rfl, hO8, hC8⟩; have hS := hS.trans hC8.but (fun _ _ h => h)))
            refine hK.out _ _ hS (fun _ => ?_)
            clear hK K
            refine wpAnyH_take (i := 43) (v := ?vCft43) rfl (by kernel_rfl) (by kernel_rfl) (by kernel_rfl) (fun _ _ _ h => h) (Or.inl ⟨by rfl, ?hyCft43⟩) hS ?restCft43
            case hyCft43 =>
              intro w hSw
              first | (go_simp; done) | (go_simp; with_reducible rfl)
            try simp only [Act.put, List.setIfInBounds_toArray, List.set_cons_zero, List.set_cons_succ]
            refine wpAnyH_done (by kernel_rfl) ?_ _
            simp only [List.getElem_toArray, List.getElem_cons_succ, List.getElem_cons_zero, List.set_cons_zero, List.set_cons_succ]
            have HEr : Hid (shEs fs (sh.take k) s = [wh true 5, wh (!k1) 2, wh kd 8, x3, x4, x5, x6]) := Lib.hid (by rw [HEq.out]; simp [wh])
            have HY : Hid (FOwn sb w8 v8 (shrF fs sh (k + 1))) := Lib.hid (by rw [HSU.out, HEr.out]; exact hO8)
            have htm8 := HTM7.out _ hS
            have hbk8 := HBK7.out.trans (HSW.out _ hS)
            have hs8 : sb ≤ w8.heap.size := Nat.le_trans hs7 hS.size
            have KE := Lib.hid (enterB_any sb sb k g (boT (soS (sh.take k))) s.car s.num s.pf s.pt s.pd (.bool true) w8 htm8 (by omega) hs8 hso.1.1 hso.1.2)
            have HBK8 := Lib.hid hbk8
            have HS8 := Lib.hid hs8
            have y0 := n0 _ hS
            have y1 := n1 _ hS
            have y2 := n2 _ hS
            have y3 := n3 _ hS
            have y4 := n4 _ hS
            clear hO8 hC8 hO htm8 hbk8 hs8 n0 n1 n2 n3 n4 n5 n6 n7 n8 m8 hS
            go_wp2_with (go_at_call 40; refine KE.out.mono ?_; rintro e w9 ⟨⟨v9, rfl⟩, ⟨g9, hT9⟩, hbu⟩)
            go_roundw
            case rel => exact ⟨k + 1, by omega, by go_num, Lib.hid ⟨HY.out.but hbu HY.out.not_map, ⟨g9, by rw [HNX.out]; exact hT9⟩, HBK8.out.trans (hbu.below HS8.out (fun q hq h => by have := h.1; omega))⟩⟩
            case measure => simp [intOf]; omega
        | true =>
          refine wpAnyH_take (i := 9) (v := ?vCt9) rfl (by kernel_rfl) (by kernel_rfl) (by kernel_rfl) (fun _ _ _ h => h) (Or.inl ⟨by kernel_rfl, ?hyCt9⟩) hS ?restCt9
          case hyCt9 =>
            intro w hSw
            first | (go_simp; done) | (go_simp; with_reducible rfl)
          try simp only [Act.put, List.setIfInBounds_toArray, List.set_cons_zero, List.set_cons_succ]
          refine wpAnyH_take (i := 10) (v := ?vCt10) rfl (by kernel_rfl) (by kernel_rfl) (by kernel_rfl) (fun _ _ _ h => h) (Or.inl ⟨by kernel_rfl, ?hyCt10⟩) hS ?restCt10
          case hyCt10 =>
            intro w hSw
            have k0 := n5 w hSw
            first | (go_simp; done) | (go_simp; with_reducible rfl)
          try simp only [Act.put, List.setIfInBounds_toArray, List.set_cons_zero, List.set_cons_succ]
          refine wpAnyH_ready (rs := [11]) (by kernel_rfl) (by simp) ?_
          refine AllReadyH.cons rfl (fun K hK => ?_) AllReadyH.nil
          go_simp
          go_wp2_with ((go_at_call 36; refine (KC1.out _).mono ?_; rintro e w' ⟨rfl, rfl⟩))
          refine hK.out _ _ hS (fun _ => ?_)
          clear hK K
          refine wpAnyH_take (i := 12) (v := ?vCt12) rfl (by kernel_rfl) (by kernel_rfl) (by kernel_rfl) (fun _ _ _ h => h) (Or.inl ⟨by kernel_rfl, ?hyCt12⟩) hS ?restCt12
          case hyCt12 =>
            intro w hSw
            first | (go_simp; done) | (go_simp; with_reducible rfl)
          try simp only [Act.put, List.setIfInBounds_toArray, List.set_cons_zero, List.set_cons_succ]
          refine wpAnyH_take (i := 13) (v := ?vCt13) rfl (by kernel_rfl) (by kernel_rfl) (by kernel_rfl) (fun _ _ _ h => h) (Or.inl ⟨by rfl, ?hyCt13⟩) hS ?restCt13
          case hyCt13 =>
            intro w hSw
            first | (go_simp; done) | (go_simp; with_reducible rfl)
          try simp only [Act.put, List.setIfInBounds_toArray, List.set_cons_zero, List.set_cons_succ]
          refine wpAnyH_ready (rs := [14]) (by kernel_rfl) (by simp) ?_
          refine AllReadyH.cons rfl (fun K hK => ?_) AllReadyH.nil
          go_simp
          go_wp2_with ((go_at_call 35; refine (fwh_any _ _ _).mono ?_; rintro e w' ⟨rfl, rfl⟩))
          refine hK.out _ _ hS (fun _ => ?_)
          clear hK K
          refine wpAnyH_ready (rs := [17]) (by kernel_rfl) (by simp) ?_
          refine AllReadyH.cons rfl (fun K hK => ?_) AllReadyH.nil
          go_simp
          go_wp2_with ((go_at_call 37; refine (KN0.out _).mono ?_; rintro e w' ⟨rfl, rfl⟩))
          refine hK.out _ _ hS (fun _ => ?_)
          clear hK K
          refine wpAnyH_take (i := 18) (v := ?vCt18) rfl (by kernel_rfl) (by kernel_rfl) (by kernel_rfl) (fun _ _ _ h => h) (Or.inl ⟨by rfl, ?hyCt18⟩) hS ?restCt18
          case hyCt18 =>
            intro w hSw
            first | (go_simp; done) | (go_simp; with_reducible rfl)
          try simp only [Act.put, List.setIfInBounds_toArray, List.set_cons_zero, List.set_cons_succ]
          refine wpAnyH_take (i := 19) (v := ?vCt19) rfl (by kernel_rfl) (by kernel_rfl) (by kernel_rfl) (fun _ _ _ h => h) (Or.inl ⟨by rfl, ?hyCt19⟩) hS ?restCt19
          case hyCt19 =>
            intro w hSw
            first | (go_simp; done) | (go_simp; with_reducible rfl)
          try simp only [Act.put, List.setIfInBounds_toArray, List.set_cons_zero, List.set_cons_succ]
          cases k0 with
          | false =>
            refine wpAnyH_take (i := 20) (v := undef) rfl (by kernel_rfl) (by kernel_rfl) (by kernel_rfl) (fun _ _ _ h => h) (Or.inr ⟨by kernel_rfl, rfl⟩) hS ?_
            try simp only [Act.put, List.setIfInBounds_toArray, List.set_cons_zero, List.set_cons_succ]
            refine wpAnyH_take (i := 21) (v := undef) rfl (by kernel_rfl) (by kernel_rfl) (by kernel_rfl) (fun _ _ _ h => h) (Or.inr ⟨by kernel_rfl, rfl⟩) hS ?_
            try simp only [Act.put, List.setIfInBounds_toArray, List.set_cons_zero, List.set_cons_succ]
            refine wpAnyH_take (i := 22) (v := undef) rfl (by kernel_rfl) (by kernel_rfl) (by kernel_rfl) (fun _ _ _ h => h) (Or.inr ⟨by kernel_rfl, rfl⟩) hS ?_
            try simp only [Act.put, List.setIfInBounds_toArray, List.set_cons_zero, List.set_cons_succ]
            refine wpAnyH_take (i := 23) (v := undef) rfl (by kernel_rfl) (by kernel_rfl) (by kernel_rfl) (fun _ _ _ h => h) (Or.inr ⟨by kernel_rfl, rfl⟩) hS ?_
            try simp only [Act.put, List.setIfInBounds_toArray, List.set_cons_zero, List.set_cons_succ]
            refine wpAnyH_take (i := 24) (v := ?vCtf24) rfl (by kernel_rfl) (by kernel_rfl) (by kernel_rfl) (fun _ _ _ h => h) (Or.inl ⟨by rfl, ?hyCtf24⟩) hS ?restCtf24
            case hyCtf24 =>
              intro w hSw
              first | (go_simp; done) | (go_simp; with_reducible rfl)
            try simp only [Act.put, List.setIfInBounds_toArray, List.set_cons_zero, List.set_cons_succ]
            refine wpAnyH_ready (rs := [25]) (by kernel_rfl) (by simp) ?_
            refine AllReadyH.cons rfl (fun K hK => ?_) AllReadyH.nil
            go_simp
            go_wp2_with ((go_at_call 35; refine (fwh_any _ _ _).mono ?_; rintro e w' ⟨rfl, rfl⟩))
            refine hK.out _ _ hS (fun _ => ?_)
            clear hK K
            refine wpAnyH_ready (rs := [31]) (by kernel_rfl) (by simp) ?_
            refine AllReadyH.cons rfl (fun K hK => ?_) AllReadyH.nil
            go_simp
            go_wp2_with ((go_at_call 35; refine (fwh_any _ _ _).mono ?_; rintro e w' ⟨rfl, rfl⟩))
            refine hK.out _ _ hS (fun _ => ?_)
            clear hK K
            refine wpAnyH_ready (rs := [34]) (by kernel_rfl) (by simp) ?_
            refine AllReadyH.cons rfl (fun K hK => ?_) AllReadyH.nil
            go_simp
            go_wp2_with ((go_at_call 38; refine (KP.out _).mono ?_; rintro e w' ⟨rfl, hb'⟩; have hO := hO.more hb'; have hS := hS.on hb'))
            refine hK.out _ _ hS (fun _ => ?_)
            clear hK K
            refine wpAnyH_ready (rs := [40]) (by kernel_rfl) (by simp) ?_
            refine AllReadyH.cons rfl (fun K hK => ?_) AllReadyH.nil
            go_simp
            go_wp2_with ((go_at_call 39; refine (KS.out _ hS).mono ?_; rintro e w' ⟨rfl, hb'⟩; have hO := hO.more hb'; have hS := hS.on hb'))
            refine hK.out _ _ hS (fun _ => ?_)
            clear hK K
            refine wpAnyH_ready (rs := [41]) (by kernel_rfl) (by simp) ?_
            refine AllReadyH.cons rfl (fun K hK => ?_) AllReadyH.nil
            go_simp
            have hNv : v.ownBlock ≠ some w'.heap.size := fun h => Nat.lt_irrefl _ (hO.low h).2
            have hO := hO.alloc (.cells #[.int .i64 (wh (!c1) 5), .int .i64 (wh true 2), .int .i64 (wh kd 8), .int .i64 (x3), .int .i64 (x4), .int .i64 (x5), .int .i64 (x6)] errT)
            have hS := hS.on (bel_alloc _ (.cells #[.int .i64 (wh (!c1) 5), .int .i64 (wh true 2), .int .i64 (wh kd 8), .int .i64 (x3), .int .i64 (x4), .int .i64 (x5), .int .i64 (x6)] errT))
            refine hK.out _ _ hS (fun _ => ?_)
            clear hK K
            refine wpAnyH_ready (rs := [42]) (by kernel_rfl) (by simp) ?_
            refine AllReadyH.cons rfl (fun K hK => ?_) AllReadyH.nil
            go_simp
            go_wp2_with ((go_at_call 33; refine (fadd_any _ v _ _ w'.heap.size 7 7 [wh (!c1) 5, wh true 2, wh kd 8, x3, x4, x5, x6] _ hO rfl (by omega) (errs_new w' _ rfl) hNv HFL2.out).mono ?_; rintro e w8 ⟨v8, rfl, hO8, hC8⟩; have hS := hS.trans hC8.but (fun _ _ h => h)))
            refine hK.out _ _ hS (fun _ => ?_)
            clear hK K
            refine wpAnyH_take (i := 43) (v := ?vCtf43) rfl (by kernel_rfl) (by kernel_rfl) (by kernel_rfl) (fun _ _ _ h => h) (Or.inl ⟨by rfl, ?hyCtf43⟩) hS ?restCtf43
            case hyCtf43 =>
              intro w hSw
              first | (go_simp; done) | (go_simp; with_reducible rfl)
            try simp only [Act.put, List.setIfInBounds_toArray, List.set_cons_zero, List.set_cons_succ]
            refine wpAnyH_done (by kernel_rfl) ?_ _
            simp only [List.getElem_toArray, List.getElem_cons_succ, List.getElem_cons_zero, List.set_cons_zero, List.set_cons_succ]
            have HEr : Hid (shEs fs (sh.take k) s = [wh (!c1) 5, wh true 2, wh kd 8, x3, x4, x5, x6]) := Lib.hid (by rw [HEq.out]; simp [wh])
            have HY : Hid (FOwn sb w8 v8 (shrF fs sh (k + 1))) := Lib.hid (by rw [HSU.out, HEr.out]; exact hO8)
            have htm8 := HTM7.out _ hS
            have hbk8 := HBK7.out.trans (HSW.out _ hS)
            have hs8 : sb ≤ w8.heap.size := Nat.le_trans hs7 hS.size
            have KE := Lib.hid (enterB_any sb sb k g (boT (soS (sh.take k))) s.car s.num s.pf s.pt s.pd (.bool true) w8 htm8 (by omega) hs8 hso.1.1 hso.1.2)
            have HBK8 := Lib.hid hbk8
            have HS8 := Lib.hid hs8
            have y0 := n0 _ hS
            have y1 := n1 _ hS
            have y2 := n2 _ hS
            have y3 := n3 _ hS
            have y4 := n4 _ hS
            clear hO8 hC8 hO htm8 hbk8 hs8 n0 n1 n2 n3 n4 n5 n6 n7 n8 m8 hS
            go_wp2_with (go_at_call 40; refine KE.out.mono ?_; rintro e w9 ⟨⟨v9, rfl⟩, ⟨g9, hT9⟩, hbu⟩)
            go_roundw
            case rel => exact ⟨k + 1, by omega, by go_num, Lib.hid ⟨HY.out.but hbu HY.out.not_map, ⟨g9, by rw [HNX.out]; exact hT9⟩, HBK8.out.trans (hbu.below HS8.out (fun q hq h => by have := h.1; omega))⟩⟩
            case measure => simp [intOf]; omega
          | true =>
            refine wpAnyH_take (i := 20) (v := ?vCtt20) rfl (by kernel_rfl) (by kernel_rfl) (by kernel_rfl) (fun _ _ _ h => h) (Or.inl ⟨by kernel_rfl, ?hyCtt20⟩) hS ?restCtt20
            case hyCtt20 =>
              intro w hSw
              first | (go_simp; done) | (go_simp; with_reducible rfl)
            try simp only [Act.put, List.setIfInBounds_toArray, List.set_cons_zero, List.set_cons_succ]
            refine wpAnyH_take (i := 21) (v := ?vCtt21) rfl (by kernel_rfl) (by kernel_rfl) (by kernel_rfl) (fun _ _ _ h => h) (Or.inl ⟨by kernel_rfl, ?hyCtt21⟩) hS ?restCtt21
            case hyCtt21 =>
              intro w hSw
              have k0 := n6 w hSw
              first | (go_simp; done) | (go_simp; with_reducible rfl)
            try simp only [Act.put, List.setIfInBounds_toArray, List.set_cons_zero, List.set_cons_succ]
            refine wpAnyH_ready (rs := [22]) (by kernel_rfl) (by simp) ?_
            refine AllReadyH.cons rfl (fun K hK => ?_) AllReadyH.nil
            go_simp
            go_wp2_with ((go_at_call 37; refine (KN1.out _).mono ?_; rintro e w' ⟨rfl, rfl⟩))
            refine hK.out _ _ hS (fun _ => ?_)
            clear hK K
            refine wpAnyH_take (i := 23) (v := ?vCtt23) rfl (by kernel_rfl) (by kernel_rfl) (by kernel_rfl) (fun _ _ _ h => h) (Or.inl ⟨by kernel_rfl, ?hyCtt23⟩) hS ?restCtt23
            case hyCtt23 =>
              intro w hSw
              first | (go_simp; done) | (go_simp; with_reducible rfl)
            try simp only [Act.put, List.setIfInBounds_toArray, List.set_cons_zero, List.set_cons_succ]
            refine wpAnyH_take (i := 24) (v := ?vCtt24) rfl (by kernel_rfl) (by kernel_rfl) (by kernel_rfl) (fun _ _ _ h => h) (Or.inl ⟨by rfl, ?hyCtt24⟩) hS ?restCtt24
            case hyCtt24 =>
              intro w hSw
              first | (go_simp; done) | (go_simp; with_reducible rfl)
            try simp only [Act.put, List.setIfInBounds_toArray, List.set_cons_zero, List.set_cons_succ]
            refine wpAnyH_ready (rs := [25]) (by kernel_rfl) (by simp) ?_
            refine AllReadyH.cons rfl (fun K hK => ?_) AllReadyH.nil
            go_simp
            go_wp2_with ((go_at_call 35; refine (fwh_any _ _ _).mono ?_; rintro e w' ⟨rfl, rfl⟩))
            refine hK.out _ _ hS (fun _ => ?_)
            clear hK K
            refine wpAnyH_ready (rs := [31]) (by kernel_rfl) (by simp) ?_
            refine AllReadyH.cons rfl (fun K hK => ?_) AllReadyH.nil
            go_simp
            go_wp2_with ((go_at_call 35; refine (fwh_any _ _ _).mono ?_; rintro e w' ⟨rfl, rfl⟩))
            refine hK.out _ _ hS (fun _ => ?_)
            clear hK K
            refine wpAnyH_ready (rs := [34]) (by kernel_rfl) (by simp) ?_
            refine AllReadyH.cons rfl (fun K hK => ?_) AllReadyH.nil
            go_simp
            go_wp2_with ((go_at_call 38; refine (KP.out _).mono ?_; rintro e w' ⟨rfl, hb'⟩; have hO := hO.more hb'; have hS := hS.on hb'))
            refine hK.out _ _ hS (fun _ => ?_)
            clear hK K
            refine wpAnyH_ready (rs := [40]) (by kernel_rfl) (by simp) ?_
            refine AllReadyH.cons rfl (fun K hK => ?_) AllReadyH.nil
            go_simp
            go_wp2_with ((go_at_call 39; refine (KS.out _ hS).mono ?_; rintro e w' ⟨rfl, hb'⟩; have hO := hO.more hb'; have hS := hS.on hb'))
            refine hK.out _ _ hS (fun _ => ?_)
            clear hK K
            refine wpAnyH_ready (rs := [41]) (by kernel_rfl) (by simp) ?_
            refine AllReadyH.cons rfl (fun K hK => ?_) AllReadyH.nil
            go_simp
            have hNv : v.ownBlock ≠ some w'.heap.size := fun h => Nat.lt_irrefl _ (hO.low h).2
            have hO := hO.alloc (.cells #[.int .i64 (wh (!c1) 5), .int .i64 (wh (!k1) 2), .int .i64 (wh kd 8), .int .i64 (x3), .int .i64 (x4), .int .i64 (x5), .int .i64 (x6)] errT)
            have hS := hS.on (bel_alloc _ (.cells #[.int .i64 (wh (!c1) 5), .int .i64 (wh (!k1) 2), .int .i64 (wh kd 8), .int .i64 (x3), .int .i64 (x4), .int .i64 (x5), .int .i64 (x6)] errT))
            refine hK.out _ _ hS (fun _ => ?_)
            clear hK K
            refine wpAnyH_ready (rs := [42]) (by kernel_rfl) (by simp) ?_
            refine AllReadyH.cons rfl (fun K hK => ?_) AllReadyH.nil
            go_simp
            go_wp2_with ((go_at_call 33; refine (fadd_any _ v _ _ w'.heap.size 7 7 [wh (!c1) 5, wh (!k1) 2, wh kd 8, x3, x4, x5, x6] _ hO rfl (by omega) (errs_new w' _ rfl) hNv HFL2.out).mono ?_; rintro e w8 ⟨v8, rfl, hO8, hC8⟩; have hS := hS.trans hC8.but (fun _ _ h => h)))
            refine hK.out _ _ hS (fun _ => ?_)
            clear hK K
            refine wpAnyH_take (i := 43) (v := ?vCtt43) rfl (by kernel_rfl) (by kernel_rfl) (by kernel_rfl) (fun _ _ _ h => h) (Or.inl ⟨by rfl, ?hyCtt43⟩) hS ?restCtt43
            case hyCtt43 =>
              intro w hSw
              first | (go_simp; done) | (go_simp; with_reducible rfl)
            try simp only [Act.put, List.setIfInBounds_toArray, List.set_cons_zero, List.set_cons_succ]
            refine wpAnyH_done (by kernel_rfl) ?_ _
            simp only [List.getElem_toArray, List.getElem_cons_succ, List.getElem_cons_zero, List.set_cons_zero, List.set_cons_succ]
            have HEr : Hid (shEs fs (sh.take k) s = [wh (!c1) 5, wh (!k1) 2, wh kd 8, x3, x4, x5, x6]) := Lib.hid (by rw [HEq.out]; simp [wh])
            have HY : Hid (FOwn sb w8 v8 (shrF fs sh (k + 1))) := Lib.hid (by rw [HSU.out, HEr.out]; exact hO8)
            have htm8 := HTM7.out _ hS
            have hbk8 := HBK7.out.trans (HSW.out _ hS)
            have hs8 : sb ≤ w8.heap.size := Nat.le_trans hs7 hS.size
            have KE := Lib.hid (enterB_any sb sb k g (boT (soS (sh.take k))) s.car s.num s.pf s.pt s.pd (.bool true) w8 htm8 (by omega) hs8 hso.1.1 hso.1.2)
            have HBK8 := Lib.hid hbk8
            have HS8 := Lib.hid hs8
            have y0 := n0 _ hS
            have y1 := n1 _ hS
            have y2 := n2 _ hS
            have y3 := n3 _ hS
            have y4 := n4 _ hS
            clear hO8 hC8 hO htm8 hbk8 hs8 n0 n1 n2 n3 n4 n5 n6 n7 n8 m8 hS
            go_wp2_with (go_at_call 40; refine KE.out.mono ?_; rintro e w9 ⟨⟨v9, rfl⟩, ⟨g9, hT9⟩, hbu⟩)
            go_roundw
            case rel => exact ⟨k + 1, by omega, by go_num, Lib.hid ⟨HY.out.but hbu HY.out.not_map, ⟨g9, by rw [HNX.out]; exact hT9⟩, HBK8.out.trans (hbu.below HS8.out (fun q hq h => by have := h.1; omega))⟩⟩
            case measure => simp [intOf]; omega
      · have hk' : k = sh.length := by omega
        have i2 : ¬ (k : Int) < (sh.length : Int) := by omega
        rw [hk'] at hO
        have HOF := Lib.hid hO
        have HKW := Lib.hid hbk
        clear htm hk' hO hbk
        go_wp2
        have hbk := HKW.out
        have hKr := (hbk.block D hDs).trans HKD.out
        have hg := grownBy_putObj' wr D (.deferred none)
        have hsbr : sb ≤ wr.heap.size := by have h1 := hbk.size; have h2 := HSB.out; omega
        have hne : ∀ q, v.ownBlock = some q → ¬ (fun q => q = D) q := fun q hq e => by
          obtain ⟨cs, h1⟩ := own_cells HOF.out hq
          rw [e, hKr] at h1
          cases h1
        have hOE := HOF.out.but (But.of_grown (X := fun q => q = D) hg rfl) hne
        have hwr : Below w.heap.size w wr := HBL.out.trans (hbk.mono hwsb)
        refine ⟨by simp, .inl ⟨_, _, rfl, run_takeDeferred hKr, ?_⟩⟩
        exact ⟨_, results_tmp rfl _ _ _, v, rfl, ⟨hOE.own.mono hwsb, Nat.le_trans hwsb hOE.base⟩, hwr.trans (belowK_b (w := w) (Nat.le_refl _) wr D _ _ (by omega) hKr rfl rfl)⟩
end Go.Proofs.YtdpcjafkahhecaaGreatDoor
