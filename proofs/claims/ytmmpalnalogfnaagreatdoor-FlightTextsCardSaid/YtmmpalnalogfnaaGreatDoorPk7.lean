/- Words and walks that the laws below ask: FliL, PlaR, PlaY, PlaZ, PlaQA, FliP, FliQ, TextI, TextJ, PerS. -/
import Derived.Deep.CutRange
import Derived.Deep.Onto
import Derived.Deep.RegionHeld3
import Derived.Test.YtmmpalnalogfnaaGreatDoorPk2
import Derived.Test.YtmmpalnalogfnaaGreatDoorPk3
import Derived.Test.YtmmpalnalogfnaaGreatDoorPk4
import Derived.Test.YtmmpalnalogfnaaGreatDoorPk5
/- Walk of flight.Check. -/
namespace Go.Proofs.YtmmpalnalogfnaaGreatDoor
open Go.RowKit Go.Shelf
set_option linter.unusedSimpArgs false
set_option linter.unusedVariables false

theorem LegL.take {w : World} {A : Option Addr} {n c : Nat} {l : List Lg} (h : LegL w (.slice A n c) l) (k : Nat) : LegL w (.slice A (l.take k).length c) (l.take k) := by
  obtain ⟨A', c', e, h⟩ := h
  cases e
  refine ⟨A, c, rfl, ?_⟩
  rcases h with h | ⟨b, o, h1, h2, h3⟩
  · exact .inl (by simp [h])
  · refine .inr ⟨b, o, h1, h2, fun i x j u hi hu => h3 i x j u ?_ hu⟩
    rw [List.getElem?_take] at hi
    split at hi
    · exact hi
    · cases hi
def carW : ByteArray := ⟨#[99, 97, 114, 114, 105, 101, 114]⟩
def numW : ByteArray := ⟨#[110, 117, 109, 98, 101, 114]⟩
def perW : ByteArray := ⟨#[112, 101, 114, 105, 111, 100]⟩
def lgsW : ByteArray := ⟨#[108, 101, 103, 115]⟩
def legW : ByteArray := ⟨#[108, 101, 103, 32]⟩
def hdF (f : FV) : List Flt := pick carW [if (!carB f.car) = true then 5 else 0] ++ (pick numW [if (!numB f.num) = true then 2 else 0] ++ pick perW [Per.errQ (f.pf, f.pt, f.pd)])
def lgEs (l : List Air) (before : List Lg) (x : Lg) : List Int :=
  [if (!codeB x.eq 3 3) = true then 5 else 0, if (!((findC l x.f).isSome && (findC l x.t).isSome)) = true then 14 else 0, if (!nextB before x) = true then 15 else 0, if (!(minB x.dep && minB x.arr)) = true then 2 else 0]
def lgsF (l : List Air) (lg : List Lg) (k : Nat) : List Flt := (List.range k).flatMap fun i => match lg[i]? with
  | some x => pick (legW ++ decA i) (lgEs l (lg.take i) x)
  | none => []
theorem lgsF_succ (l : List Air) (lg : List Lg) (k : Nat) (x : Lg) (h : lg[k]? = some x) : lgsF l lg (k + 1) = lgsF l lg k ++ pick (legW ++ decA k) (lgEs l (lg.take k) x) := by
  simp [lgsF, List.range_succ, h]
theorem lgsF_le (l : List Air) (lg : List Lg) : ∀ k, (lgsF l lg k).length ≤ 4 * k
  | 0 => by simp [lgsF]
  | k + 1 => by
    have ih := lgsF_le l lg k
    have e : lgsF l lg (k + 1) = lgsF l lg k ++ (match lg[k]? with | some x => pick (legW ++ decA k) (lgEs l (lg.take k) x) | none => []) := by simp [lgsF, List.range_succ]
    rw [e, List.length_append]
    cases lg[k]? with
    | none => simp; omega
    | some x =>
      have := pick_le (legW ++ decA k) (lgEs l (lg.take k) x)
      simp only [lgEs, List.length_cons, List.length_nil] at this ⊢
      omega
def wh (b : Bool) (e : Int) : Int := if b = true then e else 0
theorem fwh_any (b : Bool) (e : Int) (w : World) : Calls Tryz.prog 63 #[.bool b, .int .i64 e] w fun r w' => r = .returned (.int .i64 (wh b e)) ∧ w = w' := fwhen_any b e w
theorem hdF_le (f : FV) : (hdF f).length ≤ 3 := by
  unfold hdF
  have h1 := pick_le carW [if (!carB f.car) = true then 5 else 0]
  have h2 := pick_le numW [if (!numB f.num) = true then 2 else 0]
  have h3 := pick_le perW [Per.errQ (f.pf, f.pt, f.pd)]
  rw [List.length_append, List.length_append]
  simp only [List.length_cons, List.length_nil] at h1 h2 h3
  omega
def chF (l : List Air) (f : FV) : List Flt := if cntB f.lg.length = true then (if (hdF f ++ lgsF l f.lg f.lg.length).length = 0 then timF l f else hdF f ++ lgsF l f.lg f.lg.length) else hdF f ++ pick lgsW [4]

set_option maxRecDepth 100000 in
set_option maxHeartbeats 8000000 in
theorem fcheck_any (p : PV) (f : FV) (w : World) (hl : p.l.length ≤ 40) (hL : AirL w p.A p.l) (hs : ∀ a ∈ p.l, a.shs.length ≤ 300) (hz : ∀ a ∈ p.l, OkZ a.off a.shs) (hG : LegL w (.slice f.A f.lg.length f.c) f.lg) (hn : f.lg.length ≤ 100) (hcap : f.lg.length ≤ f.c)
    (hc0 : f.car.size ≤ maxLen) (ho : ∀ x ∈ f.lg, OkG x) (KT : cntB f.lg.length = true → (hdF f ++ lgsF p.l f.lg f.lg.length).length = 0 → ∀ W, Below w.heap.size w W → Calls Tryz.prog 92 #[encP p, encFl f] W fun e w' => ∃ v, e = .returned v ∧ FOwn W.heap.size w' v (timF p.l f) ∧ Below W.heap.size W w') :
    Calls Tryz.prog 33 #[encP p, encFl f] w fun e w' => ∃ v, e = .returned v ∧ FOwn w.heap.size w' v (chF p.l f) ∧ Below w.heap.size w w' := by
  obtain ⟨car, num, pf, pt, pd, A, c, lg⟩ := f
  dsimp only at *
  obtain ⟨HF, hHF⟩ : ∃ H, H = hdF ⟨car, num, pf, pt, pd, A, c, lg⟩ := ⟨_, rfl⟩
  obtain ⟨TF, hTF⟩ : ∃ H, H = timF p.l ⟨car, num, pf, pt, pd, A, c, lg⟩ := ⟨_, rfl⟩
  obtain ⟨CF, hCF⟩ : ∃ H, H = chF p.l ⟨car, num, pf, pt, pd, A, c, lg⟩ := ⟨_, rfl⟩
  have HCF : Hid (CF = if cntB lg.length = true then (if (HF ++ lgsF p.l lg lg.length).length = 0 then TF else HF ++ lgsF p.l lg lg.length) else HF ++ pick lgsW [4]) := Lib.hid (by rw [hCF, hHF, hTF]; rfl)
  have HHL : HF.length ≤ 3 := by rw [hHF]; exact hdF_le _
  obtain ⟨x0, hx0⟩ : ∃ x : Int, x = (if (!carB car) = true then 5 else 0) := ⟨_, rfl⟩
  obtain ⟨x1, hx1⟩ : ∃ x : Int, x = (if (!numB num) = true then 2 else 0) := ⟨_, rfl⟩
  obtain ⟨x2, hx2⟩ : ∃ x : Int, x = Per.errQ (pf, pt, pd) := ⟨_, rfl⟩
  have HHF : Hid (HF = [] ++ pick carW [x0] ++ pick numW [x1] ++ pick perW [x2]) := Lib.hid (by rw [hHF, hx0, hx1, hx2]; simp [hdF])
  have KC := Lib.hid (fun w => carrier_any car w hc0)
  have KN := Lib.hid (isNumber7_any num)
  have KP := Lib.hid (Per.check_any pf pt pd)
  have KL := Lib.hid (isLegCount_any lg.length)
  have KW0 := Lib.hid (fun W => fwhen_any (!carB car) 5 W)
  have KW1 := Lib.hid (fun W => fwhen_any (!numB num) 2 W)
  rw [← hx0] at KW0
  rw [← hx1] at KW1
  rw [← hx2] at KP
  rw [← hTF, ← hHF] at KT
  rw [← hCF]
  replace KT := Lib.hid KT
  generalize carB car = b0 at *
  generalize numB num = b1 at *
  clear hx0 hx1 hx2 hHF hTF hCF
  have hb1 := bel_alloc w (.cells #[.slice p.A p.l.length p.ca, .slice p.D p.ds.length p.cd] placesT)
  have hb2 := bel_alloc (w.alloc (.cells #[.slice p.A p.l.length p.ca, .slice p.D p.ds.length p.cd] placesT)) (.cells #[.string car, .int .i64 num, .int .i64 pf, .int .i64 pt, .int .i64 pd, .slice A lg.length c] fliT)
  have hb0 := hb1.trans (hb2.mono hb1.size)
  have p0 := bel_cell hb2 ((cells_new w #[.slice p.A p.l.length p.ca, .slice p.D p.ds.length p.cd] placesT 0).trans (show _ = some (.slice p.A p.l.length p.ca) from rfl))
  have p1 := bel_cell hb2 ((cells_new w #[.slice p.A p.l.length p.ca, .slice p.D p.ds.length p.cd] placesT 1).trans (show _ = some (.slice p.D p.ds.length p.cd) from rfl))
  have q0 := (cells_new (w.alloc (.cells #[.slice p.A p.l.length p.ca, .slice p.D p.ds.length p.cd] placesT)) #[.string car, .int .i64 num, .int .i64 pf, .int .i64 pt, .int .i64 pd, .slice A lg.length c] fliT 0).trans (show _ = some (Value.string car) from rfl)
  have q1 := (cells_new (w.alloc (.cells #[.slice p.A p.l.length p.ca, .slice p.D p.ds.length p.cd] placesT)) #[.string car, .int .i64 num, .int .i64 pf, .int .i64 pt, .int .i64 pd, .slice A lg.length c] fliT 1).trans (show _ = some (Value.int .i64 num) from rfl)
  have q2 := (cells_new (w.alloc (.cells #[.slice p.A p.l.length p.ca, .slice p.D p.ds.length p.cd] placesT)) #[.string car, .int .i64 num, .int .i64 pf, .int .i64 pt, .int .i64 pd, .slice A lg.length c] fliT 2).trans (show _ = some (Value.int .i64 pf) from rfl)
  have q3 := (cells_new (w.alloc (.cells #[.slice p.A p.l.length p.ca, .slice p.D p.ds.length p.cd] placesT)) #[.string car, .int .i64 num, .int .i64 pf, .int .i64 pt, .int .i64 pd, .slice A lg.length c] fliT 3).trans (show _ = some (Value.int .i64 pt) from rfl)
  have q4 := (cells_new (w.alloc (.cells #[.slice p.A p.l.length p.ca, .slice p.D p.ds.length p.cd] placesT)) #[.string car, .int .i64 num, .int .i64 pf, .int .i64 pt, .int .i64 pd, .slice A lg.length c] fliT 4).trans (show _ = some (Value.int .i64 pd) from rfl)
  have q5 := (cells_new (w.alloc (.cells #[.slice p.A p.l.length p.ca, .slice p.D p.ds.length p.cd] placesT)) #[.string car, .int .i64 num, .int .i64 pf, .int .i64 pt, .int .i64 pd, .slice A lg.length c] fliT 5).trans (show _ = some (Value.slice A lg.length c) from rfl)
  rw [World.size_alloc] at q0 q1 q2 q3 q4 q5
  have HSZ : Hid (((w.alloc (.cells #[.slice p.A p.l.length p.ca, .slice p.D p.ds.length p.cd] placesT)).alloc (.cells #[.string car, .int .i64 num, .int .i64 pf, .int .i64 pt, .int .i64 pd, .slice A lg.length c] fliT)).heap.size = w.heap.size + 2) := Lib.hid (by simp)
  have HLL := Lib.hid (hL.more hb0)
  have HGG := Lib.hid (hG.more hb0)
  have HO := Lib.hid ho
  clear hL hG ho hz
  go_enter Tryz.func33, Tryz.ntmps33
  go_upto_region 1 with (fail)
  generalize hw5 : (w.alloc (.cells #[.slice p.A p.l.length p.ca, .slice p.D p.ds.length p.cd] placesT)).alloc (.cells #[.string car, .int .i64 num, .int .i64 pf, .int .i64 pt, .int .i64 pd, .slice A lg.length c] fliT) = w5 at *
  clear hw5 hb1 hb2
  have f0 := bel_get q0
  have f1 := bel_get q1
  have f2 := bel_get q2
  have f3 := bel_get q3
  have f4 := bel_get q4
  have f5 := bel_get q5
  have y0 := bel_get p0
  have y1 := bel_get p1
  have HNIL : Hid (∀ W : World, w5.heap.size ≤ W.heap.size → FOwn w5.heap.size W (.slice none 0 0) []) := Lib.hid (fun W h => ROwn.nil h)
  have HL0 : Hid (([] : List Flt).length ≤ 1000000) := Lib.hid (by simp)
  have HL1 : Hid (([] ++ pick carW [x0]).length ≤ 1000000) := Lib.hid (by have := pick_le carW [x0]; rw [List.length_append]; simp only [List.length_cons, List.length_nil] at this ⊢; omega)
  have HL2 : Hid (([] ++ pick carW [x0] ++ pick numW [x1]).length ≤ 1000000) := Lib.hid (by have h1 := pick_le carW [x0]; have h2 := pick_le numW [x1]; rw [List.length_append, List.length_append]; simp only [List.length_cons, List.length_nil] at h1 h2 ⊢; omega)
  have Y0 := Lib.hid y0
  have Y1 := Lib.hid y1
  clear p0 p1 q1 q2 q3 q4 q5 y0 y1
  go_upto_region 2 with (first
    | (go_at_call 62; refine (fadd_any w5.heap.size (.slice none 0 0) [] carW w5.heap.size 1 1 [x0] _ (HNIL.out _ (by rw [World.size_alloc]; omega)) rfl (by omega) (errs_new w5 [x0] rfl) (by intro h; cases h) HL0.out).mono ?_; rintro e w1 ⟨v1, rfl, hO1, hC1⟩)
    | (go_at_call 63; with_reducible refine (KW0.out _).mono ?_; rintro e w' ⟨rfl, rfl⟩)
    | (go_at_call 64; refine (KC.out _).mono ?_; rintro e w' ⟨rfl, rfl⟩))
  have hS1 : SW w5 w1 := (bel_alloc w5 (.cells #[.int .i64 x0] errT)).trans (hC1.below (HNIL.out _ (by rw [World.size_alloc]; omega)))
  have k1 := f1 _ hS1
  have k2 := f2 _ hS1
  have k3 := f3 _ hS1
  have k4 := f4 _ hS1
  have hv1 : v1.ownBlock ≠ some w1.heap.size := fun h => Nat.lt_irrefl _ (hO1.low h).2
  clear hC1 q0
  go_upto_region 3 with (first
    | (go_at_call 62; refine (fadd_any w5.heap.size v1 _ numW w1.heap.size 1 1 [x1] _ (hO1.alloc _) rfl (by omega) (errs_new w1 [x1] rfl) hv1 HL1.out).mono ?_; rintro e w2 ⟨v2, rfl, hO2, hC2⟩)
    | (go_at_call 63; with_reducible refine (KW1.out _).mono ?_; rintro e w' ⟨rfl, rfl⟩)
    | (go_at_call 86; refine (KN.out _).mono ?_; rintro e w' ⟨rfl, rfl⟩))
  have hS2 : SW w5 w2 := Below.trans hS1 (((bel_alloc w1 (.cells #[.int .i64 x1] errT)).mono hS1.size).trans (hC2.below (hO1.alloc _)))
  have k2 := f2 _ hS2
  have k3 := f3 _ hS2
  have k4 := f4 _ hS2
  clear hC2 k1
  go_upto_region 4 with (first
    | (go_at_call 62; refine (fadd_any w5.heap.size v2 _ perW w3.heap.size 1 1 [x2] _ ((hO2.more hb3).alloc _) rfl (by omega) (errs_new w3 [x2] rfl) (fun h => Nat.lt_irrefl _ ((hO2.more hb3).low h).2) HL2.out).mono ?_; rintro e w4 ⟨v3, rfl, hO3, hC3⟩)
    | (go_at_call 66; refine (KP.out _).mono ?_; rintro e w3 ⟨rfl, hb3⟩))
  have hS3 : SW w5 w3 := Below.trans hS2 (Below.mono hb3 hS2.size)
  have hS4 : SW w5 w4 := Below.trans hS3 (((bel_alloc w3 (.cells #[.int .i64 x2] errT)).mono hS3.size).trans (hC3.below ((hO2.more hb3).alloc _)))
  rw [← HHF.out] at hO3
  have k5 := f5 _ hS4
  clear hC3 k2 k3 k4 hO1 hO2 hb3
  cases hcn : cntB lg.length with
  | false =>
    rw [hcn] at KL
    have HR : Hid (CF = HF ++ pick lgsW [4]) := Lib.hid (by rw [HCF.out, if_neg (by rw [hcn]; simp)])
    clear hcn
    go_wp2_with (first
      | (go_at_call 62; refine (fadd_any w5.heap.size v3 _ lgsW w4.heap.size 1 1 [4] _ (hO3.alloc _) rfl (by omega) (errs_new w4 [4] rfl) (fun h => Nat.lt_irrefl _ (hO3.low h).2) (by omega)).mono ?_; rintro e w8 ⟨v8, rfl, hO8, hC8⟩)
      | (go_at_call 87; refine (KL.out _).mono ?_; rintro e w' ⟨rfl, rfl⟩))
    go_ret
    exact ⟨v8, rfl, by rw [HR.out]; exact ⟨hO8.own.mono hb0.size, Nat.le_trans hb0.size hO8.base⟩, hb0.trans ((Below.trans hS4 (((bel_alloc w4 (.cells #[.int .i64 4] errT)).mono hS4.size).trans (hC8.below (hO3.alloc _)))).mono hb0.size)⟩
  | true =>
    rw [hcn] at KL
    have KT2 := Lib.hid (KT.out hcn)
    have HR : Hid (CF = if (HF ++ lgsF p.l lg lg.length).length = 0 then TF else HF ++ lgsF p.l lg lg.length) := Lib.hid (by rw [HCF.out, if_pos hcn])
    have HI : Hid (FOwn w5.heap.size w4 v3 (HF ++ lgsF p.l lg 0) ∧ SW w5 w4) := Lib.hid ⟨by simpa [lgsF] using hO3, hS4⟩
    have HHL := Lib.hid HHL
    have F := Lib.hid (And.intro f0 (And.intro f1 (And.intro f2 (And.intro f3 f4))))
    have F5 := Lib.hid f5
    clear hcn hO3 KT HCF HHF f0 f1 f2 f3 f4
    go_wp2_with (go_at_call 87; refine (KL.out _).mono ?_; rintro e w' ⟨rfl, rfl⟩)
    clear k5
    go_loopg [5, 40] lg.length (fun kx v5 vi wr => ∃ (v : Value) (k : Nat), v = v5 ∧ vi = .int .i64 k ∧ k + kx = lg.length ∧ Hid (FOwn w5.heap.size wr v (HF ++ lgsF p.l lg k) ∧ SW w5 wr))
    case atStart => exact ⟨_, 0, rfl, rfl, by omega, HI⟩
    case round =>
      obtain ⟨v, k, rfl, rfl, hkx, HH⟩ := hrel
      clear HI hS1 hS2 hS3 hS4
      have HKX := Lib.hid hkx
      by_cases hlt : k < lg.length
      · clear hkx
        obtain ⟨b, o, x, rfl, hbl, hx, c0, c1, c2, c3, c4⟩ := LegL.get (HGG.out.more HH.out.2) hlt
        have hox := HO.out x (List.mem_of_getElem? hx)
        have HTk := Lib.hid (lgsF_succ p.l lg k x hx)
        have HFL : Hid ((HF ++ lgsF p.l lg k).length ≤ 1000000) := Lib.hid (by have h1 := lgsF_le p.l lg k; have h2 := HHL.out; rw [List.length_append]; omega)
        have hO := HH.out.1
        have hSr : SW w5 wr := HH.out.2
        have HV1 : Hid (∀ g, v.ownBlock = some g → w5.heap.size ≤ g ∧ g < wr.heap.size) := Lib.hid (fun g hg => hO.low hg)
        have hvN : v.ownBlock ≠ some wr.heap.size := fun h => by have := (HV1.out _ h).2; omega
        have hv0 : v.ownBlock ≠ some w.heap.size := fun h => by have h1 := (HV1.out _ h).1; have h2 := HSZ.out; omega
        have hv1 : v.ownBlock ≠ some (w.heap.size + 1) := fun h => by have h1 := (HV1.out _ h).1; have h2 := HSZ.out; omega
        have hb6 := bel_alloc wr (.cells #[.string x.f, .string x.t, .int .i64 x.dep, .int .i64 x.arr, .string x.eq] legT)
        have HSW : Hid (∀ W, SX (wr.alloc (.cells #[.string x.f, .string x.t, .int .i64 x.dep, .int .i64 x.arr, .string x.eq] legT)) v W → SW w5 W) := Lib.hid (fun W h => Below.trans hSr ((hb6.mono hSr.size).trans (h.below (Nat.le_trans hSr.size hb6.size) (fun k' hk' hv => by have := (HV1.out _ hv).1; omega))))
        have y0 : ∀ W, SX (wr.alloc (.cells #[.string x.f, .string x.t, .int .i64 x.dep, .int .i64 x.arr, .string x.eq] legT)) v W → W.cell? ⟨w.heap.size, 0, none⟩ = some (.slice p.A p.l.length p.ca) := fun W h => Y0.out W (HSW.out W h)
        have y1 : ∀ W, SX (wr.alloc (.cells #[.string x.f, .string x.t, .int .i64 x.dep, .int .i64 x.arr, .string x.eq] legT)) v W → W.cell? ⟨w.heap.size, 1, none⟩ = some (.slice p.D p.ds.length p.cd) := fun W h => Y1.out W (HSW.out W h)
        have f5 : ∀ W, SX (wr.alloc (.cells #[.string x.f, .string x.t, .int .i64 x.dep, .int .i64 x.arr, .string x.eq] legT)) v W → W.cell? ⟨w.heap.size + 1, 5, none⟩ = some (.slice (some ⟨b, o, none⟩) lg.length c) := fun W h => F5.out W (HSW.out W h)
        have n0 : ∀ W, SX (wr.alloc (.cells #[.string x.f, .string x.t, .int .i64 x.dep, .int .i64 x.arr, .string x.eq] legT)) v W → W.cell? ⟨wr.heap.size, 0, none⟩ = some (Value.string x.f) := fun W h => SX.cell ((cells_new wr #[.string x.f, .string x.t, .int .i64 x.dep, .int .i64 x.arr, .string x.eq] legT 0).trans (show _ = some (Value.string x.f) from rfl)) hvN h
        have n1 : ∀ W, SX (wr.alloc (.cells #[.string x.f, .string x.t, .int .i64 x.dep, .int .i64 x.arr, .string x.eq] legT)) v W → W.cell? ⟨wr.heap.size, 1, none⟩ = some (Value.string x.t) := fun W h => SX.cell ((cells_new wr #[.string x.f, .string x.t, .int .i64 x.dep, .int .i64 x.arr, .string x.eq] legT 1).trans (show _ = some (Value.string x.t) from rfl)) hvN h
        have n2 : ∀ W, SX (wr.alloc (.cells #[.string x.f, .string x.t, .int .i64 x.dep, .int .i64 x.arr, .string x.eq] legT)) v W → W.cell? ⟨wr.heap.size, 2, none⟩ = some (Value.int .i64 x.dep) := fun W h => SX.cell ((cells_new wr #[.string x.f, .string x.t, .int .i64 x.dep, .int .i64 x.arr, .string x.eq] legT 2).trans (show _ = some (Value.int .i64 x.dep) from rfl)) hvN h
        have n3 : ∀ W, SX (wr.alloc (.cells #[.string x.f, .string x.t, .int .i64 x.dep, .int .i64 x.arr, .string x.eq] legT)) v W → W.cell? ⟨wr.heap.size, 3, none⟩ = some (Value.int .i64 x.arr) := fun W h => SX.cell ((cells_new wr #[.string x.f, .string x.t, .int .i64 x.dep, .int .i64 x.arr, .string x.eq] legT 3).trans (show _ = some (Value.int .i64 x.arr) from rfl)) hvN h
        have n4 : ∀ W, SX (wr.alloc (.cells #[.string x.f, .string x.t, .int .i64 x.dep, .int .i64 x.arr, .string x.eq] legT)) v W → W.cell? ⟨wr.heap.size, 4, none⟩ = some (Value.string x.eq) := fun W h => SX.cell ((cells_new wr #[.string x.f, .string x.t, .int .i64 x.dep, .int .i64 x.arr, .string x.eq] legT 4).trans (show _ = some (Value.string x.eq) from rfl)) hvN h
        have KD := Lib.hid (dec_small k (by omega))
        have KE := Lib.hid (fun w => isEquip_any x.eq w hox.eq)
        have KF1 : Hid (∀ W, SX (wr.alloc (.cells #[.string x.f, .string x.t, .int .i64 x.dep, .int .i64 x.arr, .string x.eq] legT)) v W → Calls Tryz.prog 89 #[encP p, .string x.f] W fun e w' => e = .returned (.bool (findC p.l x.f).isSome) ∧ Below W.heap.size W w') := Lib.hid (fun W h => isAirport_any p x.f W hl (HLL.out.more (HSW.out W h)) hs)
        have KF2 : Hid (∀ W, SX (wr.alloc (.cells #[.string x.f, .string x.t, .int .i64 x.dep, .int .i64 x.arr, .string x.eq] legT)) v W → Calls Tryz.prog 89 #[encP p, .string x.t] W fun e w' => e = .returned (.bool (findC p.l x.t).isSome) ∧ Below W.heap.size W w') := Lib.hid (fun W h => isAirport_any p x.t W hl (HLL.out.more (HSW.out W h)) hs)
        have KX : Hid (∀ W, SX (wr.alloc (.cells #[.string x.f, .string x.t, .int .i64 x.dep, .int .i64 x.arr, .string x.eq] legT)) v W → Calls Tryz.prog 90 #[.slice (some ⟨b, o, none⟩) k c, encG x] W fun e w' => e = .returned (.bool (nextB (lg.take k) x)) ∧ Below W.heap.size W w') := Lib.hid (fun W h => by
          have hk : (lg.take k).length = k := by rw [List.length_take]; omega
          have h2 := isNext_any (some ⟨b, o, none⟩) c (lg.take k) x W (by omega) (LegL.take (HGG.out.more (HSW.out W h)) k)
          rw [hk] at h2
          exact h2)
        have KM1 := Lib.hid (isMinute_any x.dep)
        have KM2 := Lib.hid (isMinute_any x.arr)
        have HEq : Hid (lgEs p.l (lg.take k) x = [if (!codeB x.eq 3 3) = true then 5 else 0, if (!((findC p.l x.f).isSome && (findC p.l x.t).isSome)) = true then 14 else 0, if (!nextB (lg.take k) x) = true then 15 else 0, if (!(minB x.dep && minB x.arr)) = true then 2 else 0]) := Lib.hid rfl
        generalize (findC p.l x.f).isSome = kf at *
        generalize (findC p.l x.t).isSome = kt at *
        generalize codeB x.eq 3 3 = ke at *
        generalize nextB (lg.take k) x = kn at *
        generalize minB x.dep = md at *
        generalize minB x.arr = ma at *
        have hadd : ∀ W : World, (Op.stringOp .add ⟨#[108, 101, 103, 32]⟩ (decA k)).run Tryz.prog W = .ok (.string (legW ++ decA k)) W := fun W => run_string_add_sum W _ _ (by have := decA_size k (by omega); have e : (⟨#[108, 101, 103, 32]⟩ : ByteArray).size = 4 := rfl; omega)
        have i2 : (k : Int) < (lg.length : Int) := by omega
        have i3 : (k : Int) ≤ (c : Int) := by omega
        have i4 : k ≤ c := by omega
        have hO := hO.more (hb6.trans ((Below.refl _ (wr.alloc (.cells #[.string x.f, .string x.t, .int .i64 x.dep, .int .i64 x.arr, .string x.eq] legT))).drew.mono hb6.size))
        generalize decA k = sk at *
        clear hx hox hbl F
        go_upto_region 9 with (fail)
        generalize hw6 : wr.alloc (.cells #[.string x.f, .string x.t, .int .i64 x.dep, .int .i64 x.arr, .string x.eq] legT) = w6 at *
        clear hw6 c0 c1 c2 c3 c4
        have hS : (SX w6 v) _ := But.of_below (Below.refl _ _).drew
        refine wp_region_held_drew (S := SX w6 v) (by kernel_rfl) hS (fun _ => ?_)
        refine wpAnyH_take (i := 0) (v := ?vC0) rfl (by kernel_rfl) (by kernel_rfl) (by kernel_rfl) (fun _ _ _ h => h) (Or.inl ⟨by rfl, ?hyC0⟩) hS ?restC0
        case hyC0 =>
          intro w hSw
          first | (go_simp; done) | (go_simp; with_reducible rfl)
        try simp only [Act.put, List.setIfInBounds_toArray, List.set_cons_zero, List.set_cons_succ]
        refine wpAnyH_take (i := 1) (v := ?vC1) rfl (by kernel_rfl) (by kernel_rfl) (by kernel_rfl) (fun _ _ _ h => h) (Or.inl ⟨by rfl, ?hyC1⟩) hS ?restC1
        case hyC1 =>
          intro w hSw
          first | (go_simp; done) | (go_simp; with_reducible rfl)
        try simp only [Act.put, List.setIfInBounds_toArray, List.set_cons_zero, List.set_cons_succ]
        refine wpAnyH_take (i := 4) (v := ?vC4) rfl (by kernel_rfl) (by kernel_rfl) (by kernel_rfl) (fun _ _ _ h => h) (Or.inl ⟨by rfl, ?hyC4⟩) hS ?restC4
        case hyC4 =>
          intro w hSw
          first | (go_simp; done) | (go_simp; with_reducible rfl)
        try simp only [Act.put, List.setIfInBounds_toArray, List.set_cons_zero, List.set_cons_succ]
        refine wpAnyH_take (i := 5) (v := ?vC5) rfl (by kernel_rfl) (by kernel_rfl) (by kernel_rfl) (fun _ _ _ h => h) (Or.inl ⟨by rfl, ?hyC5⟩) hS ?restC5
        case hyC5 =>
          intro w hSw
          have k0 := n4 w hSw
          first | (go_simp; done) | (go_simp; with_reducible rfl)
        try simp only [Act.put, List.setIfInBounds_toArray, List.set_cons_zero, List.set_cons_succ]
        refine wpAnyH_take (i := 9) (v := ?vC9) rfl (by kernel_rfl) (by kernel_rfl) (by kernel_rfl) (fun _ _ _ h => h) (Or.inl ⟨by rfl, ?hyC9⟩) hS ?restC9
        case hyC9 =>
          intro w hSw
          have k0 := y0 w hSw; have k1 := y1 w hSw
          first | (go_simp; done) | (go_simp; with_reducible rfl)
        try simp only [Act.put, List.setIfInBounds_toArray, List.set_cons_zero, List.set_cons_succ]
        refine wpAnyH_take (i := 10) (v := ?vC10) rfl (by kernel_rfl) (by kernel_rfl) (by kernel_rfl) (fun _ _ _ h => h) (Or.inl ⟨by rfl, ?hyC10⟩) hS ?restC10
        case hyC10 =>
          intro w hSw
          first | (go_simp; done) | (go_simp; with_reducible rfl)
        try simp only [Act.put, List.setIfInBounds_toArray, List.set_cons_zero, List.set_cons_succ]
        refine wpAnyH_take (i := 11) (v := ?vC11) rfl (by kernel_rfl) (by kernel_rfl) (by kernel_rfl) (fun _ _ _ h => h) (Or.inl ⟨by rfl, ?hyC11⟩) hS ?restC11
        case hyC11 =>
          intro w hSw
          have k0 := n0 w hSw
          first | (go_simp; done) | (go_simp; with_reducible rfl)
        try simp only [Act.put, List.setIfInBounds_toArray, List.set_cons_zero, List.set_cons_succ]
        refine wpAnyH_take (i := 22) (v := ?vC22) rfl (by kernel_rfl) (by kernel_rfl) (by kernel_rfl) (fun _ _ _ h => h) (Or.inl ⟨by rfl, ?hyC22⟩) hS ?restC22
        case hyC22 =>
          intro w hSw
          first | (go_simp; done) | (go_simp; with_reducible rfl)
        try simp only [Act.put, List.setIfInBounds_toArray, List.set_cons_zero, List.set_cons_succ]
        refine wpAnyH_take (i := 23) (v := ?vC23) rfl (by kernel_rfl) (by kernel_rfl) (by kernel_rfl) (fun _ _ _ h => h) (Or.inl ⟨by rfl, ?hyC23⟩) hS ?restC23
        case hyC23 =>
          intro w hSw
          have k0 := f5 w hSw
          first | (go_simp; done) | (go_simp; with_reducible rfl)
        try simp only [Act.put, List.setIfInBounds_toArray, List.set_cons_zero, List.set_cons_succ]
        refine wpAnyH_take (i := 24) (v := ?vC24) rfl (by kernel_rfl) (by kernel_rfl) (by kernel_rfl) (fun _ _ _ h => h) (Or.inl ⟨by rfl, ?hyC24⟩) hS ?restC24
        case hyC24 =>
          intro w hSw
          first | (go_simp; done) | (go_simp; with_reducible rfl)
        try simp only [Act.put, List.setIfInBounds_toArray, List.set_cons_zero, List.set_cons_succ]
        refine wpAnyH_take (i := 25) (v := ?vC25) rfl (by kernel_rfl) (by kernel_rfl) (by kernel_rfl) (fun _ _ _ h => h) (Or.inl ⟨by rfl, ?hyC25⟩) hS ?restC25
        case hyC25 =>
          intro w hSw
          first | (go_simp; done) | (go_simp; with_reducible rfl)
        try simp only [Act.put, List.setIfInBounds_toArray, List.set_cons_zero, List.set_cons_succ]
        refine wpAnyH_take (i := 26) (v := ?vC26) rfl (by kernel_rfl) (by kernel_rfl) (by kernel_rfl) (fun _ _ _ h => h) (Or.inl ⟨by rfl, ?hyC26⟩) hS ?restC26
        case hyC26 =>
          intro w hSw
          have k0 := n0 w hSw; have k1 := n1 w hSw; have k2 := n2 w hSw; have k3 := n3 w hSw; have k4 := n4 w hSw
          first | (go_simp; done) | (go_simp; with_reducible rfl)
        try simp only [Act.put, List.setIfInBounds_toArray, List.set_cons_zero, List.set_cons_succ]
        refine wpAnyH_take (i := 30) (v := ?vC30) rfl (by kernel_rfl) (by kernel_rfl) (by kernel_rfl) (fun _ _ _ h => h) (Or.inl ⟨by rfl, ?hyC30⟩) hS ?restC30
        case hyC30 =>
          intro w hSw
          first | (go_simp; done) | (go_simp; with_reducible rfl)
        try simp only [Act.put, List.setIfInBounds_toArray, List.set_cons_zero, List.set_cons_succ]
        refine wpAnyH_take (i := 31) (v := ?vC31) rfl (by kernel_rfl) (by kernel_rfl) (by kernel_rfl) (fun _ _ _ h => h) (Or.inl ⟨by rfl, ?hyC31⟩) hS ?restC31
        case hyC31 =>
          intro w hSw
          have k0 := n2 w hSw
          first | (go_simp; done) | (go_simp; with_reducible rfl)
        try simp only [Act.put, List.setIfInBounds_toArray, List.set_cons_zero, List.set_cons_succ]
        refine wpAnyH_ready (rs := [2]) (by kernel_rfl) (by simp) ?_
        refine AllReadyH.cons rfl (fun K hK => ?_) AllReadyH.nil
        go_simp
        go_wp2_with ((go_at_call 35; refine (KD.out _).mono ?_; rintro e w' ⟨rfl, rfl⟩))
        refine hK.out _ _ hS (fun _ => ?_)
        clear hK K
        refine wpAnyH_take (i := 3) (v := ?vC3) rfl (by kernel_rfl) (by kernel_rfl) (by kernel_rfl) (fun _ _ _ h => h) (Or.inl ⟨by rfl, ?hyC3⟩) hS ?restC3
        case hyC3 =>
          intro w hSw
          have kadd := hadd w
          first | (go_simp; done) | (go_simp; with_reducible rfl)
        try simp only [Act.put, List.setIfInBounds_toArray, List.set_cons_zero, List.set_cons_succ]
        refine wpAnyH_ready (rs := [6]) (by kernel_rfl) (by simp) ?_
        refine AllReadyH.cons rfl (fun K hK => ?_) AllReadyH.nil
        go_simp
        go_wp2_with ((go_at_call 88; refine (KE.out _).mono ?_; rintro e w' ⟨rfl, rfl⟩))
        refine hK.out _ _ hS (fun _ => ?_)
        clear hK K
        refine wpAnyH_take (i := 7) (v := ?vC7) rfl (by kernel_rfl) (by kernel_rfl) (by kernel_rfl) (fun _ _ _ h => h) (Or.inl ⟨by rfl, ?hyC7⟩) hS ?restC7
        case hyC7 =>
          intro w hSw
          first | (go_simp; done) | (go_simp; with_reducible rfl)
        try simp only [Act.put, List.setIfInBounds_toArray, List.set_cons_zero, List.set_cons_succ]
        refine wpAnyH_ready (rs := [8]) (by kernel_rfl) (by simp) ?_
        refine AllReadyH.cons rfl (fun K hK => ?_) AllReadyH.nil
        go_simp
        go_wp2_with ((go_at_call 63; refine (fwh_any _ _ _).mono ?_; rintro e w' ⟨rfl, rfl⟩))
        refine hK.out _ _ hS (fun _ => ?_)
        clear hK K
        refine wpAnyH_ready (rs := [12]) (by kernel_rfl) (by simp) ?_
        refine AllReadyH.cons rfl (fun K hK => ?_) AllReadyH.nil
        go_simp
        go_wp2_with ((go_at_call 89; refine (KF1.out _ hS).mono ?_; rintro e w' ⟨rfl, hb'⟩; have hO := hO.more hb'; have hS := hS.on hb'))
        refine hK.out _ _ hS (fun _ => ?_)
        clear hK K
        refine wpAnyH_take (i := 13) (v := ?vC13) rfl (by kernel_rfl) (by kernel_rfl) (by kernel_rfl) (fun _ _ _ h => h) (Or.inl ⟨by rfl, ?hyC13⟩) hS ?restC13
        case hyC13 =>
          intro w hSw
          first | (go_simp; done) | (go_simp; with_reducible rfl)
        try simp only [Act.put, List.setIfInBounds_toArray, List.set_cons_zero, List.set_cons_succ]
        refine wpAnyH_take (i := 14) (v := ?vC14) rfl (by kernel_rfl) (by kernel_rfl) (by kernel_rfl) (fun _ _ _ h => h) (Or.inl ⟨by rfl, ?hyC14⟩) hS ?restC14
        case hyC14 =>
          intro w hSw
          first | (go_simp; done) | (go_simp; with_reducible rfl)
        try simp only [Act.put, List.setIfInBounds_toArray, List.set_cons_zero, List.set_cons_succ]
        cases kf with
        | false =>
          refine wpAnyH_take (i := 15) (v := undef) rfl (by kernel_rfl) (by kernel_rfl) (by kernel_rfl) (fun _ _ _ h => h) (Or.inr ⟨by kernel_rfl, rfl⟩) hS ?_
          try simp only [Act.put, List.setIfInBounds_toArray, List.set_cons_zero, List.set_cons_succ]
          refine wpAnyH_take (i := 16) (v := undef) rfl (by kernel_rfl) (by kernel_rfl) (by kernel_rfl) (fun _ _ _ h => h) (Or.inr ⟨by kernel_rfl, rfl⟩) hS ?_
          try simp only [Act.put, List.setIfInBounds_toArray, List.set_cons_zero, List.set_cons_succ]
          refine wpAnyH_take (i := 17) (v := undef) rfl (by kernel_rfl) (by kernel_rfl) (by kernel_rfl) (fun _ _ _ h => h) (Or.inr ⟨by kernel_rfl, rfl⟩) hS ?_
          try simp only [Act.put, List.setIfInBounds_toArray, List.set_cons_zero, List.set_cons_succ]
          refine wpAnyH_take (i := 18) (v := undef) rfl (by kernel_rfl) (by kernel_rfl) (by kernel_rfl) (fun _ _ _ h => h) (Or.inr ⟨by kernel_rfl, rfl⟩) hS ?_
          try simp only [Act.put, List.setIfInBounds_toArray, List.set_cons_zero, List.set_cons_succ]
          refine wpAnyH_take (i := 19) (v := undef) rfl (by kernel_rfl) (by kernel_rfl) (by kernel_rfl) (fun _ _ _ h => h) (Or.inr ⟨by kernel_rfl, rfl⟩) hS ?_
          try simp only [Act.put, List.setIfInBounds_toArray, List.set_cons_zero, List.set_cons_succ]
          refine wpAnyH_take (i := 20) (v := ?vCf20) rfl (by kernel_rfl) (by kernel_rfl) (by kernel_rfl) (fun _ _ _ h => h) (Or.inl ⟨by rfl, ?hyCf20⟩) hS ?restCf20
          case hyCf20 =>
            intro w hSw
            first | (go_simp; done) | (go_simp; with_reducible rfl)
          try simp only [Act.put, List.setIfInBounds_toArray, List.set_cons_zero, List.set_cons_succ]
          refine wpAnyH_ready (rs := [21]) (by kernel_rfl) (by simp) ?_
          refine AllReadyH.cons rfl (fun K hK => ?_) AllReadyH.nil
          go_simp
          go_wp2_with ((go_at_call 63; refine (fwh_any _ _ _).mono ?_; rintro e w' ⟨rfl, rfl⟩))
          refine hK.out _ _ hS (fun _ => ?_)
          clear hK K
          refine wpAnyH_ready (rs := [27]) (by kernel_rfl) (by simp) ?_
          refine AllReadyH.cons rfl (fun K hK => ?_) AllReadyH.nil
          go_simp
          go_wp2_with ((go_at_call 90; refine (KX.out _ hS).mono ?_; rintro e w' ⟨rfl, hb'⟩; have hO := hO.more hb'; have hS := hS.on hb'))
          refine hK.out _ _ hS (fun _ => ?_)
          clear hK K
          refine wpAnyH_take (i := 28) (v := ?vCf28) rfl (by kernel_rfl) (by kernel_rfl) (by kernel_rfl) (fun _ _ _ h => h) (Or.inl ⟨by rfl, ?hyCf28⟩) hS ?restCf28
          case hyCf28 =>
            intro w hSw
            first | (go_simp; done) | (go_simp; with_reducible rfl)
          try simp only [Act.put, List.setIfInBounds_toArray, List.set_cons_zero, List.set_cons_succ]
          refine wpAnyH_ready (rs := [29]) (by kernel_rfl) (by simp) ?_
          refine AllReadyH.cons rfl (fun K hK => ?_) AllReadyH.nil
          go_simp
          go_wp2_with ((go_at_call 63; refine (fwh_any _ _ _).mono ?_; rintro e w' ⟨rfl, rfl⟩))
          refine hK.out _ _ hS (fun _ => ?_)
          clear hK K
          refine wpAnyH_ready (rs := [32]) (by kernel_rfl) (by simp) ?_
          refine AllReadyH.cons rfl (fun K hK => ?_) AllReadyH.nil
          go_simp
          go_wp2_with ((go_at_call 91; refine (KM1.out _).mono ?_; rintro e w' ⟨rfl, rfl⟩))
          refine hK.out _ _ hS (fun _ => ?_)
          clear hK K
          refine wpAnyH_take (i := 33) (v := ?vCf33) rfl (by kernel_rfl) (by kernel_rfl) (by kernel_rfl) (fun _ _ _ h => h) (Or.inl ⟨by rfl, ?hyCf33⟩) hS ?restCf33
          case hyCf33 =>
            intro w hSw
            first | (go_simp; done) | (go_simp; with_reducible rfl)
          try simp only [Act.put, List.setIfInBounds_toArray, List.set_cons_zero, List.set_cons_succ]
          refine wpAnyH_take (i := 34) (v := ?vCf34) rfl (by kernel_rfl) (by kernel_rfl) (by kernel_rfl) (fun _ _ _ h => h) (Or.inl ⟨by rfl, ?hyCf34⟩) hS ?restCf34
          case hyCf34 =>
            intro w hSw
            first | (go_simp; done) | (go_simp; with_reducible rfl)
          try simp only [Act.put, List.setIfInBounds_toArray, List.set_cons_zero, List.set_cons_succ]
          cases md with
          | false =>
            refine wpAnyH_take (i := 35) (v := undef) rfl (by kernel_rfl) (by kernel_rfl) (by kernel_rfl) (fun _ _ _ h => h) (Or.inr ⟨by kernel_rfl, rfl⟩) hS ?_
            try simp only [Act.put, List.setIfInBounds_toArray, List.set_cons_zero, List.set_cons_succ]
            refine wpAnyH_take (i := 36) (v := undef) rfl (by kernel_rfl) (by kernel_rfl) (by kernel_rfl) (fun _ _ _ h => h) (Or.inr ⟨by kernel_rfl, rfl⟩) hS ?_
            try simp only [Act.put, List.setIfInBounds_toArray, List.set_cons_zero, List.set_cons_succ]
            refine wpAnyH_take (i := 37) (v := undef) rfl (by kernel_rfl) (by kernel_rfl) (by kernel_rfl) (fun _ _ _ h => h) (Or.inr ⟨by kernel_rfl, rfl⟩) hS ?_
            try simp only [Act.put, List.setIfInBounds_toArray, List.set_cons_zero, List.set_cons_succ]
            refine wpAnyH_take (i := 38) (v := undef) rfl (by kernel_rfl) (by kernel_rfl) (by kernel_rfl) (fun _ _ _ h => h) (Or.inr ⟨by kernel_rfl, rfl⟩) hS ?_
            try simp only [Act.put, List.setIfInBounds_toArray, List.set_cons_zero, List.set_cons_succ]
            refine wpAnyH_take (i := 39) (v := ?vCff39) rfl (by kernel_rfl) (by kernel_rfl) (by kernel_rfl) (fun _ _ _ h => h) (Or.inl ⟨by rfl, ?hyCff39⟩) hS ?restCff39
            case hyCff39 =>
              intro w hSw
              first | (go_simp; done) | (go_simp; with_reducible rfl)
            try simp only [Act.put, List.setIfInBounds_toArray, List.set_cons_zero, List.set_cons_succ]
            refine wpAnyH_ready (rs := [40]) (by kernel_rfl) (by simp) ?_
            refine AllReadyH.cons rfl (fun K hK => ?_) AllReadyH.nil
            go_simp
            go_wp2_with ((go_at_call 63; refine (fwh_any _ _ _).mono ?_; rintro e w' ⟨rfl, rfl⟩))
            refine hK.out _ _ hS (fun _ => ?_)
            clear hK K
            refine wpAnyH_ready (rs := [41]) (by kernel_rfl) (by simp) ?_
            refine AllReadyH.cons rfl (fun K hK => ?_) AllReadyH.nil
            go_simp
            have hNv : v.ownBlock ≠ some w'.heap.size := fun h => Nat.lt_irrefl _ (hO.low h).2
            have hO := hO.alloc (.cells #[.int .i64 (wh (!ke) 5), .int .i64 (wh true 14), .int .i64 (wh (!kn) 15), .int .i64 (wh true 2)] errT)
            have hS := hS.on (bel_alloc _ (.cells #[.int .i64 (wh (!ke) 5), .int .i64 (wh true 14), .int .i64 (wh (!kn) 15), .int .i64 (wh true 2)] errT))
            refine hK.out _ _ hS (fun _ => ?_)
            clear hK K
            refine wpAnyH_ready (rs := [42]) (by kernel_rfl) (by simp) ?_
            refine AllReadyH.cons rfl (fun K hK => ?_) AllReadyH.nil
            go_simp
            go_wp2_with ((go_at_call 62; refine (fadd_any _ v _ _ w'.heap.size 4 4 [wh (!ke) 5, wh true 14, wh (!kn) 15, wh true 2] _ hO rfl (by omega) (errs_new w' _ rfl) hNv HFL.out).mono ?_; rintro e w8 ⟨v8, rfl, hO8, hC8⟩; have hS := hS.trans hC8.but (fun _ _ h => h)))
            refine hK.out _ _ hS (fun _ => ?_)
            clear hK K
            refine wpAnyH_take (i := 43) (v := ?vCff43) rfl (by kernel_rfl) (by kernel_rfl) (by kernel_rfl) (fun _ _ _ h => h) (Or.inl ⟨by rfl, ?hyCff43⟩) hS ?restCff43
            case hyCff43 =>
              intro w hSw
              first | (go_simp; done) | (go_simp; with_reducible rfl)
            try simp only [Act.put, List.setIfInBounds_toArray, List.set_cons_zero, List.set_cons_succ]
            refine wpAnyH_done (by kernel_rfl) ?_ _
            simp only [List.getElem_toArray, List.getElem_cons_succ, List.getElem_cons_zero, List.set_cons_zero, List.set_cons_succ]
            have HEr : Hid (lgEs p.l (lg.take k) x = [wh (!ke) 5, wh true 14, wh (!kn) 15, wh true 2]) := Lib.hid (by rw [HEq.out]; simp [wh])
            have HY : Hid (FOwn w5.heap.size w8 v8 (HF ++ lgsF p.l lg (k + 1)) ∧ SW w5 w8) := Lib.hid ⟨by rw [HTk.out, ← List.append_assoc, HEr.out]; exact hO8, HSW.out _ hS⟩
            clear hO8 hC8 hS hO
            go_wp2
            go_roundg (lg.length - (k + 1))
            case measure => have := HKX.out; omega
            case rel => exact ⟨_, k + 1, rfl, by go_num, by omega, HY⟩
          | true =>
            refine wpAnyH_take (i := 35) (v := ?vCft35) rfl (by kernel_rfl) (by kernel_rfl) (by kernel_rfl) (fun _ _ _ h => h) (Or.inl ⟨by kernel_rfl, ?hyCft35⟩) hS ?restCft35
            case hyCft35 =>
              intro w hSw
              first | (go_simp; done) | (go_simp; with_reducible rfl)
            try simp only [Act.put, List.setIfInBounds_toArray, List.set_cons_zero, List.set_cons_succ]
            refine wpAnyH_take (i := 36) (v := ?vCft36) rfl (by kernel_rfl) (by kernel_rfl) (by kernel_rfl) (fun _ _ _ h => h) (Or.inl ⟨by kernel_rfl, ?hyCft36⟩) hS ?restCft36
            case hyCft36 =>
              intro w hSw
              have k0 := n3 w hSw
              first | (go_simp; done) | (go_simp; with_reducible rfl)
            try simp only [Act.put, List.setIfInBounds_toArray, List.set_cons_zero, List.set_cons_succ]
            refine wpAnyH_ready (rs := [37]) (by kernel_rfl) (by simp) ?_
            refine AllReadyH.cons rfl (fun K hK => ?_) AllReadyH.nil
            go_simp
            go_wp2_with ((go_at_call 91; refine (KM2.out _).mono ?_; rintro e w' ⟨rfl, rfl⟩))
            refine hK.out _ _ hS (fun _ => ?_)
            clear hK K
            refine wpAnyH_take (i := 38) (v := ?vCft38) rfl (by kernel_rfl) (by kernel_rfl) (by kernel_rfl) (fun _ _ _ h => h) (Or.inl ⟨by kernel_rfl, ?hyCft38⟩) hS ?restCft38
            case hyCft38 =>
              intro w hSw
              first | (go_simp; done) | (go_simp; with_reducible rfl)
            try simp only [Act.put, List.setIfInBounds_toArray, List.set_cons_zero, List.set_cons_succ]
            refine wpAnyH_take (i := 39) (v := ?vCft39) rfl (by kernel_rfl) (by kernel_rfl) (by kernel_rfl) (fun _ _ _ h => h) (Or.inl ⟨by rfl, ?hyCft39⟩) hS ?restCft39
            case hyCft39 =>
              intro w hSw
              first | (go_simp; done) | (go_simp; with_reducible rfl)
            try simp only [Act.put, List.setIfInBounds_toArray, List.set_cons_zero, List.set_cons_succ]
            refine wpAnyH_ready (rs := [40]) (by kernel_rfl) (by simp) ?_
            refine AllReadyH.cons rfl (fun K hK => ?_) AllReadyH.nil
            go_simp
            go_wp2_with ((go_at_call 63; refine (fwh_any _ _ _).mono ?_; rintro e w' ⟨rfl, rfl⟩))
            refine hK.out _ _ hS (fun _ => ?_)
            clear hK K
            refine wpAnyH_ready (rs := [41]) (by kernel_rfl) (by simp) ?_
            refine AllReadyH.cons rfl (fun K hK => ?_) AllReadyH.nil
            go_simp
            have hNv : v.ownBlock ≠ some w'.heap.size := fun h => Nat.lt_irrefl _ (hO.low h).2
            have hO := hO.alloc (.cells #[.int .i64 (wh (!ke) 5), .int .i64 (wh true 14), .int .i64 (wh (!kn) 15), .int .i64 (wh (!ma) 2)] errT)
            have hS := hS.on (bel_alloc _ (.cells #[.int .i64 (wh (!ke) 5), .int .i64 (wh true 14), .int .i64 (wh (!kn) 15), .int .i64 (wh (!ma) 2)] errT))
            refine hK.out _ _ hS (fun _ => ?_)
            clear hK K
            refine wpAnyH_ready (rs := [42]) (by kernel_rfl) (by simp) ?_
            refine AllReadyH.cons rfl (fun K hK => ?_) AllReadyH.nil
            go_simp
            go_wp2_with ((go_at_call 62; refine (fadd_any _ v _ _ w'.heap.size 4 4 [wh (!ke) 5, wh true 14, wh (!kn) 15, wh (!ma) 2] _ hO rfl (by omega) (errs_new w' _ rfl) hNv HFL.out).mono ?_; rintro e w8 ⟨v8, rfl, hO8, hC8⟩; have hS := hS.trans hC8.but (fun _ _ h => h)))
            refine hK.out _ _ hS (fun _ => ?_)
            clear hK K
            refine wpAnyH_take (i := 43) (v := ?vCft43) rfl (by kernel_rfl) (by kernel_rfl) (by kernel_rfl) (fun _ _ _ h => h) (Or.inl ⟨by rfl, ?hyCft43⟩) hS ?restCft43
            case hyCft43 =>
              intro w hSw
              first | (go_simp; done) | (go_simp; with_reducible rfl)
            try simp only [Act.put, List.setIfInBounds_toArray, List.set_cons_zero, List.set_cons_succ]
            refine wpAnyH_done (by kernel_rfl) ?_ _
            simp only [List.getElem_toArray, List.getElem_cons_succ, List.getElem_cons_zero, List.set_cons_zero, List.set_cons_succ]
            have HEr : Hid (lgEs p.l (lg.take k) x = [wh (!ke) 5, wh true 14, wh (!kn) 15, wh (!ma) 2]) := Lib.hid (by rw [HEq.out]; simp [wh])
            have HY : Hid (FOwn w5.heap.size w8 v8 (HF ++ lgsF p.l lg (k + 1)) ∧ SW w5 w8) := Lib.hid ⟨by rw [HTk.out, ← List.append_assoc, HEr.out]; exact hO8, HSW.out _ hS⟩
            clear hO8 hC8 hS hO
            go_wp2
            go_roundg (lg.length - (k + 1))
            case measure => have := HKX.out; omega
            case rel => exact ⟨_, k + 1, rfl, by go_num, by omega, HY⟩
        | true =>
          refine wpAnyH_take (i := 15) (v := ?vCt15) rfl (by kernel_rfl) (by kernel_rfl) (by kernel_rfl) (fun _ _ _ h => h) (Or.inl ⟨by kernel_rfl, ?hyCt15⟩) hS ?restCt15
          case hyCt15 =>
            intro w hSw
            have k0 := y0 w hSw; have k1 := y1 w hSw
            first | (go_simp; done) | (go_simp; with_reducible rfl)
          try simp only [Act.put, List.setIfInBounds_toArray, List.set_cons_zero, List.set_cons_succ]
          refine wpAnyH_take (i := 16) (v := ?vCt16) rfl (by kernel_rfl) (by kernel_rfl) (by kernel_rfl) (fun _ _ _ h => h) (Or.inl ⟨by kernel_rfl, ?hyCt16⟩) hS ?restCt16
          case hyCt16 =>
            intro w hSw
            first | (go_simp; done) | (go_simp; with_reducible rfl)
          try simp only [Act.put, List.setIfInBounds_toArray, List.set_cons_zero, List.set_cons_succ]
          refine wpAnyH_take (i := 17) (v := ?vCt17) rfl (by kernel_rfl) (by kernel_rfl) (by kernel_rfl) (fun _ _ _ h => h) (Or.inl ⟨by kernel_rfl, ?hyCt17⟩) hS ?restCt17
          case hyCt17 =>
            intro w hSw
            have k0 := n1 w hSw
            first | (go_simp; done) | (go_simp; with_reducible rfl)
          try simp only [Act.put, List.setIfInBounds_toArray, List.set_cons_zero, List.set_cons_succ]
          refine wpAnyH_ready (rs := [18]) (by kernel_rfl) (by simp) ?_
          refine AllReadyH.cons rfl (fun K hK => ?_) AllReadyH.nil
          go_simp
          go_wp2_with ((go_at_call 89; refine (KF2.out _ hS).mono ?_; rintro e w' ⟨rfl, hb'⟩; have hO := hO.more hb'; have hS := hS.on hb'))
          refine hK.out _ _ hS (fun _ => ?_)
          clear hK K
          refine wpAnyH_take (i := 19) (v := ?vCt19) rfl (by kernel_rfl) (by kernel_rfl) (by kernel_rfl) (fun _ _ _ h => h) (Or.inl ⟨by kernel_rfl, ?hyCt19⟩) hS ?restCt19
          case hyCt19 =>
            intro w hSw
            first | (go_simp; done) | (go_simp; with_reducible rfl)
          try simp only [Act.put, List.setIfInBounds_toArray, List.set_cons_zero, List.set_cons_succ]
          refine wpAnyH_take (i := 20) (v := ?vCt20) rfl (by kernel_rfl) (by kernel_rfl) (by kernel_rfl) (fun _ _ _ h => h) (Or.inl ⟨by rfl, ?hyCt20⟩) hS ?restCt20
          case hyCt20 =>
            intro w hSw
            first | (go_simp; done) | (go_simp; with_reducible rfl)
          try simp only [Act.put, List.setIfInBounds_toArray, List.set_cons_zero, List.set_cons_succ]
          refine wpAnyH_ready (rs := [21]) (by kernel_rfl) (by simp) ?_
          refine AllReadyH.cons rfl (fun K hK => ?_) AllReadyH.nil
          go_simp
          go_wp2_with ((go_at_call 63; refine (fwh_any _ _ _).mono ?_; rintro e w' ⟨rfl, rfl⟩))
          refine hK.out _ _ hS (fun _ => ?_)
          clear hK K
          refine wpAnyH_ready (rs := [27]) (by kernel_rfl) (by simp) ?_
          refine AllReadyH.cons rfl (fun K hK => ?_) AllReadyH.nil
          go_simp
          go_wp2_with ((go_at_call 90; refine (KX.out _ hS).mono ?_; rintro e w' ⟨rfl, hb'⟩; have hO := hO.more hb'; have hS := hS.on hb'))
          refine hK.out _ _ hS (fun _ => ?_)
          clear hK K
          refine wpAnyH_take (i := 28) (v := ?vCt28) rfl (by kernel_rfl) (by kernel_rfl) (by kernel_rfl) (fun _ _ _ h => h) (Or.inl ⟨by rfl, ?hyCt28⟩) hS ?restCt28
          case hyCt28 =>
            intro w hSw
            first | (go_simp; done) | (go_simp; with_reducible rfl)
          try simp only [Act.put, List.setIfInBounds_toArray, List.set_cons_zero, List.set_cons_succ]
          refine wpAnyH_ready (rs := [29]) (by kernel_rfl) (by simp) ?_
          refine AllReadyH.cons rfl (fun K hK => ?_) AllReadyH.nil
          go_simp
          go_wp2_with ((go_at_call 63; refine (fwh_any _ _ _).mono ?_; rintro e w' ⟨rfl, rfl⟩))
          refine hK.out _ _ hS (fun _ => ?_)
          clear hK K
          refine wpAnyH_ready (rs := [32]) (by kernel_rfl) (by simp) ?_
          refine AllReadyH.cons rfl (fun K hK => ?_) AllReadyH.nil
          go_simp
          go_wp2_with ((go_at_call 91; refine (KM1.out _).mono ?_; rintro e w' ⟨rfl, rfl⟩))
          refine hK.out _ _ hS (fun _ => ?_)
          clear hK K
          refine wpAnyH_take (i := 33) (v := ?vCt33) rfl (by kernel_rfl) (by kernel_rfl) (by kernel_rfl) (fun _ _ _ h => h) (Or.inl ⟨by rfl, ?hyCt33⟩) hS ?restCt33
          case hyCt33 =>
            intro w hSw
            first | (go_simp; done) | (go_simp; with_reducible rfl)
          try simp only [Act.put, List.setIfInBounds_toArray, List.set_cons_zero, List.set_cons_succ]
          refine wpAnyH_take (i := 34) (v := ?vCt34) rfl (by kernel_rfl) (by kernel_rfl) (by kernel_rfl) (fun _ _ _ h => h) (Or.inl ⟨by rfl, ?hyCt34⟩) hS ?restCt34
          case hyCt34 =>
            intro w hSw
            first | (go_simp; done) | (go_simp; with_reducible rfl)
          try simp only [Act.put, List.setIfInBounds_toArray, List.set_cons_zero, List.set_cons_succ]
          cases md with
          | false =>
            refine wpAnyH_take (i := 35) (v := undef) rfl (by kernel_rfl) (by kernel_rfl) (by kernel_rfl) (fun _ _ _ h => h) (Or.inr ⟨by kernel_rfl, rfl⟩) hS ?_
            try simp only [Act.put, List.setIfInBounds_toArray, List.set_cons_zero, List.set_cons_succ]
            refine wpAnyH_take (i := 36) (v := undef) rfl (by kernel_rfl) (by kernel_rfl) (by kernel_rfl) (fun _ _ _ h => h) (Or.inr ⟨by kernel_rfl, rfl⟩) hS ?_
            try simp only [Act.put, List.setIfInBounds_toArray, List.set_cons_zero, List.set_cons_succ]
            refine wpAnyH_take (i := 37) (v := undef) rfl (by kernel_rfl) (by kernel_rfl) (by kernel_rfl) (fun _ _ _ h => h) (Or.inr ⟨by kernel_rfl, rfl⟩) hS ?_
            try simp only [Act.put, List.setIfInBounds_toArray, List.set_cons_zero, List.set_cons_succ]
            refine wpAnyH_take (i := 38) (v := undef) rfl (by kernel_rfl) (by kernel_rfl) (by kernel_rfl) (fun _ _ _ h => h) (Or.inr ⟨by kernel_rfl, rfl⟩) hS ?_
            try simp only [Act.put, List.setIfInBounds_toArray, List.set_cons_zero, List.set_cons_succ]
            refine wpAnyH_take (i := 39) (v := ?vCtf39) rfl (by kernel_rfl) (by kernel_rfl) (by kernel_rfl) (fun _ _ _ h => h) (Or.inl ⟨by rfl, ?hyCtf39⟩) hS ?restCtf39
            case hyCtf39 =>
              intro w hSw
              first | (go_simp; done) | (go_simp; with_reducible rfl)
            try simp only [Act.put, List.setIfInBounds_toArray, List.set_cons_zero, List.set_cons_succ]
            refine wpAnyH_ready (rs := [40]) (by kernel_rfl) (by simp) ?_
            refine AllReadyH.cons rfl (fun K hK => ?_) AllReadyH.nil
            go_simp
            go_wp2_with ((go_at_call 63; refine (fwh_any _ _ _).mono ?_; rintro e w' ⟨rfl, rfl⟩))
            refine hK.out _ _ hS (fun _ => ?_)
            clear hK K
            refine wpAnyH_ready (rs := [41]) (by kernel_rfl) (by simp) ?_
            refine AllReadyH.cons rfl (fun K hK => ?_) AllReadyH.nil
            go_simp
            have hNv : v.ownBlock ≠ some w'.heap.size := fun h => Nat.lt_irrefl _ (hO.low h).2
            have hO := hO.alloc (.cells #[.int .i64 (wh (!ke) 5), .int .i64 (wh (!kt) 14), .int .i64 (wh (!kn) 15), .int .i64 (wh true 2)] errT)
            have hS := hS.on (bel_alloc _ (.cells #[.int .i64 (wh (!ke) 5), .int .i64 (wh (!kt) 14), .int .i64 (wh (!kn) 15), .int .i64 (wh true 2)] errT))
            refine hK.out _ _ hS (fun _ => ?_)
            clear hK K
            refine wpAnyH_ready (rs := [42]) (by kernel_rfl) (by simp) ?_
            refine AllReadyH.cons rfl (fun K hK => ?_) AllReadyH.nil
            go_simp
            go_wp2_with ((go_at_call 62; refine (fadd_any _ v _ _ w'.heap.size 4 4 [wh (!ke) 5, wh (!kt) 14, wh (!kn) 15, wh true 2] _ hO rfl (by omega) (errs_new w' _ rfl) hNv HFL.out).mono ?_; rintro e w8 ⟨v8, rfl, hO8, hC8⟩; have hS := hS.trans hC8.but (fun _ _ h => h)))
            refine hK.out _ _ hS (fun _ => ?_)
            clear hK K
            refine wpAnyH_take (i := 43) (v := ?vCtf43) rfl (by kernel_rfl) (by kernel_rfl) (by kernel_rfl) (fun _ _ _ h => h) (Or.inl ⟨by rfl, ?hyCtf43⟩) hS ?restCtf43
            case hyCtf43 =>
              intro w hSw
              first | (go_simp; done) | (go_simp; with_reducible rfl)
            try simp only [Act.put, List.setIfInBounds_toArray, List.set_cons_zero, List.set_cons_succ]
            refine wpAnyH_done (by kernel_rfl) ?_ _
            simp only [List.getElem_toArray, List.getElem_cons_succ, List.getElem_cons_zero, List.set_cons_zero, List.set_cons_succ]
            have HEr : Hid (lgEs p.l (lg.take k) x = [wh (!ke) 5, wh (!kt) 14, wh (!kn) 15, wh true 2]) := Lib.hid (by rw [HEq.out]; simp [wh])
            have HY : Hid (FOwn w5.heap.size w8 v8 (HF ++ lgsF p.l lg (k + 1)) ∧ SW w5 w8) := Lib.hid ⟨by rw [HTk.out, ← List.append_assoc, HEr.out]; exact hO8, HSW.out _ hS⟩
            clear hO8 hC8 hS hO
            go_wp2
            go_roundg (lg.length - (k + 1))
            case measure => have := HKX.out; omega
            case rel => exact ⟨_, k + 1, rfl, by go_num, by omega, HY⟩
          | true =>
            refine wpAnyH_take (i := 35) (v := ?vCtt35) rfl (by kernel_rfl) (by kernel_rfl) (by kernel_rfl) (fun _ _ _ h => h) (Or.inl ⟨by kernel_rfl, ?hyCtt35⟩) hS ?restCtt35
            case hyCtt35 =>
              intro w hSw
              first | (go_simp; done) | (go_simp; with_reducible rfl)
            try simp only [Act.put, List.setIfInBounds_toArray, List.set_cons_zero, List.set_cons_succ]
            refine wpAnyH_take (i := 36) (v := ?vCtt36) rfl (by kernel_rfl) (by kernel_rfl) (by kernel_rfl) (fun _ _ _ h => h) (Or.inl ⟨by kernel_rfl, ?hyCtt36⟩) hS ?restCtt36
            case hyCtt36 =>
              intro w hSw
              have k0 := n3 w hSw
              first | (go_simp; done) | (go_simp; with_reducible rfl)
            try simp only [Act.put, List.setIfInBounds_toArray, List.set_cons_zero, List.set_cons_succ]
            refine wpAnyH_ready (rs := [37]) (by kernel_rfl) (by simp) ?_
            refine AllReadyH.cons rfl (fun K hK => ?_) AllReadyH.nil
            go_simp
            go_wp2_with ((go_at_call 91; refine (KM2.out _).mono ?_; rintro e w' ⟨rfl, rfl⟩))
            refine hK.out _ _ hS (fun _ => ?_)
            clear hK K
            refine wpAnyH_take (i := 38) (v := ?vCtt38) rfl (by kernel_rfl) (by kernel_rfl) (by kernel_rfl) (fun _ _ _ h => h) (Or.inl ⟨by kernel_rfl, ?hyCtt38⟩) hS ?restCtt38
            case hyCtt38 =>
              intro w hSw
              first | (go_simp; done) | (go_simp; with_reducible rfl)
            try simp only [Act.put, List.setIfInBounds_toArray, List.set_cons_zero, List.set_cons_succ]
            refine wpAnyH_take (i := 39) (v := ?vCtt39) rfl (by kernel_rfl) (by kernel_rfl) (by kernel_rfl) (fun _ _ _ h => h) (Or.inl ⟨by rfl, ?hyCtt39⟩) hS ?restCtt39
            case hyCtt39 =>
              intro w hSw
              first | (go_simp; done) | (go_simp; with_reducible rfl)
            try simp only [Act.put, List.setIfInBounds_toArray, List.set_cons_zero, List.set_cons_succ]
            refine wpAnyH_ready (rs := [40]) (by kernel_rfl) (by simp) ?_
            refine AllReadyH.cons rfl (fun K hK => ?_) AllReadyH.nil
            go_simp
            go_wp2_with ((go_at_call 63; refine (fwh_any _ _ _).mono ?_; rintro e w' ⟨rfl, rfl⟩))
            refine hK.out _ _ hS (fun _ => ?_)
            clear hK K
            refine wpAnyH_ready (rs := [41]) (by kernel_rfl) (by simp) ?_
            refine AllReadyH.cons rfl (fun K hK => ?_) AllReadyH.nil
            go_simp
            have hNv : v.ownBlock ≠ some w'.heap.size := fun h => Nat.lt_irrefl _ (hO.low h).2
            have hO := hO.alloc (.cells #[.int .i64 (wh (!ke) 5), .int .i64 (wh (!kt) 14), .int .i64 (wh (!kn) 15), .int .i64 (wh (!ma) 2)] errT)
            have hS := hS.on (bel_alloc _ (.cells #[.int .i64 (wh (!ke) 5), .int .i64 (wh (!kt) 14), .int .i64 (wh (!kn) 15), .int .i64 (wh (!ma) 2)] errT))
            refine hK.out _ _ hS (fun _ => ?_)
            clear hK K
            refine wpAnyH_ready (rs := [42]) (by kernel_rfl) (by simp) ?_
            refine AllReadyH.cons rfl (fun K hK => ?_) AllReadyH.nil
            go_simp
            go_wp2_with ((go_at_call 62; refine (fadd_any _ v _ _ w'.heap.size 4 4 [wh (!ke) 5, wh (!kt) 14, wh (!kn) 15, wh (!ma) 2] _ hO rfl (by omega) (errs_new w' _ rfl) hNv HFL.out).mono ?_; rintro e w8 ⟨v8, rfl, hO8, hC8⟩; have hS := hS.trans hC8.but (fun _ _ h => h)))
            refine hK.out _ _ hS (fun _ => ?_)
            clear hK K
            refine wpAnyH_take (i := 43) (v := ?vCtt43) rfl (by kernel_rfl) (by kernel_rfl) (by kernel_rfl) (fun _ _ _ h => h) (Or.inl ⟨by rfl, ?hyCtt43⟩) hS ?restCtt43
            case hyCtt43 =>
              intro w hSw
              first | (go_simp; done) | (go_simp; with_reducible rfl)
            try simp only [Act.put, List.setIfInBounds_toArray, List.set_cons_zero, List.set_cons_succ]
            refine wpAnyH_done (by kernel_rfl) ?_ _
            simp only [List.getElem_toArray, List.getElem_cons_succ, List.getElem_cons_zero, List.set_cons_zero, List.set_cons_succ]
            have HEr : Hid (lgEs p.l (lg.take k) x = [wh (!ke) 5, wh (!kt) 14, wh (!kn) 15, wh (!ma) 2]) := Lib.hid (by rw [HEq.out]; simp [wh])
            have HY : Hid (FOwn w5.heap.size w8 v8 (HF ++ lgsF p.l lg (k + 1)) ∧ SW w5 w8) := Lib.hid ⟨by rw [HTk.out, ← List.append_assoc, HEr.out]; exact hO8, HSW.out _ hS⟩
            clear hO8 hC8 hS hO
            go_wp2
            go_roundg (lg.length - (k + 1))
            case measure => have := HKX.out; omega
            case rel => exact ⟨_, k + 1, rfl, by go_num, by omega, HY⟩
      · have hk : k = lg.length := by omega
        have hO := HH.out.1
        have hSr : SW w5 wr := HH.out.2
        rw [hk] at hO
        clear HH hkx
        obtain ⟨A', c', rfl, hvc⟩ := id (hO.rowL rtF.len)
        have HO2 := Lib.hid hO
        have hSw : Below w.heap.size w wr := hb0.trans (Below.mono hSr hb0.size)
        have z0 := F.out.1 _ hSr
        have z1 := F.out.2.1 _ hSr
        have z2 := F.out.2.2.1 _ hSr
        have z3 := F.out.2.2.2.1 _ hSr
        have z4 := F.out.2.2.2.2 _ hSr
        have z5 := F5.out _ hSr
        have y0 := Y0.out _ hSr
        have y1 := Y1.out _ hSr
        have HK := Lib.hid hk
        have HKL : Hid ((k : Int) = (lg.length : Int)) := Lib.hid (by rw [hk])
        have i1 : ¬ (k : Int) < (lg.length : Int) := by omega
        clear hvc hO hk
        by_cases h0 : (HF ++ lgsF p.l lg lg.length).length = 0
        · have i2 : ¬ (0 : Int) < ((HF ++ lgsF p.l lg lg.length).length : Int) := by omega
          have KC2 := Lib.hid (KT2.out h0 wr hSw)
          have HR2 : Hid (CF = TF) := Lib.hid (by rw [HR.out, if_pos h0])
          clear h0 HO2 HR
          generalize (HF ++ lgsF p.l lg lg.length).length = nn at *
          go_wp2_with (go_at_call 92; refine KC2.out.mono ?_; rintro e w9 ⟨v9, rfl, hO9, hb9⟩)
          go_ret
          exact ⟨v9, rfl, by rw [HR2.out]; exact ⟨hO9.own.mono hSw.size, Nat.le_trans hSw.size hO9.base⟩, hSw.trans (hb9.mono hSw.size)⟩
        · have i2 : (0 : Int) < ((HF ++ lgsF p.l lg lg.length).length : Int) := by omega
          have HR2 : Hid (CF = HF ++ lgsF p.l lg lg.length) := Lib.hid (by rw [HR.out, if_neg h0])
          have HZ : Hid (FOwn w.heap.size wr (.slice A' (HF ++ lgsF p.l lg lg.length).length c') CF ∧ Below w.heap.size w wr) := Lib.hid ⟨by rw [HR2.out]; exact ⟨HO2.out.own.mono hb0.size, Nat.le_trans hb0.size HO2.out.base⟩, hSw⟩
          clear h0 HO2 HR HR2
          generalize (HF ++ lgsF p.l lg lg.length).length = nn at *
          go_wp2
          go_ret
          exact ⟨_, rfl, HZ.out⟩

end Go.Proofs.YtmmpalnalogfnaaGreatDoor

/- Walks of the reference's Find and town. -/
namespace Go.Proofs.YtmmpalnalogfnaaGreatDoor
open Go.RowKit Go.Shelf
set_option linter.unusedSimpArgs false
set_option linter.unusedVariables false

end Go.Proofs.YtmmpalnalogfnaaGreatDoor

/- Walk of the reference's City. -/
namespace Go.Proofs.YtmmpalnalogfnaaGreatDoor
open Go.RowKit Go.Shelf
set_option linter.unusedSimpArgs false
set_option linter.unusedVariables false

end Go.Proofs.YtmmpalnalogfnaaGreatDoor

/- Walk of the reference's Country. -/
namespace Go.Proofs.YtmmpalnalogfnaaGreatDoor
open Go.RowKit Go.Shelf
set_option linter.unusedSimpArgs false
set_option linter.unusedVariables false

end Go.Proofs.YtmmpalnalogfnaaGreatDoor

/- Walk of the reference's airport. -/
namespace Go.Proofs.YtmmpalnalogfnaaGreatDoor
open Go.RowKit Go.Shelf
set_option linter.unusedSimpArgs false
set_option linter.unusedVariables false

end Go.Proofs.YtmmpalnalogfnaaGreatDoor

/- Walks of the reference's leaves for flights: out, broken, head. -/
namespace Go.Proofs.YtmmpalnalogfnaaGreatDoor
open Go.RowKit Go.Shelf
set_option linter.unusedSimpArgs false
set_option linter.unusedVariables false

theorem rout_any (n : Int) (w : World) : Calls Tryz.prog 43 #[.int .i64 n] w fun e w' => e = .returned (.bool (!minB n)) ∧ w = w' := by
  have HU : Hid ((!minB n) = (decide (n < -1440) || decide (5759 < n))) := Lib.hid (by
    unfold minB
    by_cases h1 : -1440 ≤ n <;> by_cases h2 : n ≤ 5759 <;> simp [h1, h2] <;> omega)
  by_cases h1 : n < -1440
  all_goals
    go_enter Tryz.func43, Tryz.ntmps43
    go_wp2
    go_ret
    exact ⟨ret_bool (by rw [HU.out]; first | (simp [h1]; done) | (simp [h1]; omega)), rfl⟩

end Go.Proofs.YtmmpalnalogfnaaGreatDoor

/- Walk of the reference's head of a flight. -/
namespace Go.Proofs.YtmmpalnalogfnaaGreatDoor
open Go.RowKit Go.Shelf
set_option linter.unusedSimpArgs false
set_option linter.unusedVariables false

/-- the violations of a flight without its legs, with the count of legs -/
def hdR (f : FV) : List Flt := hdF f ++ pick lgsW [if (!cntB f.lg.length) = true then 4 else 0]
set_option maxRecDepth 100000 in
set_option maxHeartbeats 8000000 in
theorem rhead_any (f : FV) (w : World) (hc0 : f.car.size ≤ maxLen) :
    Calls Tryz.prog 38 #[encFl f] w fun e w' => ∃ v, e = .returned v ∧ FOwn w.heap.size w' v (hdR f) ∧ Below w.heap.size w w' := by
  obtain ⟨HR, hHR⟩ : ∃ H, H = hdR f := ⟨_, rfl⟩
  rw [← hHR]
  obtain ⟨x0, hx0⟩ : ∃ x : Int, x = (if (!carB f.car) = true then 5 else 0) := ⟨_, rfl⟩
  obtain ⟨x1, hx1⟩ : ∃ x : Int, x = (if (!numB f.num) = true then 2 else 0) := ⟨_, rfl⟩
  obtain ⟨x2, hx2⟩ : ∃ x : Int, x = Per.errQ (f.pf, f.pt, f.pd) := ⟨_, rfl⟩
  obtain ⟨x3, hx3⟩ : ∃ x : Int, x = (if (!cntB f.lg.length) = true then 4 else 0) := ⟨_, rfl⟩
  have HHR : Hid (HR = [] ++ pick carW [x0] ++ pick numW [x1] ++ pick perW [x2] ++ pick lgsW [x3]) := Lib.hid (by rw [hHR, hdR, hdF, hx0, hx1, hx2, hx3]; simp)
  clear hHR
  have hb1 := bel_alloc w (.cells #[.string f.car, .int .i64 f.num, .int .i64 f.pf, .int .i64 f.pt, .int .i64 f.pd, .slice f.A f.lg.length f.c] fliT)
  have q0 := (cells_new w #[.string f.car, .int .i64 f.num, .int .i64 f.pf, .int .i64 f.pt, .int .i64 f.pd, .slice f.A f.lg.length f.c] fliT 0).trans (show _ = some (.string f.car) from rfl)
  have q1 := (cells_new w #[.string f.car, .int .i64 f.num, .int .i64 f.pf, .int .i64 f.pt, .int .i64 f.pd, .slice f.A f.lg.length f.c] fliT 1).trans (show _ = some (.int .i64 f.num) from rfl)
  have q2 := (cells_new w #[.string f.car, .int .i64 f.num, .int .i64 f.pf, .int .i64 f.pt, .int .i64 f.pd, .slice f.A f.lg.length f.c] fliT 2).trans (show _ = some (.int .i64 f.pf) from rfl)
  have q3 := (cells_new w #[.string f.car, .int .i64 f.num, .int .i64 f.pf, .int .i64 f.pt, .int .i64 f.pd, .slice f.A f.lg.length f.c] fliT 3).trans (show _ = some (.int .i64 f.pt) from rfl)
  have q4 := (cells_new w #[.string f.car, .int .i64 f.num, .int .i64 f.pf, .int .i64 f.pt, .int .i64 f.pd, .slice f.A f.lg.length f.c] fliT 4).trans (show _ = some (.int .i64 f.pd) from rfl)
  have q5 := (cells_new w #[.string f.car, .int .i64 f.num, .int .i64 f.pf, .int .i64 f.pt, .int .i64 f.pd, .slice f.A f.lg.length f.c] fliT 5).trans (show _ = some (.slice f.A f.lg.length f.c) from rfl)
  have KC := Lib.hid (fun w => rcarrier_any f.car w hc0)
  have KP := Lib.hid (fun w => Per.rcheck_any f.pf f.pt f.pd w)
  rw [← hx2] at KP
  have HX0 := Lib.hid hx0
  have HX1 := Lib.hid hx1
  have HX3 := Lib.hid hx3
  have hbw := hb1.size
  clear hx0 hx1 hx2 hx3
  go_enter Tryz.func38, Tryz.ntmps38
  go_upto_region 2 with fail
  generalize hw5 : w.alloc (.cells #[.string f.car, .int .i64 f.num, .int .i64 f.pf, .int .i64 f.pt, .int .i64 f.pd, .slice f.A f.lg.length f.c] fliT) = w5 at *
  clear hw5
  have f1 := bel_get q1
  have f2 := bel_get q2
  have f3 := bel_get q3
  have f4 := bel_get q4
  have f5 := bel_get q5
  clear q1 q2 q3 q4 q5
  generalize hbc : carB f.car = bc at *
  go_upto_if 7 with (go_at_call 103; refine (KC.out _).mono ?_; rintro e w1 ⟨rfl, rfl⟩)
  go_cut [3] from 4 (fun v wx => Hid (FOwn w5.heap.size wx v ([] ++ pick carW [x0]) ∧ SW w5 wx))
  case first =>
    have hO : FOwn w5.heap.size w5 (.slice none 0 0) [] := ROwn.nil (Nat.le_refl _)
    cases bc with
    | true =>
      have HX : Hid (x0 = 0) := Lib.hid (by rw [HX0.out]; rfl)
      go_wp2
      go_meet
      exact Lib.hid ⟨by rw [HX.out]; exact hO, Below.refl _ _⟩
    | false =>
      have HX : Hid (x0 = 5) := Lib.hid (by rw [HX0.out]; rfl)
      go_wp2_with (at_builtin; refine wpList_rapp rtF rfl _ _ rfl hO rfl (bel_alloc _ _) _ (5, carW) _ rfl (cs := #[.int .i64 5, .string carW]) rfl (heap_alloc_new _ _) (by simp) ?_; intro v1 w1 hO1 hC1)
      go_meet
      exact Lib.hid ⟨by rw [HX.out]; exact hO1, hC1.below hO⟩
  case rest =>
    have hO := hcut.out.1
    have hS := hcut.out.2
    have k1 := f1 _ hS
    clear hcut
    go_upto_region 4 with fail
    go_cut [19] from 4 (fun v wx => v = .bool (!numB f.num) ∧ wx = wc)
    case first =>
      have HU : Hid ((!numB f.num) = (decide (f.num < 1) || decide (9999 < f.num))) := Lib.hid (by
        unfold numB
        by_cases h1 : 1 ≤ f.num <;> by_cases h2 : f.num ≤ 9999 <;> simp [h1, h2] <;> omega)
      by_cases h1 : f.num < 1
      · go_wp2
        go_meet
        exact ⟨by rw [HU.out]; first | (simp [h1]; done) | (simp [h1]; omega), rfl⟩
      · go_wp2
        go_meet
        exact ⟨by rw [HU.out]; first | (simp [h1]; done) | (simp [h1]; omega), rfl⟩
    case rest =>
      obtain ⟨rfl, hwc⟩ := hcut
      obtain rfl := hwc
      generalize hbn : numB f.num = bn at *
      go_upto_if 19 with fail
      have HLn : Hid (([] ++ pick carW [x0]).length ≤ 100000000) := Lib.hid (by have h0 := pick_le carW [x0]; have h1 := pick_le numW [x1]; have h2 := pick_le perW [x2]; simp only [List.length_append, List.length_cons, List.length_nil] at h0 h1 h2 ⊢; omega)
      go_cut [3] from 4 (fun v wx => Hid (FOwn w5.heap.size wx v ([] ++ pick carW [x0] ++ pick numW [x1]) ∧ SW w5 wx))
      case first =>
        cases bn with
        | true =>
          have HX : Hid (x1 = 0) := Lib.hid (by rw [HX1.out]; rfl)
          go_wp2
          go_meet
          exact Lib.hid ⟨by rw [HX.out]; simpa [pick_zero] using hO, hS⟩
        | false =>
          have HX : Hid (x1 = 2) := Lib.hid (by rw [HX1.out]; rfl)
          go_wp2_with (at_builtin; refine wpList_rapp rtF rfl _ _ rfl hO rfl (bel_alloc _ _) _ (2, numW) _ rfl (cs := #[.int .i64 2, .string numW]) rfl (heap_alloc_new _ _) HLn.out ?_; intro v1 w1 hO1 hC1)
          go_meet
          exact Lib.hid ⟨by rw [HX.out]; exact hO1, Below.trans hS (hC1.below hO)⟩
      case rest =>
        have hO := hcut.out.1
        have hS := hcut.out.2
        have k2 := f2 _ hS
        have k3 := f3 _ hS
        have k4 := f4 _ hS
        clear hcut HLn
        go_upto_region 6 with fail
        go_cut [27] from 4 (fun v wx => v = .bool (x2 != 0) ∧ SW wc wx)
        case first =>
          go_wp2_with (go_at_call 104; refine (KP.out _).mono ?_; rintro e w2 ⟨rfl, hb2⟩)
          go_meet
          exact ⟨rfl, hb2⟩
        case rest =>
          obtain ⟨rfl, hS2⟩ := hcut
          have hO := hO.more hS2
          have hS : SW w5 wc := Below.trans hS (Below.mono hS2 hS.size)
          have k2 := f2 _ hS
          have k3 := f3 _ hS
          have k4 := f4 _ hS
          clear hS2
          have HLn : Hid (([] ++ pick carW [x0] ++ pick numW [x1]).length ≤ 100000000) := Lib.hid (by have h0 := pick_le carW [x0]; have h1 := pick_le numW [x1]; have h2 := pick_le perW [x2]; simp only [List.length_append, List.length_cons, List.length_nil] at h0 h1 h2 ⊢; omega)
          go_upto_if 27 with fail
          go_cut [3] from 4 (fun v wx => Hid (FOwn w5.heap.size wx v ([] ++ pick carW [x0] ++ pick numW [x1] ++ pick perW [x2]) ∧ SW w5 wx))
          case first =>
            cases hb : (x2 != 0) with
            | false =>
              have HX : Hid (x2 = 0) := Lib.hid (by simpa using hb)
              go_wp2
              go_meet
              exact Lib.hid ⟨by rw [HX.out]; simpa [pick_zero] using hO, hS⟩
            | true =>
              have HX : Hid (x2 ≠ 0) := Lib.hid (by simpa using hb)
              go_wp2_with (first
                | (go_at_call 104; refine (KP.out _).mono ?_; rintro e w2 ⟨rfl, hb2⟩; have hO := hO.more hb2; have hS : SW w5 w2 := Below.trans hS (Below.mono hb2 hS.size))
                | (at_builtin; refine wpList_rapp rtF rfl _ _ rfl hO rfl (bel_alloc _ _) _ (x2, perW) _ rfl (cs := #[.int .i64 x2, .string perW]) rfl (heap_alloc_new _ _) HLn.out ?_; intro v1 w1 hO1 hC1))
              go_meet
              exact Lib.hid ⟨by rw [pick_one perW x2 HX.out]; exact hO1, Below.trans hS (hC1.below hO)⟩
          case rest =>
            have hO := hcut.out.1
            have hS := hcut.out.2
            have k5 := f5 _ hS
            clear hcut HLn
            go_upto_region 8 with fail
            go_cut [44] from 4 (fun v wx => v = .bool (!cntB f.lg.length) ∧ wx = wc)
            case first =>
              have HU : Hid ((!cntB f.lg.length) = (decide ((f.lg.length : Int) < 1) || decide ((6 : Int) < (f.lg.length : Int)))) := Lib.hid (by
                unfold cntB
                by_cases h1 : 1 ≤ f.lg.length <;> by_cases h2 : f.lg.length ≤ 6 <;> simp [h1, h2] <;> omega)
              by_cases h1 : (f.lg.length : Int) < 1
              · go_wp2
                go_meet
                exact ⟨by rw [HU.out]; first | (simp [h1]; done) | (simp [h1]; omega), rfl⟩
              · go_wp2
                go_meet
                exact ⟨by rw [HU.out]; first | (simp [h1]; done) | (simp [h1]; omega), rfl⟩
            case rest =>
              obtain ⟨rfl, hwc⟩ := hcut
              obtain rfl := hwc
              generalize hbl : cntB f.lg.length = bl at *
              have HLn : Hid (([] ++ pick carW [x0] ++ pick numW [x1] ++ pick perW [x2]).length ≤ 100000000) := Lib.hid (by have h0 := pick_le carW [x0]; have h1 := pick_le numW [x1]; have h2 := pick_le perW [x2]; simp only [List.length_append, List.length_cons, List.length_nil] at h0 h1 h2 ⊢; omega)
              have hbB : Below w.heap.size w w5 := hb1
              cases bl with
              | true =>
                have HX : Hid (x3 = 0) := Lib.hid (by rw [HX3.out]; rfl)
                have HZ : Hid (HR = [] ++ pick carW [x0] ++ pick numW [x1] ++ pick perW [x2]) := Lib.hid (by rw [HHR.out, HX.out, pick_zero, List.append_nil])
                go_wp2
                go_ret
                exact ⟨_, rfl, by rw [HZ.out]; exact ⟨hO.own.mono hbB.size, Nat.le_trans hbB.size hO.base⟩, hbB.trans (Below.mono hS hbB.size)⟩
              | false =>
                have HX : Hid (x3 = 4) := Lib.hid (by rw [HX3.out]; rfl)
                have HZ : Hid (HR = [] ++ pick carW [x0] ++ pick numW [x1] ++ pick perW [x2] ++ [(4, lgsW)]) := Lib.hid (by rw [HHR.out, HX.out]; rfl)
                go_wp2_with (at_builtin; refine wpList_rapp rtF rfl _ _ rfl hO rfl (bel_alloc _ _) _ (4, lgsW) _ rfl (cs := #[.int .i64 4, .string lgsW]) rfl (heap_alloc_new _ _) HLn.out ?_; intro v1 w1 hO1 hC1)
                go_ret
                exact ⟨v1, rfl, by rw [HZ.out]; exact ⟨hO1.own.mono hbB.size, Nat.le_trans hbB.size hO1.base⟩, hbB.trans ((Below.trans hS (hC1.below hO)).mono hbB.size)⟩

end Go.Proofs.YtmmpalnalogfnaaGreatDoor

/- Walks of the reference: hex, Unquote, plain, Join. -/
namespace Go.Proofs.YtmmpalnalogfnaaGreatDoor
open Go.RowKit
set_option linter.unusedSimpArgs false
set_option linter.unusedVariables false

theorem hexV_of (k : Nat) (hk : k < 16) (c : UInt8) (h : hexd k = c) : hexV c = k := by
  rw [← h]; exact hexV_hexd ⟨k, hk⟩
theorem hexV_none (c : UInt8) (h : ∀ j, j < 16 → hexd j ≠ c) : hexV c = -1 := by
  have h1 := hexV_lt c
  have h2 := hexV_ge c
  by_cases h0 : 0 ≤ hexV c
  · exact absurd (hexd_hexV c h0) (h _ (by omega))
  · omega
set_option maxRecDepth 100000 in
set_option maxHeartbeats 1000000 in
theorem hex_any (c : UInt8) (w : World) :
    Calls Tryz.prog 172 #[.int .u8 c.toNat] w fun e w' => e = .returned (.int .i64 (hexV c)) ∧ w = w' := by
  go_enter Tryz.func172, Tryz.ntmps172
  go_wp2
  go_loop [3] (fun i => ∃ k : Nat, k ≤ 16 ∧ i = .int .i64 k ∧ Hid (∀ j, j < k → hexd j ≠ c)) (fun i => 16 - (intOf i).toNat)
  case atStart => exact ⟨0, Nat.zero_le _, rfl, Lib.hid fun j hj => absurd hj (by omega)⟩
  case round =>
    obtain ⟨k, hk, rfl, He⟩ := hrel
    by_cases hlt : k < 16
    · have e1 := hexAt_eq k k rfl
      have hlt' : (k : Int) < 16 := by omega
      by_cases hc : hexd k = c
      · have t1 : (((hexd k).toNat : Int) == (c.toNat : Int)) = true := by rw [hc]; simp
        have HV := Lib.hid (hexV_of k hlt c hc)
        clear hc
        go_wp2
        go_ret
        exact ⟨ret_int HV.out.symm, rfl⟩
      · have t1 : (((hexd k).toNat : Int) == (c.toNat : Int)) = false := by
          simp only [beq_eq_false_iff_ne]
          intro e
          exact hc (UInt8.toNat_inj.1 (by omega))
        have HC := Lib.hid hc
        clear hc
        go_wp2
        go_round
        case rel => exact ⟨k + 1, by omega, by go_num, Lib.hid fun j hj => by
          by_cases h : j = k
          · rw [h]; exact HC.out
          · exact He.out j (by omega)⟩
        case measure => simp [intOf]; omega
    · have HV := Lib.hid (hexV_none c fun j hj => He.out j (by omega))
      go_wp2
      go_ret
      exact ⟨ret_int HV.out.symm, rfl⟩

/-- the head of what is left, taken off -/
theorem drop_head {s : ByteArray} {k : Nat} {x : UInt8} {r : List UInt8} (h : s.data.toList.drop k = x :: r) : ∃ hk : k < s.size, s[k] = x ∧ s.data.toList.drop (k + 1) = r := by
  have hk : k < s.size := by
    rcases Nat.lt_or_ge k s.size with h' | h'
    · exact h'
    · rw [List.drop_eq_nil_of_le (by simpa using h')] at h; cases h
  rw [bytes_drop s k hk] at h
  exact ⟨hk, (List.cons.inj h).1, (List.cons.inj h).2⟩
theorem hexB_wrap (a b : UInt8) (ha : 0 ≤ hexV a) (hb : 0 ≤ hexV b) :
    IntKind.i64.wrap (16 * hexV a) = 16 * hexV a ∧ IntKind.i64.wrap (16 * hexV a + hexV b) = 16 * hexV a + hexV b ∧ IntKind.u8.wrap (16 * hexV a + hexV b) = ((hexB a b).toNat : Int) := by
  have h1 := hexV_lt a
  have h2 := hexV_lt b
  rw [hexB_toNat a b ha hb, IntKind.wrap_u8, IntKind.wrap_i64, IntKind.wrap_i64]
  omega

set_option maxRecDepth 100000 in
set_option maxHeartbeats 4000000 in
theorem runquote_no (s : ByteArray) (w : World) (hs : s.size ≤ 40000) (h : ∀ t, s.data.toList ≠ quoteL t) :
    Calls Tryz.prog 120 #[.string s] w fun e w' => e = .returned (.tuple #[.string ⟨#[]⟩, .int .i64 3]) ∧ Below w.heap.size w w' := by
  have HQ := Lib.hid h
  clear h
  go_enter Tryz.func120, Tryz.ntmps120
  go_wp2
  have hb0 : Buf 5 w.heap.size w w (.slice none 0 0) [] := Buf.nil (Below.refl _ _) (Nat.le_refl _)
  go_loopw [4, 5] (fun v i wr => ∃ (k : Nat) (l : List UInt8), 1 ≤ k ∧ i = .int .i64 k ∧ Buf 5 w.heap.size w wr v l ∧ l.length ≤ k ∧ (k ≤ s.size ∨ k = 1)) (fun _ i _ => s.size + 1 - (intOf i).toNat)
  case atStart => exact ⟨1, [], Nat.le_refl _, rfl, hb0, by simp, .inr rfl⟩
  case round =>
    obtain ⟨k, l, hk1, rfl, hB, hl, hk⟩ := hrel
    by_cases hlt : (k : Int) < (s.size : Int) - 1
    · have hk0 : k < s.size := by omega
      have hk2 : k + 1 < s.size := by omega
      have hl3 : l.length ≤ 40000 := by omega
      by_cases hc : s[k].toNat = 92
      · have c1 : ((s[k].toNat : Int) != 92) = false := by simp; omega
        by_cases hx : s[k + 1].toNat = 120
        · have c2 : ((s[k + 1].toNat : Int) != 120) = false := by simp; omega
          by_cases h3 : k + 3 < s.size
          · have h3' : (k : Int) + 1 + 2 < (s.size : Int) := by omega
            have hk3 : k + 1 + 1 < s.size := by omega
            have hk4 : k + 1 + 2 < s.size := by omega
            by_cases ha : hexV s[k + 1 + 1] < 0
            · clear hc hx
              go_wp2_with (go_at_call 172; refine (hex_any _ _).mono ?_; rintro e w' ⟨rfl, rfl⟩)
              go_ret2
              exact ⟨rfl, hB.bel⟩
            · by_cases hb : hexV s[k + 1 + 2] < 0
              · clear hc hx
                go_wp2_with (go_at_call 172; refine (hex_any _ _).mono ?_; rintro e w' ⟨rfl, rfl⟩)
                go_ret2
                exact ⟨rfl, hB.bel⟩
              · obtain ⟨e1, e2, e3⟩ := hexB_wrap s[k + 1 + 1] s[k + 1 + 2] (by omega) (by omega)
                have i2 : (k : Int) + 1 + 1 < (s.size : Int) := by omega
                have i3 : (k : Int) + 1 + 2 < (s.size : Int) := by omega
                clear hc hx
                go_wp2_with (go_at_call 172; refine (hex_any _ _).mono ?_; rintro e w' ⟨rfl, rfl⟩)
                have w2 : IntKind.i64.wrap ((k : Int) + 1 + 1) = (k : Int) + 1 + 1 := IntWalk.i64_in _ (by omega)
                have w3 : IntKind.i64.wrap ((k : Int) + 1 + 2) = (k : Int) + 1 + 2 := IntWalk.i64_in _ (by omega)
                have z2 : (0 : Int) ≤ (k : Int) + 1 + 1 := by omega
                have z3 : (0 : Int) ≤ (k : Int) + 1 + 2 := by omega
                have n2 : ((k : Int) + 1 + 1).toNat = k + 1 + 1 := by omega
                have n3 : ((k : Int) + 1 + 2).toNat = k + 1 + 2 := by omega
                go_region_held3 (fun _ => True) (trivial) ((first | (go_at_call 172; refine (hex_any _ _).mono ?_; rintro e w' ⟨rfl, rfl⟩) | (refine step_app byteT rfl _ _ rfl _ l rfl ((hB.alloc _).drew) _ [hexB s[k + 1 + 1] s[k + 1 + 2]] 1 _ rfl rfl (by omega) rfl (heap_alloc_new _ _) (by omega) ?_; intro v' w1 hbuf')))
                all_goals go_wp2
                all_goals
                  go_roundw
                  case rel => exact ⟨k + 4, _, by omega, by go_num, hbuf', by simp; omega, .inl (by omega)⟩
                  case measure => simp [intOf]; omega
          · have h3' : ¬ (k : Int) + 1 + 2 < (s.size : Int) := by omega
            clear hc hx
            go_wp2
            go_ret2
            exact ⟨rfl, hB.bel⟩
        · have c2 : ((s[k + 1].toNat : Int) != 120) = true := by simp; omega
          clear hc hx
          go_wp2_with (at_builtin; refine wpList_app byteT rfl _ _ rfl _ l rfl (hB.alloc _) _ [s[k + 1]] 1 _ rfl rfl (by omega) rfl (heap_alloc_new _ _) (by omega) ?_; intro v' w1 hbuf')
          go_roundw
          case rel => exact ⟨k + 2, _, by omega, by go_num, hbuf', by simp; omega, .inl (by omega)⟩
          case measure => simp [intOf]; omega
      · have c1 : ((s[k].toNat : Int) != 92) = true := by simp; omega
        clear hc
        go_wp2_with (at_builtin; refine wpList_app byteT rfl _ _ rfl _ l rfl (hB.alloc _) _ [s[k]] 1 _ rfl rfl (by omega) rfl (heap_alloc_new _ _) (by omega) ?_; intro v' w1 hbuf')
        go_roundw
        case rel => exact ⟨k + 1, _, by omega, by go_num, hbuf', by simp; omega, .inl (by omega)⟩
        case measure => simp [intOf]; omega
    · have hl3 : l.length ≤ 40000 := by omega
      have hconv := hB.text byteT Tryz.underlying9
      have hsz : (⟨l.toArray⟩ : ByteArray).size ≤ 40000 := by simpa [ByteArray.size] using hl3
      have hne : (quoteL l == s.toList) = false := by
        rw [beq_eq_false_iff_ne, ByteArray.toList_eq]
        intro e
        exact HQ.out l e.symm
      go_wp2_with (go_at_call 111; refine (rquote_any _ _ hsz).mono ?_; rintro e w2 ⟨rfl, hb2⟩)
      go_ret2
      exact ⟨rfl, hB.bel.trans (hb2.mono hB.base)⟩

set_option maxRecDepth 100000 in
set_option maxHeartbeats 4000000 in
theorem runquote_yes (s : ByteArray) (t : List UInt8) (w : World) (hs : s.size ≤ 40000) (h : s.data.toList = quoteL t) :
    Calls Tryz.prog 120 #[.string s] w fun e w' => e = .returned (.tuple #[.string ⟨t.toArray⟩, .int .i64 0]) ∧ Below w.heap.size w w' := by
  have HQ := Lib.hid h
  have htl : t.length ≤ 40000 := by
    have h1 := congrArg List.length h
    have h2 := flatMap_qb_ge t
    simp only [quoteL, List.length_cons, List.length_append, List.length_nil, Array.length_toList, ByteArray.size_data] at h1
    omega
  have hd0 : Hid (s.data.toList.drop 1 = (t.drop 0).flatMap qb ++ [34]) := Lib.hid (by rw [h]; rfl)
  clear h
  go_enter Tryz.func120, Tryz.ntmps120
  go_wp2
  have hb0 : Buf 5 w.heap.size w w (.slice none 0 0) [] := Buf.nil (Below.refl _ _) (Nat.le_refl _)
  go_loopw [4, 5] (fun v i wr => ∃ (k j : Nat), i = .int .i64 k ∧ j ≤ t.length ∧ Buf 5 w.heap.size w wr v (t.take j) ∧ Hid (s.data.toList.drop k = (t.drop j).flatMap qb ++ [34])) (fun _ i _ => s.size + 1 - (intOf i).toNat)
  case atStart => exact ⟨1, 0, rfl, Nat.zero_le _, by simpa using hb0, hd0⟩
  case round =>
    obtain ⟨k, j, rfl, hj, hB, HD⟩ := hrel
    have hlk : s.size - k = ((t.drop j).flatMap qb).length + 1 := by
      have := congrArg List.length HD.out
      simp only [List.length_drop, List.length_append, List.length_cons, List.length_nil, Array.length_toList, ByteArray.size_data] at this
      omega
    have hl3 : (t.take j).length ≤ 40000 := by simp; omega
    by_cases hjl : j < t.length
    · have hdj : t.drop j = t[j] :: t.drop (j + 1) := List.drop_eq_getElem_cons hjl
      have htj : t.take (j + 1) = t.take j ++ [t[j]] := List.take_succ_eq_append_getElem hjl
      have hd := HD.out
      rw [hdj, List.flatMap_cons] at hlk hd
      rw [List.append_assoc] at hd
      rw [List.length_append] at hlk
      have HTJ := Lib.hid htj
      generalize t[j] = c at hlk hd HTJ
      clear hdj htj HD
      have hqp := qb_pos c
      cases hx : hxB c
      · cases hb : bsB c
        · have hq : qb c = [c] := by rw [qb, hx, hb]; rfl
          rw [hq] at hd hlk
          obtain ⟨hk0, e0, hd1⟩ := drop_head hd
          have hk1 : (k : Int) < (s.size : Int) - 1 := by simp only [List.length_cons, List.length_nil, List.length_append] at hlk; omega
          have h92 := bsB_92 c hb
          have c1 : ((s[k].toNat : Int) != 92) = true := by rw [e0]; simp; omega
          have HE0 := Lib.hid e0
          have HD1 := Lib.hid hd1
          clear e0 hd hd1 hq hlk hqp h92
          go_wp2_with (at_builtin; refine wpList_app byteT rfl _ _ rfl _ (t.take j) rfl (hB.alloc _) _ [s[k]] 1 _ rfl rfl (by omega) rfl (heap_alloc_new _ _) (by omega) ?_; intro v' w1 hbuf')
          go_roundw
          case rel => exact ⟨k + 1, j + 1, by go_num, by omega, by rw [HTJ.out, ← HE0.out]; exact hbuf', HD1⟩
          case measure => simp [intOf]; omega
        · have hq : qb c = [92, c] := by rw [qb, hx, hb]; rfl
          rw [hq] at hd hlk
          obtain ⟨hk0, e0, hd1⟩ := drop_head hd
          obtain ⟨hk1, e1, hd2⟩ := drop_head hd1
          have hk2 : (k : Int) < (s.size : Int) - 1 := by simp only [List.length_cons, List.length_nil, List.length_append] at hlk; omega
          have c1 : ((s[k].toNat : Int) != 92) = false := by rw [e0]; rfl
          have c2 : ((s[k + 1].toNat : Int) != 120) = true := by rw [e1]; simp [bsB] at hb; simp; omega
          have HE1 := Lib.hid e1
          have HD2 := Lib.hid hd2
          clear e0 e1 hd hd1 hd2 hq hlk hqp
          go_wp2_with (at_builtin; refine wpList_app byteT rfl _ _ rfl _ (t.take j) rfl (hB.alloc _) _ [s[k + 1]] 1 _ rfl rfl (by omega) rfl (heap_alloc_new _ _) (by omega) ?_; intro v' w1 hbuf')
          go_roundw
          case rel => exact ⟨k + 2, j + 1, by go_num, by omega, by rw [HTJ.out, ← HE1.out]; exact hbuf', HD2⟩
          case measure => simp [intOf]; omega
      · have hq : qb c = [92, 120, hexd (c.toNat / 16), hexd (c.toNat % 16)] := by rw [qb, hx]; rfl
        rw [hq] at hd hlk
        obtain ⟨hk0, e0, hd1⟩ := drop_head hd
        obtain ⟨hk1, e1, hd2⟩ := drop_head hd1
        obtain ⟨hk2, e2, hd3⟩ := drop_head hd2
        obtain ⟨hk3, e3, hd4⟩ := drop_head hd3
        have e2' : s[k + 1 + 1] = hexd (c.toNat / 16) := e2
        have hk3' : k + 1 + 2 < s.size := by omega
        have e3' : s[k + 1 + 2] = hexd (c.toNat % 16) := e3
        have hkk : (k : Int) < (s.size : Int) - 1 := by simp only [List.length_cons, List.length_nil, List.length_append] at hlk; omega
        have h3' : (k : Int) + 1 + 2 < (s.size : Int) := by omega
        have c1 : ((s[k].toNat : Int) != 92) = false := by rw [e0]; rfl
        have c2 : ((s[k + 1].toNat : Int) != 120) = false := by rw [e1]; rfl
        have hv1 := hexV_hexd ⟨c.toNat / 16, by have := c.toNat_lt; omega⟩
        have hv2 := hexV_hexd ⟨c.toNat % 16, by omega⟩
        simp only at hv1 hv2
        have ha : ¬ hexV s[k + 1 + 1] < 0 := by rw [e2', hv1]; omega
        have hb : ¬ hexV s[k + 1 + 2] < 0 := by rw [e3', hv2]; omega
        have HBB : Hid (hexB s[k + 1 + 1] s[k + 1 + 2] = c) := Lib.hid (by rw [e2', e3']; exact hexB_hexd c)
        obtain ⟨x1, x2, x3⟩ := hexB_wrap s[k + 1 + 1] s[k + 1 + 2] (by omega) (by omega)
        have i2 : (k : Int) + 1 + 1 < (s.size : Int) := by omega
        have HD4 := Lib.hid hd4
        clear e0 e1 e2 e3 e2' e3' hd hd1 hd2 hd3 hd4 hq hlk hqp hv1 hv2
        go_wp2_with (go_at_call 172; refine (hex_any _ _).mono ?_; rintro e w' ⟨rfl, rfl⟩)
        have w2 : IntKind.i64.wrap ((k : Int) + 1 + 1) = (k : Int) + 1 + 1 := IntWalk.i64_in _ (by omega)
        have w3 : IntKind.i64.wrap ((k : Int) + 1 + 2) = (k : Int) + 1 + 2 := IntWalk.i64_in _ (by omega)
        have z2 : (0 : Int) ≤ (k : Int) + 1 + 1 := by omega
        have z3 : (0 : Int) ≤ (k : Int) + 1 + 2 := by omega
        have n2 : ((k : Int) + 1 + 1).toNat = k + 1 + 1 := by omega
        have n3 : ((k : Int) + 1 + 2).toNat = k + 1 + 2 := by omega
        go_region_held3 (fun _ => True) (trivial) ((first | (go_at_call 172; refine (hex_any _ _).mono ?_; rintro e w' ⟨rfl, rfl⟩) | (refine step_app byteT rfl _ _ rfl _ (t.take j) rfl ((hB.alloc _).drew) _ [hexB s[k + 1 + 1] s[k + 1 + 2]] 1 _ rfl rfl (by omega) rfl (heap_alloc_new _ _) (by omega) ?_; intro v' w1 hbuf')))
        all_goals go_wp2
        all_goals
          go_roundw
          case rel => exact ⟨k + 4, j + 1, by go_num, by omega, by rw [HTJ.out, ← HBB.out]; exact hbuf', HD4⟩
          case measure => simp [intOf]; omega
    · have hjt : t.drop j = [] := List.drop_eq_nil_of_le (by omega)
      have htt : t.take j = t := List.take_of_length_le (by omega)
      rw [hjt] at hlk
      rw [htt] at hB hl3
      have hkk : ¬ (k : Int) < (s.size : Int) - 1 := by simp only [List.flatMap_nil, List.length_nil] at hlk; omega
      clear hjt htt hlk HD
      have hconv := hB.text byteT Tryz.underlying9
      have hsz : (⟨t.toArray⟩ : ByteArray).size ≤ 40000 := by simpa [ByteArray.size] using hl3
      have hne : (quoteL t == s.toList) = true := by
        rw [beq_iff_eq, ByteArray.toList_eq]
        exact HQ.out.symm
      go_wp2_with (go_at_call 111; refine (rquote_any _ _ hsz).mono ?_; rintro e w2 ⟨rfl, hb2⟩; have hconv2 := (hB.more hb2).text byteT Tryz.underlying9)
      go_ret2
      exact ⟨rfl, hB.bel.trans (hb2.mono hB.base)⟩

/-! ### the reference's plain -/
set_option maxRecDepth 100000 in
set_option maxHeartbeats 1000000 in
theorem rplain_any (s : ByteArray) (w : World) (hs : s.size ≤ 40000) :
    Calls Tryz.prog 110 #[.string s] w fun e w' => e = .returned (.bool (plainL s.data.toList)) ∧ w = w' := by
  have HP : Hid (plainL s.data.toList = (!s.data.toList.isEmpty && allFrom okB s 0)) := Lib.hid rfl
  go_enter Tryz.func110, Tryz.ntmps110
  go_wp2
  go_loop [3] (fun i => ∃ k : Nat, k ≤ s.size ∧ i = .int .i64 k ∧ allFrom okB s 0 = allFrom okB s k) (fun i => s.size - (intOf i).toNat)
  case atStart => exact ⟨0, Nat.zero_le _, rfl, rfl⟩
  case round =>
    obtain ⟨k, hk, rfl, he⟩ := hrel
    have He := Lib.hid he
    clear he
    by_cases hlt : k < s.size
    · have Hc := Lib.hid (allFrom_step okB s k hlt)
      by_cases h1 : (s[k].toNat : Int) < 33
      · have HO : Hid (okB s[k] = false) := Lib.hid (by simp [okB]; omega)
        go_wp2
        go_ret
        exact ⟨ret_bool (by rw [HP.out, He.out, Hc.out, HO.out]; simp), rfl⟩
      · by_cases h2 : 126 < (s[k].toNat : Int)
        · have HO : Hid (okB s[k] = false) := Lib.hid (by simp [okB]; omega)
          go_wp2
          go_ret
          exact ⟨ret_bool (by rw [HP.out, He.out, Hc.out, HO.out]; simp), rfl⟩
        · by_cases h3 : s[k].toNat = 34
          · have h3' : ((s[k].toNat : Int) == 34) = true := by simp; omega
            have HO : Hid (okB s[k] = false) := Lib.hid (by simp [okB, h3])
            clear h3
            go_wp2
            go_ret
            exact ⟨ret_bool (by rw [HP.out, He.out, Hc.out, HO.out]; simp), rfl⟩
          · have h3' : ((s[k].toNat : Int) == 34) = false := by simp; omega
            have HO : Hid (okB s[k] = true) := Lib.hid (by simp [okB]; omega)
            clear h3
            go_wp2
            go_round
            case rel => exact ⟨k + 1, by omega, by go_num, by rw [He.out, Hc.out, HO.out]; rfl⟩
            case measure => simp [intOf]; omega
    · have Hc := Lib.hid (allFrom_end okB s k (by omega))
      by_cases h0 : 0 < s.size
      · have t1 := isEmpty_no s h0
        have HE : Hid (s.data.toList.isEmpty = false) := Lib.hid (by rw [← ByteArray.toList_eq]; exact t1)
        go_wp2
        go_ret
        exact ⟨ret_bool (by rw [HP.out, HE.out, He.out, Hc.out]; rfl), rfl⟩
      · have t1 := isEmpty_yes s (by omega)
        have HE : Hid (s.data.toList.isEmpty = true) := Lib.hid (by rw [← ByteArray.toList_eq]; exact t1)
        go_wp2
        go_ret
        exact ⟨ret_bool (by rw [HP.out, HE.out]; rfl), rfl⟩
end Go.Proofs.YtmmpalnalogfnaaGreatDoor

/- Walks of the reference's Join, Same, Long. -/
namespace Go.Proofs.YtmmpalnalogfnaaGreatDoor.Txt
open Go.RowKit
set_option linter.unusedSimpArgs false
set_option linter.unusedVariables false

set_option maxRecDepth 100000 in
set_option maxHeartbeats 4000000 in
theorem rjoin_any (v : Value) (ss : List ByteArray) (w : World) (hv : StrL w v ss) (hn : ss.length ≤ 2000) (hsum : ((bytesOf ss).map List.length).sum ≤ 2000) :
    Calls Tryz.prog 44 #[v] w fun e w' => e = .returned (.string ⟨(joinL (bytesOf ss)).toArray⟩) ∧ Below w.heap.size w w' := by
  obtain ⟨A, c, rfl, hcell⟩ := hv
  go_enter Tryz.func44, Tryz.ntmps44
  go_wp2
  have hb0 : Buf 5 w.heap.size w w (.slice none 0 0) [] := Buf.nil (Below.refl _ _) (Nat.le_refl _)
  go_loopw [3, 4] (fun v i wr => ∃ k : Nat, k ≤ ss.length ∧ i = .int .i64 k ∧ Buf 5 w.heap.size w wr v (joinL ((bytesOf ss).take k))) (fun _ i _ => ss.length - (intOf i).toNat)
  case atStart => exact ⟨0, Nat.zero_le _, rfl, by simpa [joinL] using hb0⟩
  case round =>
    obtain ⟨k, hk, rfl, hB⟩ := hrel
    have hlen : (joinL ((bytesOf ss).take k)).length ≤ 20000 := by
      have h1 := joinL_le ((bytesOf ss).take k)
      have h2 := sum_take_le (bytesOf ss) k
      have h3 : ((bytesOf ss).take k).length ≤ 2000 := by simp [bytesOf]; omega
      omega
    by_cases hlt : k < ss.length
    · obtain ⟨b, o, rfl, hb, hc⟩ : ∃ b o, A = some ⟨b, o, none⟩ ∧ b < w.heap.size ∧ ∀ i (h : i < ss.length), w.cell? ⟨b, o + i, none⟩ = some (.string ss[i]) := by
        rcases hcell with h | h
        · rw [h] at hlt; simp at hlt
        · exact h
      have HC := Lib.hid (hc k hlt)
      have hck : wr.cell? ⟨b, o + k, none⟩ = some (.string ss[k]) := (hB.bel.cell (p := ⟨b, o + k, none⟩) hb).trans HC.out
      clear hc
      have hsk : (ss[k]).data.toList.length ≤ 2000 := Nat.le_trans (len_le_sum (bytesOf ss) _ (by simp [bytesOf]; exact ⟨ss[k], List.getElem_mem hlt, rfl⟩)) hsum
      have hsk2 : (ss[k]).size ≤ 2000 := by have : (ss[k]).data.toList.length = (ss[k]).size := by simp
                                            omega
      have hsq : (ss[k]).size ≤ 40000 := by omega
      have htk : (bytesOf ss).take (k + 1) = (bytesOf ss).take k ++ [(ss[k]).data.toList] := by
        rw [List.take_succ_eq_append_getElem (by simpa [bytesOf] using hlt)]; simp [bytesOf]
      clear hsk hcell hsum
      have hq1 : (joinL ((bytesOf ss).take k)).length + 1 + (⟨(quoteL (ss[k]).data.toList).toArray⟩ : ByteArray).size ≤ 140737488355328 := by
        have h1 := flatMap_qb_le (ss[k]).data.toList
        have h2 : (⟨(quoteL (ss[k]).data.toList).toArray⟩ : ByteArray).size = (quoteL (ss[k]).data.toList).length := by simp [ByteArray.size]
        rw [h2]
        simp only [quoteL, List.length_cons, List.length_append, List.length_nil]
        have h3 : (ss[k]).data.toList.length = (ss[k]).size := by simp
        omega
      by_cases hk0 : k = 0
      · have h0 : ¬ 0 < (k : Int) := by omega
        have HT := Lib.hid htk
        have HN : Hid ((bytesOf ss).take k = []) := Lib.hid (by rw [hk0]; rfl)
        have hq2 : (joinL ((bytesOf ss).take k)).length + (⟨(quoteL (ss[k]).data.toList).toArray⟩ : ByteArray).size ≤ 140737488355328 := by omega
        clear htk hk0
        cases hp : plainL (ss[k]).data.toList
        · have HP := Lib.hid hp
          clear hp
          have HJ : Hid (joinL ((bytesOf ss).take (k + 1)) = joinL ((bytesOf ss).take k) ++ quoteL (ss[k]).data.toList) := Lib.hid (by rw [HT.out, HN.out]; simp [joinL, encW_quote _ HP.out])
          clear HT HN
          go_wp2_with (first
            | (go_at_call 110; refine (rplain_any _ _ hsq).mono ?_; rw [HP.out]; rintro e w' ⟨rfl, rfl⟩)
            | (go_at_call 111; refine (rquote_any _ _ hsq).mono ?_; rintro e w3 ⟨rfl, hb3⟩; have hB3 := hB.more hb3)
            | (at_builtin; refine wpList_appstr byteT Tryz.underlying9 rfl (.tmp 26) _ rfl _ _ rfl hB3 ⟨(quoteL (ss[k]).data.toList).toArray⟩ rfl hq2 ?_; intro v2 w2 hB2))
          go_roundw
          case rel => exact ⟨k + 1, by omega, by go_num, by rw [HJ.out]; simpa using hB2⟩
          case measure => simp [intOf]; omega
        · have HP := Lib.hid hp
          clear hp
          have HJ : Hid (joinL ((bytesOf ss).take (k + 1)) = joinL ((bytesOf ss).take k) ++ (ss[k]).data.toList) := Lib.hid (by rw [HT.out, HN.out]; simp [joinL, encW_plain _ HP.out])
          clear HT HN
          go_wp2_with (first
            | (go_at_call 110; refine (rplain_any _ _ hsq).mono ?_; rw [HP.out]; rintro e w' ⟨rfl, rfl⟩)
            | (at_builtin; refine wpList_appstr byteT Tryz.underlying9 rfl (.tmp 26) _ rfl _ _ rfl hB ss[k] rfl (by omega) ?_; intro v2 w2 hB2))
          go_roundw
          case rel => exact ⟨k + 1, by omega, by go_num, by rw [HJ.out]; simpa using hB2⟩
          case measure => simp [intOf]; omega
      · have h0 : 0 < (k : Int) := by omega
        have HT := Lib.hid htk
        have HN : Hid ((bytesOf ss).take k ≠ []) := Lib.hid (by intro e; have h1 : ((bytesOf ss).take k).length = k := (by simp [bytesOf]; omega); rw [e] at h1; exact hk0 h1.symm)
        have hq2 : (joinL ((bytesOf ss).take k) ++ [32]).length + (⟨(quoteL (ss[k]).data.toList).toArray⟩ : ByteArray).size ≤ 140737488355328 := by simp only [List.length_append, List.length_cons, List.length_nil]; omega
        clear htk hk0
        cases hp : plainL (ss[k]).data.toList
        · have HP := Lib.hid hp
          clear hp
          have HJ : Hid (joinL ((bytesOf ss).take (k + 1)) = joinL ((bytesOf ss).take k) ++ [32] ++ quoteL (ss[k]).data.toList) := Lib.hid (by rw [HT.out, joinL_snoc _ _ HN.out, encW_quote _ HP.out]; simp)
          clear HT HN
          go_wp2_with (first
            | (at_builtin; refine wpList_app byteT rfl (.tmp 14) _ rfl _ (joinL ((bytesOf ss).take k)) rfl (hB.alloc _) _ [32] 1 _ rfl rfl (by omega) rfl (heap_alloc_new _ _) (by omega) ?_; intro v1 w1 hB1; have hc1 : w1.cell? ⟨b, o + k, none⟩ = some (.string ss[k]) := (hB1.bel.cell (p := ⟨b, o + k, none⟩) hb).trans HC.out)
            | (go_at_call 110; refine (rplain_any _ _ hsq).mono ?_; rw [HP.out]; rintro e w' ⟨rfl, rfl⟩)
            | (go_at_call 111; refine (rquote_any _ _ hsq).mono ?_; rintro e w3 ⟨rfl, hb3⟩; have hB3 := hB1.more hb3)
            | (at_builtin; refine wpList_appstr byteT Tryz.underlying9 rfl (.tmp 26) _ rfl _ _ rfl hB3 ⟨(quoteL (ss[k]).data.toList).toArray⟩ rfl hq2 ?_; intro v2 w2 hB2))
          go_roundw
          case rel => exact ⟨k + 1, by omega, by go_num, by rw [HJ.out]; simpa using hB2⟩
          case measure => simp [intOf]; omega
        · have HP := Lib.hid hp
          clear hp
          have HJ : Hid (joinL ((bytesOf ss).take (k + 1)) = joinL ((bytesOf ss).take k) ++ [32] ++ (ss[k]).data.toList) := Lib.hid (by rw [HT.out, joinL_snoc _ _ HN.out, encW_plain _ HP.out]; simp)
          clear HT HN
          go_wp2_with (first
            | (at_builtin; refine wpList_app byteT rfl (.tmp 14) _ rfl _ (joinL ((bytesOf ss).take k)) rfl (hB.alloc _) _ [32] 1 _ rfl rfl (by omega) rfl (heap_alloc_new _ _) (by omega) ?_; intro v1 w1 hB1; have hc1 : w1.cell? ⟨b, o + k, none⟩ = some (.string ss[k]) := (hB1.bel.cell (p := ⟨b, o + k, none⟩) hb).trans HC.out)
            | (go_at_call 110; refine (rplain_any _ _ hsq).mono ?_; rw [HP.out]; rintro e w' ⟨rfl, rfl⟩)
            | (at_builtin; refine wpList_appstr byteT Tryz.underlying9 rfl (.tmp 26) _ rfl _ _ rfl hB1 ss[k] rfl (by simp only [List.length_append, List.length_cons, List.length_nil]; omega) ?_; intro v2 w2 hB2))
          go_roundw
          case rel => exact ⟨k + 1, by omega, by go_num, by rw [HJ.out]; simpa using hB2⟩
          case measure => simp [intOf]; omega
    · have HK : Hid ((bytesOf ss).take k = bytesOf ss) := Lib.hid (List.take_of_length_le (by simp [bytesOf]; omega))
      have hconv := hB.text byteT Tryz.underlying9
      go_wp2
      go_ret
      exact ⟨by rw [HK.out]; rfl, hB.bel⟩

def sameB (a b : List ByteArray) : Bool := decide (bytesOf a = bytesOf b)
theorem bytesOf_len (ss : List ByteArray) : (bytesOf ss).length = ss.length := by simp [bytesOf]
def sumL (ss : List ByteArray) : Nat := ((bytesOf ss).map List.length).sum
end Go.Proofs.YtmmpalnalogfnaaGreatDoor.Txt

/- Walks of the reference's Decimal of a weekday, and of its Print. -/
namespace Go.Proofs.YtmmpalnalogfnaaGreatDoor.Per
open Go.RowKit
set_option linter.unusedSimpArgs false
set_option linter.unusedVariables false

theorem wkdigit_any (k : Nat) (w : World) (hk : k < 7) : Calls Tryz.prog 39 #[.int .i64 ((k : Int) + 1)] w fun e w' => e = .returned (.string ⟨#[UInt8.ofNat (49 + k)]⟩) ∧ w = w' := by
  have h : k = 0 ∨ k = 1 ∨ k = 2 ∨ k = 3 ∨ k = 4 ∨ k = 5 ∨ k = 6 := by omega
  have HD : ∀ (n : Nat) (W : World), n < 10 → Calls Tryz.prog 105 #[.int .u64 (n : Int)] W fun e w' => e = .returned (.string ⟨#[UInt8.ofNat (48 + n)]⟩) ∧ W = w' := by
    intro n W hn
    have h : n = 0 ∨ n = 1 ∨ n = 2 ∨ n = 3 ∨ n = 4 ∨ n = 5 ∨ n = 6 ∨ n = 7 ∨ n = 8 ∨ n = 9 := by omega
    rcases h with rfl | rfl | rfl | rfl | rfl | rfl | rfl | rfl | rfl | rfl <;>
    · go_enter Tryz.func105, Tryz.ntmps105
      go_wp2
      go_ret
      exact ⟨rfl, rfl⟩
  have H1 := Lib.hid (fun W => HD 1 W (by omega))
  have H2 := Lib.hid (fun W => HD 2 W (by omega))
  have H3 := Lib.hid (fun W => HD 3 W (by omega))
  have H4 := Lib.hid (fun W => HD 4 W (by omega))
  have H5 := Lib.hid (fun W => HD 5 W (by omega))
  have H6 := Lib.hid (fun W => HD 6 W (by omega))
  have H7 := Lib.hid (fun W => HD 7 W (by omega))
  clear HD
  rcases h with rfl | rfl | rfl | rfl | rfl | rfl | rfl
  · go_enter Tryz.func39, Tryz.ntmps39
    go_wp2_with (go_at_call 105; refine (H1.out _).mono ?_; rintro e w' ⟨rfl, rfl⟩)
    go_ret
    exact ⟨rfl, rfl⟩
  · go_enter Tryz.func39, Tryz.ntmps39
    go_wp2_with (go_at_call 105; refine (H2.out _).mono ?_; rintro e w' ⟨rfl, rfl⟩)
    go_ret
    exact ⟨rfl, rfl⟩
  · go_enter Tryz.func39, Tryz.ntmps39
    go_wp2_with (go_at_call 105; refine (H3.out _).mono ?_; rintro e w' ⟨rfl, rfl⟩)
    go_ret
    exact ⟨rfl, rfl⟩
  · go_enter Tryz.func39, Tryz.ntmps39
    go_wp2_with (go_at_call 105; refine (H4.out _).mono ?_; rintro e w' ⟨rfl, rfl⟩)
    go_ret
    exact ⟨rfl, rfl⟩
  · go_enter Tryz.func39, Tryz.ntmps39
    go_wp2_with (go_at_call 105; refine (H5.out _).mono ?_; rintro e w' ⟨rfl, rfl⟩)
    go_ret
    exact ⟨rfl, rfl⟩
  · go_enter Tryz.func39, Tryz.ntmps39
    go_wp2_with (go_at_call 105; refine (H6.out _).mono ?_; rintro e w' ⟨rfl, rfl⟩)
    go_ret
    exact ⟨rfl, rfl⟩
  · go_enter Tryz.func39, Tryz.ntmps39
    go_wp2_with (go_at_call 105; refine (H7.out _).mono ?_; rintro e w' ⟨rfl, rfl⟩)
    go_ret
    exact ⟨rfl, rfl⟩

theorem half_pow (d : Int) (k : Nat) : d / ((2 ^ k : Nat) : Int) / 2 = d / ((2 ^ (k + 1) : Nat) : Int) := by
  rw [Nat.pow_succ, Int.natCast_mul, Int.ediv_ediv_of_nonneg (Int.natCast_nonneg _)]
  rfl
set_option maxRecDepth 100000 in
set_option maxHeartbeats 2000000 in
theorem rpprint_any (f t d : Int) (w : World) : Calls Tryz.prog 40 #[encQ (f, t, d)] w fun e w' => e = .returned (.string ⟨(perL (f, t, d)).toArray⟩) ∧ Below w.heap.size w w' := by
  have hb := bel_alloc w (.cells #[.int .i64 f, .int .i64 t, .int .i64 d] 23)
  have CV := Lib.hid (fun W => rcheck_any f t d W)
  cases h : okQ (f, t, d)
  · have HR : Hid (perL (f, t, d) = []) := Lib.hid (by simp [perL, h])
    have e1 : (errQ (f, t, d) != 0) = true := by rw [bne, errQ_two h]; rfl
    clear h
    go_enter Tryz.func40, Tryz.ntmps40
    go_wp2_with (go_at_call 104; refine (CV.out _).mono ?_; rintro e w1 ⟨rfl, hb1⟩)
    go_ret
    exact ⟨by rw [HR.out]; rfl, hb.trans (hb1.mono hb.size)⟩
  · have hq := okQ_yes h
    have HR : Hid (perL (f, t, d) = printL f ++ [47] ++ printL t ++ [47] ++ digL d) := Lib.hid (by rw [perL, if_pos h])
    have e1 : (errQ (f, t, d) != 0) = false := by rw [errQ_ok h]; rfl
    have d0 : 0 ≤ d := by have := hq.2.2.2.2.1; simp at this; omega
    have d1 : d ≤ 127 := hq.2.2.2.2.2
    have hB0 : Box3 w w.heap.size (f, t, d) (w.alloc (.cells #[.int .i64 f, .int .i64 t, .int .i64 d] 23)) := Box3.new w (f, t, d) _
    have C1 := Lib.hid (Box3.call (w := w) (B := w.heap.size) (p := (f, t, d)) (fun W => rprint_any f W))
    have C2 := Lib.hid (Box3.call (w := w) (B := w.heap.size) (p := (f, t, d)) (fun W => rprint_any t W))
    have f0 : ∀ x : Wd (Box3 w w.heap.size (f, t, d)), x.w.cell? ⟨w.heap.size, 0, none⟩ = some (.int .i64 f) := fun x => x.ok.1
    have f1 : ∀ x : Wd (Box3 w w.heap.size (f, t, d)), x.w.cell? ⟨w.heap.size, 1, none⟩ = some (.int .i64 t) := fun x => x.ok.2.1
    have f2 : ∀ x : Wd (Box3 w w.heap.size (f, t, d)), x.w.cell? ⟨w.heap.size, 2, none⟩ = some (.int .i64 d) := fun x => x.ok.2.2.1
    clear h hq
    obtain ⟨s1, hs1⟩ : ∃ s : ByteArray, s = ⟨(printL f).toArray⟩ := ⟨_, rfl⟩
    obtain ⟨s2, hs2⟩ : ∃ s : ByteArray, s = ⟨(printL t).toArray⟩ := ⟨_, rfl⟩
    rw [← hs1] at C1
    rw [← hs2] at C2
    have HS : Hid (∀ D : List UInt8, (((s1 ++ ⟨#[47]⟩) ++ s2) ++ ⟨#[47]⟩) ++ (⟨D.toArray⟩ : ByteArray) = (⟨(printL f ++ [47] ++ printL t ++ [47] ++ D).toArray⟩ : ByteArray)) := Lib.hid (by
      intro D
      rw [hs1, hs2]; simp only [← mk_app])
    have z1 : s1.size ≤ 10 := by rw [hs1]; exact print_len10 f
    have z2 : s2.size ≤ 10 := by rw [hs2]; exact print_len10 t
    clear hs1 hs2
    have A1 := fun W => run_string_add_sum (P := Tryz.prog) (w := W) s1 (⟨#[47]⟩ : ByteArray) (by show s1.size + 1 ≤ _; omega)
    have A2 := fun W => run_string_add_sum (P := Tryz.prog) (w := W) (s1 ++ ⟨#[47]⟩) s2 (by rw [ByteArray.size_append]; show s1.size + 1 + s2.size ≤ _; omega)
    have A3 := fun W => run_string_add_sum (P := Tryz.prog) (w := W) ((s1 ++ ⟨#[47]⟩) ++ s2) (⟨#[47]⟩ : ByteArray) (by rw [ByteArray.size_append, ByteArray.size_append]; show s1.size + 1 + s2.size + 1 ≤ _; omega)
    go_enter Tryz.func40, Tryz.ntmps40
    go_wp2_with (go_at_call 104; refine (CV.out _).mono ?_; rintro e w1 ⟨rfl, hb1⟩)
    have hB1 := (hB0.more hb1).more (Below.refl _ _).drew
    have hNe : Nonempty (Wd (Box3 w w.heap.size (f, t, d))) := ⟨⟨_, hB1⟩⟩
    refine quietS (S := Box3 w w.heap.size (f, t, d)) (by kernel_rfl) (by kernel_rfl) (hB1) ?_
    repeat (first | go_big_quiet_skip | (go_big_quiet_want; go_big_quiet_op; first | go_big_quiet_on | go_big_quiet_call ((first | (go_at_call 106; first | (with_reducible exact quiet_S (C1.out _ (Wd.ok _))) | (with_reducible exact quiet_S (C2.out _ (Wd.ok _))))))))
    refine wpQuiet_nil ?_
    rintro W ⟨⟨_, hW⟩, rfl⟩
    have g2 := hW.2.2.1
    have z4 : ((((s1 ++ ⟨#[47]⟩) ++ s2) ++ ⟨#[47]⟩) : ByteArray).size ≤ 22 := by
      rw [ByteArray.size_append, ByteArray.size_append, ByteArray.size_append]; show s1.size + 1 + s2.size + 1 ≤ _; omega
    clear A1 A2 A3 f0 f1 f2 C1 C2 CV e1 z1 z2 hB0 hB1
    generalize (((s1 ++ ⟨#[47]⟩) ++ s2) ++ ⟨#[47]⟩ : ByteArray) = X at *
    have hb1W : Below w.heap.size w W := hW.2.2.2
    go_wp2
    go_loopw [3, 4, 5] (fun vs vn vi wr => ∃ k : Nat, k ≤ 7 ∧ vi = .int .i64 ((k : Int) + 1) ∧ (∃ y : Int, vn = .int .i64 y ∧ 0 ≤ y ∧ y ≤ 127 ∧ Hid (y = d / ((2 ^ k : Nat) : Int))) ∧ vs = .string (X ++ ⟨(digTo d.toNat k).toArray⟩) ∧ wr = W) (fun _ _ vi _ => 8 - (intOf vi).toNat)
    case atStart => exact ⟨0, by omega, rfl, ⟨d, rfl, d0, d1, Lib.hid (by simp)⟩, by rw [show (⟨(digTo d.toNat 0).toArray⟩ : ByteArray) = ByteArray.empty from rfl, ByteArray.append_empty], rfl⟩
    case round =>
      obtain ⟨k, hk, rfl, ⟨y, rfl, y0, y1, HY⟩, rfl, rfl⟩ := hrel
      by_cases hlt : k < 7
      · have i1 : (k : Int) + 1 ≤ 7 := by omega
        have hl := digTo_len d.toNat k
        have HB : Hid ((y % 2 == 1) = d.toNat.testBit k) := Lib.hid (by rw [← tmod_pos _ _ y0, HY.out]; exact quo_bit d k d0)
        have HY2 : Hid (y / 2 = d / ((2 ^ (k + 1) : Nat) : Int)) := Lib.hid (by rw [HY.out]; exact half_pow d k)
        have q1 : y.tdiv 2 = y / 2 := Int.tdiv_eq_ediv_of_nonneg y0
        cases hw : d.toNat.testBit k
        · have t1 : (y % 2 == 1) = false := by rw [HB.out, hw]
          have HN := Lib.hid (digTo_miss d.toNat k hw)
          clear hw HB HY
          go_wp2
          go_roundw
          case rel => exact ⟨k + 1, by omega, by go_num, ⟨y / 2, by go_num, by omega, by omega, HY2⟩, by rw [HN.out], by first | rfl | trivial⟩
          case measure => simp [intOf]; omega
        · have t1 : (y % 2 == 1) = true := by rw [HB.out, hw]
          have HN : Hid ((X ++ ⟨(digTo d.toNat k).toArray⟩ : ByteArray) ++ (⟨#[UInt8.ofNat (49 + k)]⟩ : ByteArray) = X ++ ⟨(digTo d.toNat (k + 1)).toArray⟩) := Lib.hid (by rw [digTo_hit d.toNat k hw, ByteArray.append_assoc, ← mk_app])
          have CD := Lib.hid (fun W => wkdigit_any k W hlt)
          have zz : (X ++ ⟨(digTo d.toNat k).toArray⟩ : ByteArray).size ≤ 100 := by
            rw [ByteArray.size_append]; show X.size + (digTo d.toNat k).length ≤ _; omega
          clear hw HB HY
          obtain ⟨D, hD⟩ : ∃ D : ByteArray, D = ⟨#[UInt8.ofNat (49 + k)]⟩ := ⟨_, rfl⟩
          rw [← hD] at HN CD
          have zD : D.size = 1 := by rw [hD]; rfl
          clear hD
          generalize (X ++ ⟨(digTo d.toNat k).toArray⟩ : ByteArray) = Z at *
          have A1 := fun W => run_string_add_sum (P := Tryz.prog) (w := W) Z D (by omega)
          go_wp2_with (go_at_call 39; refine (CD.out _).mono ?_; rintro e w' ⟨rfl, rfl⟩)
          go_roundw
          case rel => exact ⟨k + 1, by omega, by go_num, ⟨y / 2, by go_num, by omega, by omega, HY2⟩, by rw [HN.out], by first | rfl | trivial⟩
          case measure => simp [intOf]; omega
      · have e : k = 7 := by omega
        subst e
        go_wp2
        go_ret
        exact ⟨by rw [HR.out, ← HS.out]; rfl, hb1W⟩

end Go.Proofs.YtmmpalnalogfnaaGreatDoor.Per
