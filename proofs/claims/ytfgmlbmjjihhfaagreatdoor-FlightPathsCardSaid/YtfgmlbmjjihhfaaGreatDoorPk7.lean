/- Words and walks that the laws below ask: FliL, FliK. -/
import Derived.Test.YtfgmlbmjjihhfaaGreatDoorPk3
import Derived.Test.YtfgmlbmjjihhfaaGreatDoorPk4
import Derived.Test.YtfgmlbmjjihhfaaGreatDoorPk6
/- Walk of flight.Check. -/
namespace Go.Proofs.YtfgmlbmjjihhfaaGreatDoor
open Go.RowKit Go.Shelf
set_option linter.unusedSimpArgs false
set_option linter.unusedVariables false

theorem LegL.take {w : World} {A : Option Addr} {n c : Nat} {l : List Lg} (h : LegL w (.slice A n c) l) (k : Nat) : LegL w (.slice A (l.take k).length c) (l.take k) := by
  obtain ⟨A', c', e, h⟩ := h
  cases e
  refine ⟨A, c, rfl, ?_⟩
  rcases h with h | ⟨b, o, h1, h2, h3⟩
  · exact .inl (by simp [h])
  · refine .inr ⟨b, o, h1, h2, fun i x j u hi hu => h3 i x j u ?_ hu⟩
    rw [List.getElem?_take] at hi
    split at hi
    · exact hi
    · cases hi
def carW : ByteArray := ⟨#[99, 97, 114, 114, 105, 101, 114]⟩
def numW : ByteArray := ⟨#[110, 117, 109, 98, 101, 114]⟩
def perW : ByteArray := ⟨#[112, 101, 114, 105, 111, 100]⟩
def lgsW : ByteArray := ⟨#[108, 101, 103, 115]⟩
def legW : ByteArray := ⟨#[108, 101, 103, 32]⟩
def hdF (f : FV) : List Flt := pick carW [if (!carB f.car) = true then 5 else 0] ++ (pick numW [if (!numB f.num) = true then 2 else 0] ++ pick perW [Per.errQ (f.pf, f.pt, f.pd)])
def lgEs (l : List Air) (before : List Lg) (x : Lg) : List Int :=
  [if (!codeB x.eq 3 3) = true then 5 else 0, if (!((findC l x.f).isSome && (findC l x.t).isSome)) = true then 14 else 0, if (!nextB before x) = true then 15 else 0, if (!(minB x.dep && minB x.arr)) = true then 2 else 0]
def lgsF (l : List Air) (lg : List Lg) (k : Nat) : List Flt := (List.range k).flatMap fun i => match lg[i]? with
  | some x => pick (legW ++ decA i) (lgEs l (lg.take i) x)
  | none => []
theorem lgsF_succ (l : List Air) (lg : List Lg) (k : Nat) (x : Lg) (h : lg[k]? = some x) : lgsF l lg (k + 1) = lgsF l lg k ++ pick (legW ++ decA k) (lgEs l (lg.take k) x) := by
  simp [lgsF, List.range_succ, h]
theorem lgsF_le (l : List Air) (lg : List Lg) : ∀ k, (lgsF l lg k).length ≤ 4 * k
  | 0 => by simp [lgsF]
  | k + 1 => by
    have ih := lgsF_le l lg k
    have e : lgsF l lg (k + 1) = lgsF l lg k ++ (match lg[k]? with | some x => pick (legW ++ decA k) (lgEs l (lg.take k) x) | none => []) := by simp [lgsF, List.range_succ]
    rw [e, List.length_append]
    cases lg[k]? with
    | none => simp; omega
    | some x =>
      have := pick_le (legW ++ decA k) (lgEs l (lg.take k) x)
      simp only [lgEs, List.length_cons, List.length_nil] at this ⊢
      omega
def wh (b : Bool) (e : Int) : Int := if b = true then e else 0
theorem fwh_any (b : Bool) (e : Int) (w : World) : Calls Tryz.prog 51 #[.bool b, .int .i64 e] w fun r w' => r = .returned (.int .i64 (wh b e)) ∧ w = w' := fwhen_any b e w
theorem hdF_le (f : FV) : (hdF f).length ≤ 3 := by
  unfold hdF
  have h1 := pick_le carW [if (!carB f.car) = true then 5 else 0]
  have h2 := pick_le numW [if (!numB f.num) = true then 2 else 0]
  have h3 := pick_le perW [Per.errQ (f.pf, f.pt, f.pd)]
  rw [List.length_append, List.length_append]
  simp only [List.length_cons, List.length_nil] at h1 h2 h3
  omega
def chF (l : List Air) (f : FV) : List Flt := if cntB f.lg.length = true then (if (hdF f ++ lgsF l f.lg f.lg.length).length = 0 then timF l f else hdF f ++ lgsF l f.lg f.lg.length) else hdF f ++ pick lgsW [4]

set_option maxRecDepth 100000 in
set_option maxHeartbeats 8000000 in
theorem fcheck_any (p : PV) (f : FV) (w : World) (hl : p.l.length ≤ 40) (hL : AirL w p.A p.l) (hs : ∀ a ∈ p.l, a.shs.length ≤ 300) (hz : ∀ a ∈ p.l, OkZ a.off a.shs) (hG : LegL w (.slice f.A f.lg.length f.c) f.lg) (hn : f.lg.length ≤ 100) (hcap : f.lg.length ≤ f.c)
    (hc0 : f.car.size ≤ maxLen) (ho : ∀ x ∈ f.lg, OkG x) (KT : cntB f.lg.length = true → (hdF f ++ lgsF p.l f.lg f.lg.length).length = 0 → ∀ W, Below w.heap.size w W → Calls Tryz.prog 61 #[encP p, encFl f] W fun e w' => ∃ v, e = .returned v ∧ FOwn W.heap.size w' v (timF p.l f) ∧ Below W.heap.size W w') :
    Calls Tryz.prog 17 #[encP p, encFl f] w fun e w' => ∃ v, e = .returned v ∧ FOwn w.heap.size w' v (chF p.l f) ∧ Below w.heap.size w w' := by
  obtain ⟨car, num, pf, pt, pd, A, c, lg⟩ := f
  dsimp only at *
  obtain ⟨HF, hHF⟩ : ∃ H, H = hdF ⟨car, num, pf, pt, pd, A, c, lg⟩ := ⟨_, rfl⟩
  obtain ⟨TF, hTF⟩ : ∃ H, H = timF p.l ⟨car, num, pf, pt, pd, A, c, lg⟩ := ⟨_, rfl⟩
  obtain ⟨CF, hCF⟩ : ∃ H, H = chF p.l ⟨car, num, pf, pt, pd, A, c, lg⟩ := ⟨_, rfl⟩
  have HCF : Hid (CF = if cntB lg.length = true then (if (HF ++ lgsF p.l lg lg.length).length = 0 then TF else HF ++ lgsF p.l lg lg.length) else HF ++ pick lgsW [4]) := Lib.hid (by rw [hCF, hHF, hTF]; rfl)
  have HHL : HF.length ≤ 3 := by rw [hHF]; exact hdF_le _
  obtain ⟨x0, hx0⟩ : ∃ x : Int, x = (if (!carB car) = true then 5 else 0) := ⟨_, rfl⟩
  obtain ⟨x1, hx1⟩ : ∃ x : Int, x = (if (!numB num) = true then 2 else 0) := ⟨_, rfl⟩
  obtain ⟨x2, hx2⟩ : ∃ x : Int, x = Per.errQ (pf, pt, pd) := ⟨_, rfl⟩
  have HHF : Hid (HF = [] ++ pick carW [x0] ++ pick numW [x1] ++ pick perW [x2]) := Lib.hid (by rw [hHF, hx0, hx1, hx2]; simp [hdF])
  have KC := Lib.hid (fun w => carrier_any car w hc0)
  have KN := Lib.hid (isNumber7_any num)
  have KP := Lib.hid (Per.check_any pf pt pd)
  have KL := Lib.hid (isLegCount_any lg.length)
  have KW0 := Lib.hid (fun W => fwhen_any (!carB car) 5 W)
  have KW1 := Lib.hid (fun W => fwhen_any (!numB num) 2 W)
  rw [← hx0] at KW0
  rw [← hx1] at KW1
  rw [← hx2] at KP
  rw [← hTF, ← hHF] at KT
  rw [← hCF]
  replace KT := Lib.hid KT
  generalize carB car = b0 at *
  generalize numB num = b1 at *
  clear hx0 hx1 hx2 hHF hTF hCF
  have hb1 := bel_alloc w (.cells #[.slice p.A p.l.length p.ca, .slice p.D p.ds.length p.cd] placesT)
  have hb2 := bel_alloc (w.alloc (.cells #[.slice p.A p.l.length p.ca, .slice p.D p.ds.length p.cd] placesT)) (.cells #[.string car, .int .i64 num, .int .i64 pf, .int .i64 pt, .int .i64 pd, .slice A lg.length c] fliT)
  have hb0 := hb1.trans (hb2.mono hb1.size)
  have p0 := bel_cell hb2 ((cells_new w #[.slice p.A p.l.length p.ca, .slice p.D p.ds.length p.cd] placesT 0).trans (show _ = some (.slice p.A p.l.length p.ca) from rfl))
  have p1 := bel_cell hb2 ((cells_new w #[.slice p.A p.l.length p.ca, .slice p.D p.ds.length p.cd] placesT 1).trans (show _ = some (.slice p.D p.ds.length p.cd) from rfl))
  have q0 := (cells_new (w.alloc (.cells #[.slice p.A p.l.length p.ca, .slice p.D p.ds.length p.cd] placesT)) #[.string car, .int .i64 num, .int .i64 pf, .int .i64 pt, .int .i64 pd, .slice A lg.length c] fliT 0).trans (show _ = some (Value.string car) from rfl)
  have q1 := (cells_new (w.alloc (.cells #[.slice p.A p.l.length p.ca, .slice p.D p.ds.length p.cd] placesT)) #[.string car, .int .i64 num, .int .i64 pf, .int .i64 pt, .int .i64 pd, .slice A lg.length c] fliT 1).trans (show _ = some (Value.int .i64 num) from rfl)
  have q2 := (cells_new (w.alloc (.cells #[.slice p.A p.l.length p.ca, .slice p.D p.ds.length p.cd] placesT)) #[.string car, .int .i64 num, .int .i64 pf, .int .i64 pt, .int .i64 pd, .slice A lg.length c] fliT 2).trans (show _ = some (Value.int .i64 pf) from rfl)
  have q3 := (cells_new (w.alloc (.cells #[.slice p.A p.l.length p.ca, .slice p.D p.ds.length p.cd] placesT)) #[.string car, .int .i64 num, .int .i64 pf, .int .i64 pt, .int .i64 pd, .slice A lg.length c] fliT 3).trans (show _ = some (Value.int .i64 pt) from rfl)
  have q4 := (cells_new (w.alloc (.cells #[.slice p.A p.l.length p.ca, .slice p.D p.ds.length p.cd] placesT)) #[.string car, .int .i64 num, .int .i64 pf, .int .i64 pt, .int .i64 pd, .slice A lg.length c] fliT 4).trans (show _ = some (Value.int .i64 pd) from rfl)
  have q5 := (cells_new (w.alloc (.cells #[.slice p.A p.l.length p.ca, .slice p.D p.ds.length p.cd] placesT)) #[.string car, .int .i64 num, .int .i64 pf, .int .i64 pt, .int .i64 pd, .slice A lg.length c] fliT 5).trans (show _ = some (Value.slice A lg.length c) from rfl)
  rw [World.size_alloc] at q0 q1 q2 q3 q4 q5
  have HSZ : Hid (((w.alloc (.cells #[.slice p.A p.l.length p.ca, .slice p.D p.ds.length p.cd] placesT)).alloc (.cells #[.string car, .int .i64 num, .int .i64 pf, .int .i64 pt, .int .i64 pd, .slice A lg.length c] fliT)).heap.size = w.heap.size + 2) := Lib.hid (by simp)
  have HLL := Lib.hid (hL.more hb0)
  have HGG := Lib.hid (hG.more hb0)
  have HO := Lib.hid ho
  clear hL hG ho hz
  go_enter Tryz.func17, Tryz.ntmps17
  go_upto_region 1 with (fail)
  generalize hw5 : (w.alloc (.cells #[.slice p.A p.l.length p.ca, .slice p.D p.ds.length p.cd] placesT)).alloc (.cells #[.string car, .int .i64 num, .int .i64 pf, .int .i64 pt, .int .i64 pd, .slice A lg.length c] fliT) = w5 at *
  clear hw5 hb1 hb2
  have f0 := bel_get q0
  have f1 := bel_get q1
  have f2 := bel_get q2
  have f3 := bel_get q3
  have f4 := bel_get q4
  have f5 := bel_get q5
  have y0 := bel_get p0
  have y1 := bel_get p1
  have HNIL : Hid (∀ W : World, w5.heap.size ≤ W.heap.size → FOwn w5.heap.size W (.slice none 0 0) []) := Lib.hid (fun W h => ROwn.nil h)
  have HL0 : Hid (([] : List Flt).length ≤ 1000000) := Lib.hid (by simp)
  have HL1 : Hid (([] ++ pick carW [x0]).length ≤ 1000000) := Lib.hid (by have := pick_le carW [x0]; rw [List.length_append]; simp only [List.length_cons, List.length_nil] at this ⊢; omega)
  have HL2 : Hid (([] ++ pick carW [x0] ++ pick numW [x1]).length ≤ 1000000) := Lib.hid (by have h1 := pick_le carW [x0]; have h2 := pick_le numW [x1]; rw [List.length_append, List.length_append]; simp only [List.length_cons, List.length_nil] at h1 h2 ⊢; omega)
  have Y0 := Lib.hid y0
  have Y1 := Lib.hid y1
  clear p0 p1 q1 q2 q3 q4 q5 y0 y1
  go_upto_region 2 with (first
    | (go_at_call 50; refine (fadd_any w5.heap.size (.slice none 0 0) [] carW w5.heap.size 1 1 [x0] _ (HNIL.out _ (by rw [World.size_alloc]; omega)) rfl (by omega) (errs_new w5 [x0] rfl) (by intro h; cases h) HL0.out).mono ?_; rintro e w1 ⟨v1, rfl, hO1, hC1⟩)
    | (go_at_call 51; with_reducible refine (KW0.out _).mono ?_; rintro e w' ⟨rfl, rfl⟩)
    | (go_at_call 52; refine (KC.out _).mono ?_; rintro e w' ⟨rfl, rfl⟩))
  have hS1 : SW w5 w1 := (bel_alloc w5 (.cells #[.int .i64 x0] errT)).trans (hC1.below (HNIL.out _ (by rw [World.size_alloc]; omega)))
  have k1 := f1 _ hS1
  have k2 := f2 _ hS1
  have k3 := f3 _ hS1
  have k4 := f4 _ hS1
  have hv1 : v1.ownBlock ≠ some w1.heap.size := fun h => Nat.lt_irrefl _ (hO1.low h).2
  clear hC1 q0
  go_upto_region 3 with (first
    | (go_at_call 50; refine (fadd_any w5.heap.size v1 _ numW w1.heap.size 1 1 [x1] _ (hO1.alloc _) rfl (by omega) (errs_new w1 [x1] rfl) hv1 HL1.out).mono ?_; rintro e w2 ⟨v2, rfl, hO2, hC2⟩)
    | (go_at_call 51; with_reducible refine (KW1.out _).mono ?_; rintro e w' ⟨rfl, rfl⟩)
    | (go_at_call 53; refine (KN.out _).mono ?_; rintro e w' ⟨rfl, rfl⟩))
  have hS2 : SW w5 w2 := Below.trans hS1 (((bel_alloc w1 (.cells #[.int .i64 x1] errT)).mono hS1.size).trans (hC2.below (hO1.alloc _)))
  have k2 := f2 _ hS2
  have k3 := f3 _ hS2
  have k4 := f4 _ hS2
  clear hC2 k1
  go_upto_region 4 with (first
    | (go_at_call 50; refine (fadd_any w5.heap.size v2 _ perW w3.heap.size 1 1 [x2] _ ((hO2.more hb3).alloc _) rfl (by omega) (errs_new w3 [x2] rfl) (fun h => Nat.lt_irrefl _ ((hO2.more hb3).low h).2) HL2.out).mono ?_; rintro e w4 ⟨v3, rfl, hO3, hC3⟩)
    | (go_at_call 54; refine (KP.out _).mono ?_; rintro e w3 ⟨rfl, hb3⟩))
  have hS3 : SW w5 w3 := Below.trans hS2 (Below.mono hb3 hS2.size)
  have hS4 : SW w5 w4 := Below.trans hS3 (((bel_alloc w3 (.cells #[.int .i64 x2] errT)).mono hS3.size).trans (hC3.below ((hO2.more hb3).alloc _)))
  rw [← HHF.out] at hO3
  have k5 := f5 _ hS4
  clear hC3 k2 k3 k4 hO1 hO2 hb3
  cases hcn : cntB lg.length with
  | false =>
    rw [hcn] at KL
    have HR : Hid (CF = HF ++ pick lgsW [4]) := Lib.hid (by rw [HCF.out, if_neg (by rw [hcn]; simp)])
    clear hcn
    go_wp2_with (first
      | (go_at_call 50; refine (fadd_any w5.heap.size v3 _ lgsW w4.heap.size 1 1 [4] _ (hO3.alloc _) rfl (by omega) (errs_new w4 [4] rfl) (fun h => Nat.lt_irrefl _ (hO3.low h).2) (by omega)).mono ?_; rintro e w8 ⟨v8, rfl, hO8, hC8⟩)
      | (go_at_call 55; refine (KL.out _).mono ?_; rintro e w' ⟨rfl, rfl⟩))
    go_ret
    exact ⟨v8, rfl, by rw [HR.out]; exact ⟨hO8.own.mono hb0.size, Nat.le_trans hb0.size hO8.base⟩, hb0.trans ((Below.trans hS4 (((bel_alloc w4 (.cells #[.int .i64 4] errT)).mono hS4.size).trans (hC8.below (hO3.alloc _)))).mono hb0.size)⟩
  | true =>
    rw [hcn] at KL
    have KT2 := Lib.hid (KT.out hcn)
    have HR : Hid (CF = if (HF ++ lgsF p.l lg lg.length).length = 0 then TF else HF ++ lgsF p.l lg lg.length) := Lib.hid (by rw [HCF.out, if_pos hcn])
    have HI : Hid (FOwn w5.heap.size w4 v3 (HF ++ lgsF p.l lg 0) ∧ SW w5 w4) := Lib.hid ⟨by simpa [lgsF] using hO3, hS4⟩
    have HHL := Lib.hid HHL
    have F := Lib.hid (And.intro f0 (And.intro f1 (And.intro f2 (And.intro f3 f4))))
    have F5 := Lib.hid f5
    clear hcn hO3 KT HCF HHF f0 f1 f2 f3 f4
    go_wp2_with (go_at_call 55; refine (KL.out _).mono ?_; rintro e w' ⟨rfl, rfl⟩)
    clear k5
    go_loopg [5, 40] lg.length (fun kx v5 vi wr => ∃ (v : Value) (k : Nat), v = v5 ∧ vi = .int .i64 k ∧ k + kx = lg.length ∧ Hid (FOwn w5.heap.size wr v (HF ++ lgsF p.l lg k) ∧ SW w5 wr))
    case atStart => exact ⟨_, 0, rfl, rfl, by omega, HI⟩
    case round =>
      obtain ⟨v, k, rfl, rfl, hkx, HH⟩ := hrel
      clear HI hS1 hS2 hS3 hS4
      have HKX := Lib.hid hkx
      by_cases hlt : k < lg.length
      · clear hkx
        obtain ⟨b, o, x, rfl, hbl, hx, c0, c1, c2, c3, c4⟩ := LegL.get (HGG.out.more HH.out.2) hlt
        have hox := HO.out x (List.mem_of_getElem? hx)
        have HTk := Lib.hid (lgsF_succ p.l lg k x hx)
        have HFL : Hid ((HF ++ lgsF p.l lg k).length ≤ 1000000) := Lib.hid (by have h1 := lgsF_le p.l lg k; have h2 := HHL.out; rw [List.length_append]; omega)
        have hO := HH.out.1
        have hSr : SW w5 wr := HH.out.2
        have HV1 : Hid (∀ g, v.ownBlock = some g → w5.heap.size ≤ g ∧ g < wr.heap.size) := Lib.hid (fun g hg => hO.low hg)
        have hvN : v.ownBlock ≠ some wr.heap.size := fun h => by have := (HV1.out _ h).2; omega
        have hv0 : v.ownBlock ≠ some w.heap.size := fun h => by have h1 := (HV1.out _ h).1; have h2 := HSZ.out; omega
        have hv1 : v.ownBlock ≠ some (w.heap.size + 1) := fun h => by have h1 := (HV1.out _ h).1; have h2 := HSZ.out; omega
        have hb6 := bel_alloc wr (.cells #[.string x.f, .string x.t, .int .i64 x.dep, .int .i64 x.arr, .string x.eq] legT)
        have HSW : Hid (∀ W, SX (wr.alloc (.cells #[.string x.f, .string x.t, .int .i64 x.dep, .int .i64 x.arr, .string x.eq] legT)) v W → SW w5 W) := Lib.hid (fun W h => Below.trans hSr ((hb6.mono hSr.size).trans (h.below (Nat.le_trans hSr.size hb6.size) (fun k' hk' hv => by have := (HV1.out _ hv).1; omega))))
        have y0 : ∀ W, SX (wr.alloc (.cells #[.string x.f, .string x.t, .int .i64 x.dep, .int .i64 x.arr, .string x.eq] legT)) v W → W.cell? ⟨w.heap.size, 0, none⟩ = some (.slice p.A p.l.length p.ca) := fun W h => Y0.out W (HSW.out W h)
        have y1 : ∀ W, SX (wr.alloc (.cells #[.string x.f, .string x.t, .int .i64 x.dep, .int .i64 x.arr, .string x.eq] legT)) v W → W.cell? ⟨w.heap.size, 1, none⟩ = some (.slice p.D p.ds.length p.cd) := fun W h => Y1.out W (HSW.out W h)
        have f5 : ∀ W, SX (wr.alloc (.cells #[.string x.f, .string x.t, .int .i64 x.dep, .int .i64 x.arr, .string x.eq] legT)) v W → W.cell? ⟨w.heap.size + 1, 5, none⟩ = some (.slice (some ⟨b, o, none⟩) lg.length c) := fun W h => F5.out W (HSW.out W h)
        have n0 : ∀ W, SX (wr.alloc (.cells #[.string x.f, .string x.t, .int .i64 x.dep, .int .i64 x.arr, .string x.eq] legT)) v W → W.cell? ⟨wr.heap.size, 0, none⟩ = some (Value.string x.f) := fun W h => SX.cell ((cells_new wr #[.string x.f, .string x.t, .int .i64 x.dep, .int .i64 x.arr, .string x.eq] legT 0).trans (show _ = some (Value.string x.f) from rfl)) hvN h
        have n1 : ∀ W, SX (wr.alloc (.cells #[.string x.f, .string x.t, .int .i64 x.dep, .int .i64 x.arr, .string x.eq] legT)) v W → W.cell? ⟨wr.heap.size, 1, none⟩ = some (Value.string x.t) := fun W h => SX.cell ((cells_new wr #[.string x.f, .string x.t, .int .i64 x.dep, .int .i64 x.arr, .string x.eq] legT 1).trans (show _ = some (Value.string x.t) from rfl)) hvN h
        have n2 : ∀ W, SX (wr.alloc (.cells #[.string x.f, .string x.t, .int .i64 x.dep, .int .i64 x.arr, .string x.eq] legT)) v W → W.cell? ⟨wr.heap.size, 2, none⟩ = some (Value.int .i64 x.dep) := fun W h => SX.cell ((cells_new wr #[.string x.f, .string x.t, .int .i64 x.dep, .int .i64 x.arr, .string x.eq] legT 2).trans (show _ = some (Value.int .i64 x.dep) from rfl)) hvN h
        have n3 : ∀ W, SX (wr.alloc (.cells #[.string x.f, .string x.t, .int .i64 x.dep, .int .i64 x.arr, .string x.eq] legT)) v W → W.cell? ⟨wr.heap.size, 3, none⟩ = some (Value.int .i64 x.arr) := fun W h => SX.cell ((cells_new wr #[.string x.f, .string x.t, .int .i64 x.dep, .int .i64 x.arr, .string x.eq] legT 3).trans (show _ = some (Value.int .i64 x.arr) from rfl)) hvN h
        have n4 : ∀ W, SX (wr.alloc (.cells #[.string x.f, .string x.t, .int .i64 x.dep, .int .i64 x.arr, .string x.eq] legT)) v W → W.cell? ⟨wr.heap.size, 4, none⟩ = some (Value.string x.eq) := fun W h => SX.cell ((cells_new wr #[.string x.f, .string x.t, .int .i64 x.dep, .int .i64 x.arr, .string x.eq] legT 4).trans (show _ = some (Value.string x.eq) from rfl)) hvN h
        have KD := Lib.hid (dec_small k (by omega))
        have KE := Lib.hid (fun w => isEquip_any x.eq w hox.eq)
        have KF1 : Hid (∀ W, SX (wr.alloc (.cells #[.string x.f, .string x.t, .int .i64 x.dep, .int .i64 x.arr, .string x.eq] legT)) v W → Calls Tryz.prog 58 #[encP p, .string x.f] W fun e w' => e = .returned (.bool (findC p.l x.f).isSome) ∧ Below W.heap.size W w') := Lib.hid (fun W h => isAirport_any p x.f W hl (HLL.out.more (HSW.out W h)) hs)
        have KF2 : Hid (∀ W, SX (wr.alloc (.cells #[.string x.f, .string x.t, .int .i64 x.dep, .int .i64 x.arr, .string x.eq] legT)) v W → Calls Tryz.prog 58 #[encP p, .string x.t] W fun e w' => e = .returned (.bool (findC p.l x.t).isSome) ∧ Below W.heap.size W w') := Lib.hid (fun W h => isAirport_any p x.t W hl (HLL.out.more (HSW.out W h)) hs)
        have KX : Hid (∀ W, SX (wr.alloc (.cells #[.string x.f, .string x.t, .int .i64 x.dep, .int .i64 x.arr, .string x.eq] legT)) v W → Calls Tryz.prog 59 #[.slice (some ⟨b, o, none⟩) k c, encG x] W fun e w' => e = .returned (.bool (nextB (lg.take k) x)) ∧ Below W.heap.size W w') := Lib.hid (fun W h => by
          have hk : (lg.take k).length = k := by rw [List.length_take]; omega
          have h2 := isNext_any (some ⟨b, o, none⟩) c (lg.take k) x W (by omega) (LegL.take (HGG.out.more (HSW.out W h)) k)
          rw [hk] at h2
          exact h2)
        have KM1 := Lib.hid (isMinute_any x.dep)
        have KM2 := Lib.hid (isMinute_any x.arr)
        have HEq : Hid (lgEs p.l (lg.take k) x = [if (!codeB x.eq 3 3) = true then 5 else 0, if (!((findC p.l x.f).isSome && (findC p.l x.t).isSome)) = true then 14 else 0, if (!nextB (lg.take k) x) = true then 15 else 0, if (!(minB x.dep && minB x.arr)) = true then 2 else 0]) := Lib.hid rfl
        generalize (findC p.l x.f).isSome = kf at *
        generalize (findC p.l x.t).isSome = kt at *
        generalize codeB x.eq 3 3 = ke at *
        generalize nextB (lg.take k) x = kn at *
        generalize minB x.dep = md at *
        generalize minB x.arr = ma at *
        have hadd : ∀ W : World, (Op.stringOp .add ⟨#[108, 101, 103, 32]⟩ (decA k)).run Tryz.prog W = .ok (.string (legW ++ decA k)) W := fun W => run_string_add_sum W _ _ (by have := decA_size k (by omega); have e : (⟨#[108, 101, 103, 32]⟩ : ByteArray).size = 4 := rfl; omega)
        have i2 : (k : Int) < (lg.length : Int) := by omega
        have i3 : (k : Int) ≤ (c : Int) := by omega
        have i4 : k ≤ c := by omega
        have hO := hO.more (hb6.trans ((Below.refl _ (wr.alloc (.cells #[.string x.f, .string x.t, .int .i64 x.dep, .int .i64 x.arr, .string x.eq] legT))).drew.mono hb6.size))
        generalize decA k = sk at *
        clear hx hox hbl F
        go_upto_region 9 with (fail)
        generalize hw6 : wr.alloc (.cells #[.string x.f, .string x.t, .int .i64 x.dep, .int .i64 x.arr, .string x.eq] legT) = w6 at *
        clear hw6 c0 c1 c2 c3 c4
        have hS : (SX w6 v) _ := But.of_below (Below.refl _ _).drew
        refine wp_region_held_drew (S := SX w6 v) (by kernel_rfl) hS (fun _ => ?_)
        refine wpAnyH_take (i := 0) (v := ?vC0) rfl (by kernel_rfl) (by kernel_rfl) (by kernel_rfl) (fun _ _ _ h => h) (Or.inl ⟨by rfl, ?hyC0⟩) hS ?restC0
        case hyC0 =>
          intro w hSw
          first | (go_simp; done) | (go_simp; with_reducible rfl)
        try simp only [Act.put, List.setIfInBounds_toArray, List.set_cons_zero, List.set_cons_succ]
        refine wpAnyH_take (i := 1) (v := ?vC1) rfl (by kernel_rfl) (by kernel_rfl) (by kernel_rfl) (fun _ _ _ h => h) (Or.inl ⟨by rfl, ?hyC1⟩) hS ?restC1
        case hyC1 =>
          intro w hSw
          first | (go_simp; done) | (go_simp; with_reducible rfl)
        try simp only [Act.put, List.setIfInBounds_toArray, List.set_cons_zero, List.set_cons_succ]
        refine wpAnyH_take (i := 4) (v := ?vC4) rfl (by kernel_rfl) (by kernel_rfl) (by kernel_rfl) (fun _ _ _ h => h) (Or.inl ⟨by rfl, ?hyC4⟩) hS ?restC4
        case hyC4 =>
          intro w hSw
          first | (go_simp; done) | (go_simp; with_reducible rfl)
        try simp only [Act.put, List.setIfInBounds_toArray, List.set_cons_zero, List.set_cons_succ]
        refine wpAnyH_take (i := 5) (v := ?vC5) rfl (by kernel_rfl) (by kernel_rfl) (by kernel_rfl) (fun _ _ _ h => h) (Or.inl ⟨by rfl, ?hyC5⟩) hS ?restC5
        case hyC5 =>
          intro w hSw
          have k0 := n4 w hSw
          first | (go_simp; done) | (go_simp; with_reducible rfl)
        try simp only [Act.put, List.setIfInBounds_toArray, List.set_cons_zero, List.set_cons_succ]
        refine wpAnyH_take (i := 9) (v := ?vC9) rfl (by kernel_rfl) (by kernel_rfl) (by kernel_rfl) (fun _ _ _ h => h) (Or.inl ⟨by rfl, ?hyC9⟩) hS ?restC9
        case hyC9 =>
          intro w hSw
          have k0 := y0 w hSw; have k1 := y1 w hSw
          first | (go_simp; done) | (go_simp; with_reducible rfl)
        try simp only [Act.put, List.setIfInBounds_toArray, List.set_cons_zero, List.set_cons_succ]
        refine wpAnyH_take (i := 10) (v := ?vC10) rfl (by kernel_rfl) (by kernel_rfl) (by kernel_rfl) (fun _ _ _ h => h) (Or.inl ⟨by rfl, ?hyC10⟩) hS ?restC10
        case hyC10 =>
          intro w hSw
          first | (go_simp; done) | (go_simp; with_reducible rfl)
        try simp only [Act.put, List.setIfInBounds_toArray, List.set_cons_zero, List.set_cons_succ]
        refine wpAnyH_take (i := 11) (v := ?vC11) rfl (by kernel_rfl) (by kernel_rfl) (by kernel_rfl) (fun _ _ _ h => h) (Or.inl ⟨by rfl, ?hyC11⟩) hS ?restC11
        case hyC11 =>
          intro w hSw
          have k0 := n0 w hSw
          first | (go_simp; done) | (go_simp; with_reducible rfl)
        try simp only [Act.put, List.setIfInBounds_toArray, List.set_cons_zero, List.set_cons_succ]
        refine wpAnyH_take (i := 22) (v := ?vC22) rfl (by kernel_rfl) (by kernel_rfl) (by kernel_rfl) (fun _ _ _ h => h) (Or.inl ⟨by rfl, ?hyC22⟩) hS ?restC22
        case hyC22 =>
          intro w hSw
          first | (go_simp; done) | (go_simp; with_reducible rfl)
        try simp only [Act.put, List.setIfInBounds_toArray, List.set_cons_zero, List.set_cons_succ]
        refine wpAnyH_take (i := 23) (v := ?vC23) rfl (by kernel_rfl) (by kernel_rfl) (by kernel_rfl) (fun _ _ _ h => h) (Or.inl ⟨by rfl, ?hyC23⟩) hS ?restC23
        case hyC23 =>
          intro w hSw
          have k0 := f5 w hSw
          first | (go_simp; done) | (go_simp; with_reducible rfl)
        try simp only [Act.put, List.setIfInBounds_toArray, List.set_cons_zero, List.set_cons_succ]
        refine wpAnyH_take (i := 24) (v := ?vC24) rfl (by kernel_rfl) (by kernel_rfl) (by kernel_rfl) (fun _ _ _ h => h) (Or.inl ⟨by rfl, ?hyC24⟩) hS ?restC24
        case hyC24 =>
          intro w hSw
          first | (go_simp; done) | (go_simp; with_reducible rfl)
        try simp only [Act.put, List.setIfInBounds_toArray, List.set_cons_zero, List.set_cons_succ]
        refine wpAnyH_take (i := 25) (v := ?vC25) rfl (by kernel_rfl) (by kernel_rfl) (by kernel_rfl) (fun _ _ _ h => h) (Or.inl ⟨by rfl, ?hyC25⟩) hS ?restC25
        case hyC25 =>
          intro w hSw
          first | (go_simp; done) | (go_simp; with_reducible rfl)
        try simp only [Act.put, List.setIfInBounds_toArray, List.set_cons_zero, List.set_cons_succ]
        refine wpAnyH_take (i := 26) (v := ?vC26) rfl (by kernel_rfl) (by kernel_rfl) (by kernel_rfl) (fun _ _ _ h => h) (Or.inl ⟨by rfl, ?hyC26⟩) hS ?restC26
        case hyC26 =>
          intro w hSw
          have k0 := n0 w hSw; have k1 := n1 w hSw; have k2 := n2 w hSw; have k3 := n3 w hSw; have k4 := n4 w hSw
          first | (go_simp; done) | (go_simp; with_reducible rfl)
        try simp only [Act.put, List.setIfInBounds_toArray, List.set_cons_zero, List.set_cons_succ]
        refine wpAnyH_take (i := 30) (v := ?vC30) rfl (by kernel_rfl) (by kernel_rfl) (by kernel_rfl) (fun _ _ _ h => h) (Or.inl ⟨by rfl, ?hyC30⟩) hS ?restC30
        case hyC30 =>
          intro w hSw
          first | (go_simp; done) | (go_simp; with_reducible rfl)
        try simp only [Act.put, List.setIfInBounds_toArray, List.set_cons_zero, List.set_cons_succ]
        refine wpAnyH_take (i := 31) (v := ?vC31) rfl (by kernel_rfl) (by kernel_rfl) (by kernel_rfl) (fun _ _ _ h => h) (Or.inl ⟨by rfl, ?hyC31⟩) hS ?restC31
        case hyC31 =>
          intro w hSw
          have k0 := n2 w hSw
          first | (go_simp; done) | (go_simp; with_reducible rfl)
        try simp only [Act.put, List.setIfInBounds_toArray, List.set_cons_zero, List.set_cons_succ]
        refine wpAnyH_ready (rs := [2]) (by kernel_rfl) (by simp) ?_
        refine AllReadyH.cons rfl (fun K hK => ?_) AllReadyH.nil
        go_simp
        go_wp2_with ((go_at_call 56; refine (KD.out _).mono ?_; rintro e w' ⟨rfl, rfl⟩))
        refine hK.out _ _ hS (fun _ => ?_)
        clear hK K
        refine wpAnyH_take (i := 3) (v := ?vC3) rfl (by kernel_rfl) (by kernel_rfl) (by kernel_rfl) (fun _ _ _ h => h) (Or.inl ⟨by rfl, ?hyC3⟩) hS ?restC3
        case hyC3 =>
          intro w hSw
          have kadd := hadd w
          first | (go_simp; done) | (go_simp; with_reducible rfl)
        try simp only [Act.put, List.setIfInBounds_toArray, List.set_cons_zero, List.set_cons_succ]
        refine wpAnyH_ready (rs := [6]) (by kernel_rfl) (by simp) ?_
        refine AllReadyH.cons rfl (fun K hK => ?_) AllReadyH.nil
        go_simp
        go_wp2_with ((go_at_call 57; refine (KE.out _).mono ?_; rintro e w' ⟨rfl, rfl⟩))
        refine hK.out _ _ hS (fun _ => ?_)
        clear hK K
        refine wpAnyH_take (i := 7) (v := ?vC7) rfl (by kernel_rfl) (by kernel_rfl) (by kernel_rfl) (fun _ _ _ h => h) (Or.inl ⟨by rfl, ?hyC7⟩) hS ?restC7
        case hyC7 =>
          intro w hSw
          first | (go_simp; done) | (go_simp; with_reducible rfl)
        try simp only [Act.put, List.setIfInBounds_toArray, List.set_cons_zero, List.set_cons_succ]
        refine wpAnyH_ready (rs := [8]) (by kernel_rfl) (by simp) ?_
        refine AllReadyH.cons rfl (fun K hK => ?_) AllReadyH.nil
        go_simp
        go_wp2_with ((go_at_call 51; refine (fwh_any _ _ _).mono ?_; rintro e w' ⟨rfl, rfl⟩))
        refine hK.out _ _ hS (fun _ => ?_)
        clear hK K
        refine wpAnyH_ready (rs := [12]) (by kernel_rfl) (by simp) ?_
        refine AllReadyH.cons rfl (fun K hK => ?_) AllReadyH.nil
        go_simp
        go_wp2_with ((go_at_call 58; refine (KF1.out _ hS).mono ?_; rintro e w' ⟨rfl, hb'⟩; have hO := hO.more hb'; have hS := hS.on hb'))
        refine hK.out _ _ hS (fun _ => ?_)
        clear hK K
        refine wpAnyH_take (i := 13) (v := ?vC13) rfl (by kernel_rfl) (by kernel_rfl) (by kernel_rfl) (fun _ _ _ h => h) (Or.inl ⟨by rfl, ?hyC13⟩) hS ?restC13
        case hyC13 =>
          intro w hSw
          first | (go_simp; done) | (go_simp; with_reducible rfl)
        try simp only [Act.put, List.setIfInBounds_toArray, List.set_cons_zero, List.set_cons_succ]
        refine wpAnyH_take (i := 14) (v := ?vC14) rfl (by kernel_rfl) (by kernel_rfl) (by kernel_rfl) (fun _ _ _ h => h) (Or.inl ⟨by rfl, ?hyC14⟩) hS ?restC14
        case hyC14 =>
          intro w hSw
          first | (go_simp; done) | (go_simp; with_reducible rfl)
        try simp only [Act.put, List.setIfInBounds_toArray, List.set_cons_zero, List.set_cons_succ]
        cases kf with
        | false =>
          refine wpAnyH_take (i := 15) (v := undef) rfl (by kernel_rfl) (by kernel_rfl) (by kernel_rfl) (fun _ _ _ h => h) (Or.inr ⟨by kernel_rfl, rfl⟩) hS ?_
          try simp only [Act.put, List.setIfInBounds_toArray, List.set_cons_zero, List.set_cons_succ]
          refine wpAnyH_take (i := 16) (v := undef) rfl (by kernel_rfl) (by kernel_rfl) (by kernel_rfl) (fun _ _ _ h => h) (Or.inr ⟨by kernel_rfl, rfl⟩) hS ?_
          try simp only [Act.put, List.setIfInBounds_toArray, List.set_cons_zero, List.set_cons_succ]
          refine wpAnyH_take (i := 17) (v := undef) rfl (by kernel_rfl) (by kernel_rfl) (by kernel_rfl) (fun _ _ _ h => h) (Or.inr ⟨by kernel_rfl, rfl⟩) hS ?_
          try simp only [Act.put, List.setIfInBounds_toArray, List.set_cons_zero, List.set_cons_succ]
          refine wpAnyH_take (i := 18) (v := undef) rfl (by kernel_rfl) (by kernel_rfl) (by kernel_rfl) (fun _ _ _ h => h) (Or.inr ⟨by kernel_rfl, rfl⟩) hS ?_
          try simp only [Act.put, List.setIfInBounds_toArray, List.set_cons_zero, List.set_cons_succ]
          refine wpAnyH_take (i := 19) (v := undef) rfl (by kernel_rfl) (by kernel_rfl) (by kernel_rfl) (fun _ _ _ h => h) (Or.inr ⟨by kernel_rfl, rfl⟩) hS ?_
          try simp only [Act.put, List.setIfInBounds_toArray, List.set_cons_zero, List.set_cons_succ]
          refine wpAnyH_take (i := 20) (v := ?vCf20) rfl (by kernel_rfl) (by kernel_rfl) (by kernel_rfl) (fun _ _ _ h => h) (Or.inl ⟨by rfl, ?hyCf20⟩) hS ?restCf20
          case hyCf20 =>
            intro w hSw
            first | (go_simp; done) | (go_simp; with_reducible rfl)
          try simp only [Act.put, List.setIfInBounds_toArray, List.set_cons_zero, List.set_cons_succ]
          refine wpAnyH_ready (rs := [21]) (by kernel_rfl) (by simp) ?_
          refine AllReadyH.cons rfl (fun K hK => ?_) AllReadyH.nil
          go_simp
          go_wp2_with ((go_at_call 51; refine (fwh_any _ _ _).mono ?_; rintro e w' ⟨rfl, rfl⟩))
          refine hK.out _ _ hS (fun _ => ?_)
          clear hK K
          refine wpAnyH_ready (rs := [27]) (by kernel_rfl) (by simp) ?_
          refine AllReadyH.cons rfl (fun K hK => ?_) AllReadyH.nil
          go_simp
          go_wp2_with ((go_at_call 59; refine (KX.out _ hS).mono ?_; rintro e w' ⟨rfl, hb'⟩; have hO := hO.more hb'; have hS := hS.on hb'))
          refine hK.out _ _ hS (fun _ => ?_)
          clear hK K
          refine wpAnyH_take (i := 28) (v := ?vCf28) rfl (by kernel_rfl) (by kernel_rfl) (by kernel_rfl) (fun _ _ _ h => h) (Or.inl ⟨by rfl, ?hyCf28⟩) hS ?restCf28
          case hyCf28 =>
            intro w hSw
            first | (go_simp; done) | (go_simp; with_reducible rfl)
          try simp only [Act.put, List.setIfInBounds_toArray, List.set_cons_zero, List.set_cons_succ]
          refine wpAnyH_ready (rs := [29]) (by kernel_rfl) (by simp) ?_
          refine AllReadyH.cons rfl (fun K hK => ?_) AllReadyH.nil
          go_simp
          go_wp2_with ((go_at_call 51; refine (fwh_any _ _ _).mono ?_; rintro e w' ⟨rfl, rfl⟩))
          refine hK.out _ _ hS (fun _ => ?_)
          clear hK K
          refine wpAnyH_ready (rs := [32]) (by kernel_rfl) (by simp) ?_
          refine AllReadyH.cons rfl (fun K hK => ?_) AllReadyH.nil
          go_simp
          go_wp2_with ((go_at_call 60; refine (KM1.out _).mono ?_; rintro e w' ⟨rfl, rfl⟩))
          refine hK.out _ _ hS (fun _ => ?_)
          clear hK K
          refine wpAnyH_take (i := 33) (v := ?vCf33) rfl (by kernel_rfl) (by kernel_rfl) (by kernel_rfl) (fun _ _ _ h => h) (Or.inl ⟨by rfl, ?hyCf33⟩) hS ?restCf33
          case hyCf33 =>
            intro w hSw
            first | (go_simp; done) | (go_simp; with_reducible rfl)
          try simp only [Act.put, List.setIfInBounds_toArray, List.set_cons_zero, List.set_cons_succ]
          refine wpAnyH_take (i := 34) (v := ?vCf34) rfl (by kernel_rfl) (by kernel_rfl) (by kernel_rfl) (fun _ _ _ h => h) (Or.inl ⟨by rfl, ?hyCf34⟩) hS ?restCf34
          case hyCf34 =>
            intro w hSw
            first | (go_simp; done) | (go_simp; with_reducible rfl)
          try simp only [Act.put, List.setIfInBounds_toArray, List.set_cons_zero, List.set_cons_succ]
          cases md with
          | false =>
            refine wpAnyH_take (i := 35) (v := undef) rfl (by kernel_rfl) (by kernel_rfl) (by kernel_rfl) (fun _ _ _ h => h) (Or.inr ⟨by kernel_rfl, rfl⟩) hS ?_
            try simp only [Act.put, List.setIfInBounds_toArray, List.set_cons_zero, List.set_cons_succ]
            refine wpAnyH_take (i := 36) (v := undef) rfl (by kernel_rfl) (by kernel_rfl) (by kernel_rfl) (fun _ _ _ h => h) (Or.inr ⟨by kernel_rfl, rfl⟩) hS ?_
            try simp only [Act.put, List.setIfInBounds_toArray, List.set_cons_zero, List.set_cons_succ]
            refine wpAnyH_take (i := 37) (v := undef) rfl (by kernel_rfl) (by kernel_rfl) (by kernel_rfl) (fun _ _ _ h => h) (Or.inr ⟨by kernel_rfl, rfl⟩) hS ?_
            try simp only [Act.put, List.setIfInBounds_toArray, List.set_cons_zero, List.set_cons_succ]
            refine wpAnyH_take (i := 38) (v := undef) rfl (by kernel_rfl) (by kernel_rfl) (by kernel_rfl) (fun _ _ _ h => h) (Or.inr ⟨by kernel_rfl, rfl⟩) hS ?_
            try simp only [Act.put, List.setIfInBounds_toArray, List.set_cons_zero, List.set_cons_succ]
            refine wpAnyH_take (i := 39) (v := ?vCff39) rfl (by kernel_rfl) (by kernel_rfl) (by kernel_rfl) (fun _ _ _ h => h) (Or.inl ⟨by rfl, ?hyCff39⟩) hS ?restCff39
            case hyCff39 =>
              intro w hSw
              first | (go_simp; done) | (go_simp; with_reducible rfl)
            try simp only [Act.put, List.setIfInBounds_toArray, List.set_cons_zero, List.set_cons_succ]
            refine wpAnyH_ready (rs := [40]) (by kernel_rfl) (by simp) ?_
            refine AllReadyH.cons rfl (fun K hK => ?_) AllReadyH.nil
            go_simp
            go_wp2_with ((go_at_call 51; refine (fwh_any _ _ _).mono ?_; rintro e w' ⟨rfl, rfl⟩))
            refine hK.out _ _ hS (fun _ => ?_)
            clear hK K
            refine wpAnyH_ready (rs := [41]) (by kernel_rfl) (by simp) ?_
            refine AllReadyH.cons rfl (fun K hK => ?_) AllReadyH.nil
            go_simp
            have hNv : v.ownBlock ≠ some w'.heap.size := fun h => Nat.lt_irrefl _ (hO.low h).2
            have hO := hO.alloc (.cells #[.int .i64 (wh (!ke) 5), .int .i64 (wh true 14), .int .i64 (wh (!kn) 15), .int .i64 (wh true 2)] errT)
            have hS := hS.on (bel_alloc _ (.cells #[.int .i64 (wh (!ke) 5), .int .i64 (wh true 14), .int .i64 (wh (!kn) 15), .int .i64 (wh true 2)] errT))
            refine hK.out _ _ hS (fun _ => ?_)
            clear hK K
            refine wpAnyH_ready (rs := [42]) (by kernel_rfl) (by simp) ?_
            refine AllReadyH.cons rfl (fun K hK => ?_) AllReadyH.nil
            go_simp
            go_wp2_with ((go_at_call 50; refine (fadd_any _ v _ _ w'.heap.size 4 4 [wh (!ke) 5, wh true 14, wh (!kn) 15, wh true 2] _ hO rfl (by omega) (errs_new w' _ rfl) hNv HFL.out).mono ?_; rintro e w8 ⟨v8, rfl, hO8, hC8⟩; have hS := hS.trans hC8.but (fun _ _ h => h)))
            refine hK.out _ _ hS (fun _ => ?_)
            clear hK K
            refine wpAnyH_take (i := 43) (v := ?vCff43) rfl (by kernel_rfl) (by kernel_rfl) (by kernel_rfl) (fun _ _ _ h => h) (Or.inl ⟨by rfl, ?hyCff43⟩) hS ?restCff43
            case hyCff43 =>
              intro w hSw
              first | (go_simp; done) | (go_simp; with_reducible rfl)
            try simp only [Act.put, List.setIfInBounds_toArray, List.set_cons_zero, List.set_cons_succ]
            refine wpAnyH_done (by kernel_rfl) ?_ _
            simp only [List.getElem_toArray, List.getElem_cons_succ, List.getElem_cons_zero, List.set_cons_zero, List.set_cons_succ]
            have HEr : Hid (lgEs p.l (lg.take k) x = [wh (!ke) 5, wh true 14, wh (!kn) 15, wh true 2]) := Lib.hid (by rw [HEq.out]; simp [wh])
            have HY : Hid (FOwn w5.heap.size w8 v8 (HF ++ lgsF p.l lg (k + 1)) ∧ SW w5 w8) := Lib.hid ⟨by rw [HTk.out, ← List.append_assoc, HEr.out]; exact hO8, HSW.out _ hS⟩
            clear hO8 hC8 hS hO
            go_wp2
            go_roundg (lg.length - (k + 1))
            case measure => have := HKX.out; omega
            case rel => exact ⟨_, k + 1, rfl, by go_num, by omega, HY⟩
          | true =>
            refine wpAnyH_take (i := 35) (v := ?vCft35) rfl (by kernel_rfl) (by kernel_rfl) (by kernel_rfl) (fun _ _ _ h => h) (Or.inl ⟨by kernel_rfl, ?hyCft35⟩) hS ?restCft35
            case hyCft35 =>
              intro w hSw
              first | (go_simp; done) | (go_simp; with_reducible rfl)
            try simp only [Act.put, List.setIfInBounds_toArray, List.set_cons_zero, List.set_cons_succ]
            refine wpAnyH_take (i := 36) (v := ?vCft36) rfl (by kernel_rfl) (by kernel_rfl) (by kernel_rfl) (fun _ _ _ h => h) (Or.inl ⟨by kernel_rfl, ?hyCft36⟩) hS ?restCft36
            case hyCft36 =>
              intro w hSw
              have k0 := n3 w hSw
              first | (go_simp; done) | (go_simp; with_reducible rfl)
            try simp only [Act.put, List.setIfInBounds_toArray, List.set_cons_zero, List.set_cons_succ]
            refine wpAnyH_ready (rs := [37]) (by kernel_rfl) (by simp) ?_
            refine AllReadyH.cons rfl (fun K hK => ?_) AllReadyH.nil
            go_simp
            go_wp2_with ((go_at_call 60; refine (KM2.out _).mono ?_; rintro e w' ⟨rfl, rfl⟩))
            refine hK.out _ _ hS (fun _ => ?_)
            clear hK K
            refine wpAnyH_take (i := 38) (v := ?vCft38) rfl (by kernel_rfl) (by kernel_rfl) (by kernel_rfl) (fun _ _ _ h => h) (Or.inl ⟨by kernel_rfl, ?hyCft38⟩) hS ?restCft38
            case hyCft38 =>
              intro w hSw
              first | (go_simp; done) | (go_simp; with_reducible rfl)
            try simp only [Act.put, List.setIfInBounds_toArray, List.set_cons_zero, List.set_cons_succ]
            refine wpAnyH_take (i := 39) (v := ?vCft39) rfl (by kernel_rfl) (by kernel_rfl) (by kernel_rfl) (fun _ _ _ h => h) (Or.inl ⟨by rfl, ?hyCft39⟩) hS ?restCft39
            case hyCft39 =>
              intro w hSw
              first | (go_simp; done) | (go_simp; with_reducible rfl)
            try simp only [Act.put, List.setIfInBounds_toArray, List.set_cons_zero, List.set_cons_succ]
            refine wpAnyH_ready (rs := [40]) (by kernel_rfl) (by simp) ?_
            refine AllReadyH.cons rfl (fun K hK => ?_) AllReadyH.nil
            go_simp
            go_wp2_with ((go_at_call 51; refine (fwh_any _ _ _).mono ?_; rintro e w' ⟨rfl, rfl⟩))
            refine hK.out _ _ hS (fun _ => ?_)
            clear hK K
            refine wpAnyH_ready (rs := [41]) (by kernel_rfl) (by simp) ?_
            refine AllReadyH.cons rfl (fun K hK => ?_) AllReadyH.nil
            go_simp
            have hNv : v.ownBlock ≠ some w'.heap.size := fun h => Nat.lt_irrefl _ (hO.low h).2
            have hO := hO.alloc (.cells #[.int .i64 (wh (!ke) 5), .int .i64 (wh true 14), .int .i64 (wh (!kn) 15), .int .i64 (wh (!ma) 2)] errT)
            have hS := hS.on (bel_alloc _ (.cells #[.int .i64 (wh (!ke) 5), .int .i64 (wh true 14), .int .i64 (wh (!kn) 15), .int .i64 (wh (!ma) 2)] errT))
            refine hK.out _ _ hS (fun _ => ?_)
            clear hK K
            refine wpAnyH_ready (rs := [42]) (by kernel_rfl) (by simp) ?_
            refine AllReadyH.cons rfl (fun K hK => ?_) AllReadyH.nil
            go_simp
            go_wp2_with ((go_at_call 50; refine (fadd_any _ v _ _ w'.heap.size 4 4 [wh (!ke) 5, wh true 14, wh (!kn) 15, wh (!ma) 2] _ hO rfl (by omega) (errs_new w' _ rfl) hNv HFL.out).mono ?_; rintro e w8 ⟨v8, rfl, hO8, hC8⟩; have hS := hS.trans hC8.but (fun _ _ h => h)))
            refine hK.out _ _ hS (fun _ => ?_)
            clear hK K
            refine wpAnyH_take (i := 43) (v := ?vCft43) rfl (by kernel_rfl) (by kernel_rfl) (by kernel_rfl) (fun _ _ _ h => h) (Or.inl ⟨by rfl, ?hyCft43⟩) hS ?restCft43
            case hyCft43 =>
              intro w hSw
              first | (go_simp; done) | (go_simp; with_reducible rfl)
            try simp only [Act.put, List.setIfInBounds_toArray, List.set_cons_zero, List.set_cons_succ]
            refine wpAnyH_done (by kernel_rfl) ?_ _
            simp only [List.getElem_toArray, List.getElem_cons_succ, List.getElem_cons_zero, List.set_cons_zero, List.set_cons_succ]
            have HEr : Hid (lgEs p.l (lg.take k) x = [wh (!ke) 5, wh true 14, wh (!kn) 15, wh (!ma) 2]) := Lib.hid (by rw [HEq.out]; simp [wh])
            have HY : Hid (FOwn w5.heap.size w8 v8 (HF ++ lgsF p.l lg (k + 1)) ∧ SW w5 w8) := Lib.hid ⟨by rw [HTk.out, ← List.append_assoc, HEr.out]; exact hO8, HSW.out _ hS⟩
            clear hO8 hC8 hS hO
            go_wp2
            go_roundg (lg.length - (k + 1))
            case measure => have := HKX.out; omega
            case rel => exact ⟨_, k + 1, rfl, by go_num, by omega, HY⟩
        | true =>
          refine wpAnyH_take (i := 15) (v := ?vCt15) rfl (by kernel_rfl) (by kernel_rfl) (by kernel_rfl) (fun _ _ _ h => h) (Or.inl ⟨by kernel_rfl, ?hyCt15⟩) hS ?restCt15
          case hyCt15 =>
            intro w hSw
            have k0 := y0 w hSw; have k1 := y1 w hSw
            first | (go_simp; done) | (go_simp; with_reducible rfl)
          try simp only [Act.put, List.setIfInBounds_toArray, List.set_cons_zero, List.set_cons_succ]
          refine wpAnyH_take (i := 16) (v := ?vCt16) rfl (by kernel_rfl) (by kernel_rfl) (by kernel_rfl) (fun _ _ _ h => h) (Or.inl ⟨by kernel_rfl, ?hyCt16⟩) hS ?restCt16
          case hyCt16 =>
            intro w hSw
            first | (go_simp; done) | (go_simp; with_reducible rfl)
          try simp only [Act.put, List.setIfInBounds_toArray, List.set_cons_zero, List.set_cons_succ]
          refine wpAnyH_take (i := 17) (v := ?vCt17) rfl (by kernel_rfl) (by kernel_rfl) (by kernel_rfl) (fun _ _ _ h => h) (Or.inl ⟨by kernel_rfl, ?hyCt17⟩) hS ?restCt17
          case hyCt17 =>
            intro w hSw
            have k0 := n1 w hSw
            first | (go_simp; done) | (go_simp; with_reducible rfl)
          try simp only [Act.put, List.setIfInBounds_toArray, List.set_cons_zero, List.set_cons_succ]
          refine wpAnyH_ready (rs := [18]) (by kernel_rfl) (by simp) ?_
          refine AllReadyH.cons rfl (fun K hK => ?_) AllReadyH.nil
          go_simp
          go_wp2_with ((go_at_call 58; refine (KF2.out _ hS).mono ?_; rintro e w' ⟨rfl, hb'⟩; have hO := hO.more hb'; have hS := hS.on hb'))
          refine hK.out _ _ hS (fun _ => ?_)
          clear hK K
          refine wpAnyH_take (i := 19) (v := ?vCt19) rfl (by kernel_rfl) (by kernel_rfl) (by kernel_rfl) (fun _ _ _ h => h) (Or.inl ⟨by kernel_rfl, ?hyCt19⟩) hS ?restCt19
          case hyCt19 =>
            intro w hSw
            first | (go_simp; done) | (go_simp; with_reducible rfl)
          try simp only [Act.put, List.setIfInBounds_toArray, List.set_cons_zero, List.set_cons_succ]
          refine wpAnyH_take (i := 20) (v := ?vCt20) rfl (by kernel_rfl) (by kernel_rfl) (by kernel_rfl) (fun _ _ _ h => h) (Or.inl ⟨by rfl, ?hyCt20⟩) hS ?restCt20
          case hyCt20 =>
            intro w hSw
            first | (go_simp; done) | (go_simp; with_reducible rfl)
          try simp only [Act.put, List.setIfInBounds_toArray, List.set_cons_zero, List.set_cons_succ]
          refine wpAnyH_ready (rs := [21]) (by kernel_rfl) (by simp) ?_
          refine AllReadyH.cons rfl (fun K hK => ?_) AllReadyH.nil
          go_simp
          go_wp2_with ((go_at_call 51; refine (fwh_any _ _ _).mono ?_; rintro e w' ⟨rfl, rfl⟩))
          refine hK.out _ _ hS (fun _ => ?_)
          clear hK K
          refine wpAnyH_ready (rs := [27]) (by kernel_rfl) (by simp) ?_
          refine AllReadyH.cons rfl (fun K hK => ?_) AllReadyH.nil
          go_simp
          go_wp2_with ((go_at_call 59; refine (KX.out _ hS).mono ?_; rintro e w' ⟨rfl, hb'⟩; have hO := hO.more hb'; have hS := hS.on hb'))
          refine hK.out _ _ hS (fun _ => ?_)
          clear hK K
          refine wpAnyH_take (i := 28) (v := ?vCt28) rfl (by kernel_rfl) (by kernel_rfl) (by kernel_rfl) (fun _ _ _ h => h) (Or.inl ⟨by rfl, ?hyCt28⟩) hS ?restCt28
          case hyCt28 =>
            intro w hSw
            first | (go_simp; done) | (go_simp; with_reducible rfl)
          try simp only [Act.put, List.setIfInBounds_toArray, List.set_cons_zero, List.set_cons_succ]
          refine wpAnyH_ready (rs := [29]) (by kernel_rfl) (by simp) ?_
          refine AllReadyH.cons rfl (fun K hK => ?_) AllReadyH.nil
          go_simp
          go_wp2_with ((go_at_call 51; refine (fwh_any _ _ _).mono ?_; rintro e w' ⟨rfl, rfl⟩))
          refine hK.out _ _ hS (fun _ => ?_)
          clear hK K
          refine wpAnyH_ready (rs := [32]) (by kernel_rfl) (by simp) ?_
          refine AllReadyH.cons rfl (fun K hK => ?_) AllReadyH.nil
          go_simp
          go_wp2_with ((go_at_call 60; refine (KM1.out _).mono ?_; rintro e w' ⟨rfl, rfl⟩))
          refine hK.out _ _ hS (fun _ => ?_)
          clear hK K
          refine wpAnyH_take (i := 33) (v := ?vCt33) rfl (by kernel_rfl) (by kernel_rfl) (by kernel_rfl) (fun _ _ _ h => h) (Or.inl ⟨by rfl, ?hyCt33⟩) hS ?restCt33
          case hyCt33 =>
            intro w hSw
            first | (go_simp; done) | (go_simp; with_reducible rfl)
          try simp only [Act.put, List.setIfInBounds_toArray, List.set_cons_zero, List.set_cons_succ]
          refine wpAnyH_take (i := 34) (v := ?vCt34) rfl (by kernel_rfl) (by kernel_rfl) (by kernel_rfl) (fun _ _ _ h => h) (Or.inl ⟨by rfl, ?hyCt34⟩) hS ?restCt34
          case hyCt34 =>
            intro w hSw
            first | (go_simp; done) | (go_simp; with_reducible rfl)
          try simp only [Act.put, List.setIfInBounds_toArray, List.set_cons_zero, List.set_cons_succ]
          cases md with
          | false =>
            refine wpAnyH_take (i := 35) (v := undef) rfl (by kernel_rfl) (by kernel_rfl) (by kernel_rfl) (fun _ _ _ h => h) (Or.inr ⟨by kernel_rfl, rfl⟩) hS ?_
            try simp only [Act.put, List.setIfInBounds_toArray, List.set_cons_zero, List.set_cons_succ]
            refine wpAnyH_take (i := 36) (v := undef) rfl (by kernel_rfl) (by kernel_rfl) (by kernel_rfl) (fun _ _ _ h => h) (Or.inr ⟨by kernel_rfl, rfl⟩) hS ?_
            try simp only [Act.put, List.setIfInBounds_toArray, List.set_cons_zero, List.set_cons_succ]
            refine wpAnyH_take (i := 37) (v := undef) rfl (by kernel_rfl) (by kernel_rfl) (by kernel_rfl) (fun _ _ _ h => h) (Or.inr ⟨by kernel_rfl, rfl⟩) hS ?_
            try simp only [Act.put, List.setIfInBounds_toArray, List.set_cons_zero, List.set_cons_succ]
            refine wpAnyH_take (i := 38) (v := undef) rfl (by kernel_rfl) (by kernel_rfl) (by kernel_rfl) (fun _ _ _ h => h) (Or.inr ⟨by kernel_rfl, rfl⟩) hS ?_
            try simp only [Act.put, List.setIfInBounds_toArray, List.set_cons_zero, List.set_cons_succ]
            refine wpAnyH_take (i := 39) (v := ?vCtf39) rfl (by kernel_rfl) (by kernel_rfl) (by kernel_rfl) (fun _ _ _ h => h) (Or.inl ⟨by rfl, ?hyCtf39⟩) hS ?restCtf39
            case hyCtf39 =>
              intro w hSw
              first | (go_simp; done) | (go_simp; with_reducible rfl)
            try simp only [Act.put, List.setIfInBounds_toArray, List.set_cons_zero, List.set_cons_succ]
            refine wpAnyH_ready (rs := [40]) (by kernel_rfl) (by simp) ?_
            refine AllReadyH.cons rfl (fun K hK => ?_) AllReadyH.nil
            go_simp
            go_wp2_with ((go_at_call 51; refine (fwh_any _ _ _).mono ?_; rintro e w' ⟨rfl, rfl⟩))
            refine hK.out _ _ hS (fun _ => ?_)
            clear hK K
            refine wpAnyH_ready (rs := [41]) (by kernel_rfl) (by simp) ?_
            refine AllReadyH.cons rfl (fun K hK => ?_) AllReadyH.nil
            go_simp
            have hNv : v.ownBlock ≠ some w'.heap.size := fun h => Nat.lt_irrefl _ (hO.low h).2
            have hO := hO.alloc (.cells #[.int .i64 (wh (!ke) 5), .int .i64 (wh (!kt) 14), .int .i64 (wh (!kn) 15), .int .i64 (wh true 2)] errT)
            have hS := hS.on (bel_alloc _ (.cells #[.int .i64 (wh (!ke) 5), .int .i64 (wh (!kt) 14), .int .i64 (wh (!kn) 15), .int .i64 (wh true 2)] errT))
            refine hK.out _ _ hS (fun _ => ?_)
            clear hK K
            refine wpAnyH_ready (rs := [42]) (by kernel_rfl) (by simp) ?_
            refine AllReadyH.cons rfl (fun K hK => ?_) AllReadyH.nil
            go_simp
            go_wp2_with ((go_at_call 50; refine (fadd_any _ v _ _ w'.heap.size 4 4 [wh (!ke) 5, wh (!kt) 14, wh (!kn) 15, wh true 2] _ hO rfl (by omega) (errs_new w' _ rfl) hNv HFL.out).mono ?_; rintro e w8 ⟨v8, rfl, hO8, hC8⟩; have hS := hS.trans hC8.but (fun _ _ h => h)))
            refine hK.out _ _ hS (fun _ => ?_)
            clear hK K
            refine wpAnyH_take (i := 43) (v := ?vCtf43) rfl (by kernel_rfl) (by kernel_rfl) (by kernel_rfl) (fun _ _ _ h => h) (Or.inl ⟨by rfl, ?hyCtf43⟩) hS ?restCtf43
            case hyCtf43 =>
              intro w hSw
              first | (go_simp; done) | (go_simp; with_reducible rfl)
            try simp only [Act.put, List.setIfInBounds_toArray, List.set_cons_zero, List.set_cons_succ]
            refine wpAnyH_done (by kernel_rfl) ?_ _
            simp only [List.getElem_toArray, List.getElem_cons_succ, List.getElem_cons_zero, List.set_cons_zero, List.set_cons_succ]
            have HEr : Hid (lgEs p.l (lg.take k) x = [wh (!ke) 5, wh (!kt) 14, wh (!kn) 15, wh true 2]) := Lib.hid (by rw [HEq.out]; simp [wh])
            have HY : Hid (FOwn w5.heap.size w8 v8 (HF ++ lgsF p.l lg (k + 1)) ∧ SW w5 w8) := Lib.hid ⟨by rw [HTk.out, ← List.append_assoc, HEr.out]; exact hO8, HSW.out _ hS⟩
            clear hO8 hC8 hS hO
            go_wp2
            go_roundg (lg.length - (k + 1))
            case measure => have := HKX.out; omega
            case rel => exact ⟨_, k + 1, rfl, by go_num, by omega, HY⟩
          | true =>
            refine wpAnyH_take (i := 35) (v := ?vCtt35) rfl (by kernel_rfl) (by kernel_rfl) (by kernel_rfl) (fun _ _ _ h => h) (Or.inl ⟨by kernel_rfl, ?hyCtt35⟩) hS ?restCtt35
            case hyCtt35 =>
              intro w hSw
              first | (go_simp; done) | (go_simp; with_reducible rfl)
            try simp only [Act.put, List.setIfInBounds_toArray, List.set_cons_zero, List.set_cons_succ]
            refine wpAnyH_take (i := 36) (v := ?vCtt36) rfl (by kernel_rfl) (by kernel_rfl) (by kernel_rfl) (fun _ _ _ h => h) (Or.inl ⟨by kernel_rfl, ?hyCtt36⟩) hS ?restCtt36
            case hyCtt36 =>
              intro w hSw
              have k0 := n3 w hSw
              first | (go_simp; done) | (go_simp; with_reducible rfl)
            try simp only [Act.put, List.setIfInBounds_toArray, List.set_cons_zero, List.set_cons_succ]
            refine wpAnyH_ready (rs := [37]) (by kernel_rfl) (by simp) ?_
            refine AllReadyH.cons rfl (fun K hK => ?_) AllReadyH.nil
            go_simp
            go_wp2_with ((go_at_call 60; refine (KM2.out _).mono ?_; rintro e w' ⟨rfl, rfl⟩))
            refine hK.out _ _ hS (fun _ => ?_)
            clear hK K
            refine wpAnyH_take (i := 38) (v := ?vCtt38) rfl (by kernel_rfl) (by kernel_rfl) (by kernel_rfl) (fun _ _ _ h => h) (Or.inl ⟨by kernel_rfl, ?hyCtt38⟩) hS ?restCtt38
            case hyCtt38 =>
              intro w hSw
              first | (go_simp; done) | (go_simp; with_reducible rfl)
            try simp only [Act.put, List.setIfInBounds_toArray, List.set_cons_zero, List.set_cons_succ]
            refine wpAnyH_take (i := 39) (v := ?vCtt39) rfl (by kernel_rfl) (by kernel_rfl) (by kernel_rfl) (fun _ _ _ h => h) (Or.inl ⟨by rfl, ?hyCtt39⟩) hS ?restCtt39
            case hyCtt39 =>
              intro w hSw
              first | (go_simp; done) | (go_simp; with_reducible rfl)
            try simp only [Act.put, List.setIfInBounds_toArray, List.set_cons_zero, List.set_cons_succ]
            refine wpAnyH_ready (rs := [40]) (by kernel_rfl) (by simp) ?_
            refine AllReadyH.cons rfl (fun K hK => ?_) AllReadyH.nil
            go_simp
            go_wp2_with ((go_at_call 51; refine (fwh_any _ _ _).mono ?_; rintro e w' ⟨rfl, rfl⟩))
            refine hK.out _ _ hS (fun _ => ?_)
            clear hK K
            refine wpAnyH_ready (rs := [41]) (by kernel_rfl) (by simp) ?_
            refine AllReadyH.cons rfl (fun K hK => ?_) AllReadyH.nil
            go_simp
            have hNv : v.ownBlock ≠ some w'.heap.size := fun h => Nat.lt_irrefl _ (hO.low h).2
            have hO := hO.alloc (.cells #[.int .i64 (wh (!ke) 5), .int .i64 (wh (!kt) 14), .int .i64 (wh (!kn) 15), .int .i64 (wh (!ma) 2)] errT)
            have hS := hS.on (bel_alloc _ (.cells #[.int .i64 (wh (!ke) 5), .int .i64 (wh (!kt) 14), .int .i64 (wh (!kn) 15), .int .i64 (wh (!ma) 2)] errT))
            refine hK.out _ _ hS (fun _ => ?_)
            clear hK K
            refine wpAnyH_ready (rs := [42]) (by kernel_rfl) (by simp) ?_
            refine AllReadyH.cons rfl (fun K hK => ?_) AllReadyH.nil
            go_simp
            go_wp2_with ((go_at_call 50; refine (fadd_any _ v _ _ w'.heap.size 4 4 [wh (!ke) 5, wh (!kt) 14, wh (!kn) 15, wh (!ma) 2] _ hO rfl (by omega) (errs_new w' _ rfl) hNv HFL.out).mono ?_; rintro e w8 ⟨v8, rfl, hO8, hC8⟩; have hS := hS.trans hC8.but (fun _ _ h => h)))
            refine hK.out _ _ hS (fun _ => ?_)
            clear hK K
            refine wpAnyH_take (i := 43) (v := ?vCtt43) rfl (by kernel_rfl) (by kernel_rfl) (by kernel_rfl) (fun _ _ _ h => h) (Or.inl ⟨by rfl, ?hyCtt43⟩) hS ?restCtt43
            case hyCtt43 =>
              intro w hSw
              first | (go_simp; done) | (go_simp; with_reducible rfl)
            try simp only [Act.put, List.setIfInBounds_toArray, List.set_cons_zero, List.set_cons_succ]
            refine wpAnyH_done (by kernel_rfl) ?_ _
            simp only [List.getElem_toArray, List.getElem_cons_succ, List.getElem_cons_zero, List.set_cons_zero, List.set_cons_succ]
            have HEr : Hid (lgEs p.l (lg.take k) x = [wh (!ke) 5, wh (!kt) 14, wh (!kn) 15, wh (!ma) 2]) := Lib.hid (by rw [HEq.out]; simp [wh])
            have HY : Hid (FOwn w5.heap.size w8 v8 (HF ++ lgsF p.l lg (k + 1)) ∧ SW w5 w8) := Lib.hid ⟨by rw [HTk.out, ← List.append_assoc, HEr.out]; exact hO8, HSW.out _ hS⟩
            clear hO8 hC8 hS hO
            go_wp2
            go_roundg (lg.length - (k + 1))
            case measure => have := HKX.out; omega
            case rel => exact ⟨_, k + 1, rfl, by go_num, by omega, HY⟩
      · have hk : k = lg.length := by omega
        have hO := HH.out.1
        have hSr : SW w5 wr := HH.out.2
        rw [hk] at hO
        clear HH hkx
        obtain ⟨A', c', rfl, hvc⟩ := id (hO.rowL rtF.len)
        have HO2 := Lib.hid hO
        have hSw : Below w.heap.size w wr := hb0.trans (Below.mono hSr hb0.size)
        have z0 := F.out.1 _ hSr
        have z1 := F.out.2.1 _ hSr
        have z2 := F.out.2.2.1 _ hSr
        have z3 := F.out.2.2.2.1 _ hSr
        have z4 := F.out.2.2.2.2 _ hSr
        have z5 := F5.out _ hSr
        have y0 := Y0.out _ hSr
        have y1 := Y1.out _ hSr
        have HK := Lib.hid hk
        have HKL : Hid ((k : Int) = (lg.length : Int)) := Lib.hid (by rw [hk])
        have i1 : ¬ (k : Int) < (lg.length : Int) := by omega
        clear hvc hO hk
        by_cases h0 : (HF ++ lgsF p.l lg lg.length).length = 0
        · have i2 : ¬ (0 : Int) < ((HF ++ lgsF p.l lg lg.length).length : Int) := by omega
          have KC2 := Lib.hid (KT2.out h0 wr hSw)
          have HR2 : Hid (CF = TF) := Lib.hid (by rw [HR.out, if_pos h0])
          clear h0 HO2 HR
          generalize (HF ++ lgsF p.l lg lg.length).length = nn at *
          go_wp2_with (go_at_call 61; refine KC2.out.mono ?_; rintro e w9 ⟨v9, rfl, hO9, hb9⟩)
          go_ret
          exact ⟨v9, rfl, by rw [HR2.out]; exact ⟨hO9.own.mono hSw.size, Nat.le_trans hSw.size hO9.base⟩, hSw.trans (hb9.mono hSw.size)⟩
        · have i2 : (0 : Int) < ((HF ++ lgsF p.l lg lg.length).length : Int) := by omega
          have HR2 : Hid (CF = HF ++ lgsF p.l lg lg.length) := Lib.hid (by rw [HR.out, if_neg h0])
          have HZ : Hid (FOwn w.heap.size wr (.slice A' (HF ++ lgsF p.l lg lg.length).length c') CF ∧ Below w.heap.size w wr) := Lib.hid ⟨by rw [HR2.out]; exact ⟨HO2.out.own.mono hb0.size, Nat.le_trans hb0.size HO2.out.base⟩, hSw⟩
          clear h0 HO2 HR HR2
          generalize (HF ++ lgsF p.l lg lg.length).length = nn at *
          go_wp2
          go_ret
          exact ⟨_, rfl, HZ.out⟩

end Go.Proofs.YtfgmlbmjjihhfaaGreatDoor

/- Walk of checkPrint. -/
namespace Go.Proofs.YtfgmlbmjjihhfaaGreatDoor
open Go.RowKit Go.Shelf
set_option linter.unusedSimpArgs false
set_option linter.unusedVariables false

def namB (x : Lg) : Bool := capsB x.f 3 && (capsB x.t 3 && codeB x.eq 3 3)
def timB (x : Lg) : Bool := minB x.dep && minB x.arr
def lgE : List Lg → Int
  | [] => 0
  | x :: r => if namB x = true then (if timB x = true then lgE r else 2) else 5
def prE (f : FV) : Int := if carB f.car = true then (if numB f.num = true then (if Per.errQ (f.pf, f.pt, f.pd) = 0 then (if cntB f.lg.length = true then lgE f.lg else 4) else Per.errQ (f.pf, f.pt, f.pd)) else 2) else 5
theorem lgE_at {l : List Lg} {k : Nat} {x : Lg} (h : l[k]? = some x) : lgE (l.drop k) = if namB x = true then (if timB x = true then lgE (l.drop (k + 1)) else 2) else 5 := by
  obtain ⟨hlt, rfl⟩ := List.getElem?_eq_some_iff.1 h
  rw [List.drop_eq_getElem_cons hlt]
  rfl

set_option maxRecDepth 100000 in
set_option maxHeartbeats 8000000 in
theorem checkPrint_any (f : FV) (w : World) (hG : LegL w (.slice f.A f.lg.length f.c) f.lg) (hc0 : f.car.size ≤ maxLen) (ho : ∀ x ∈ f.lg, OkG x) (hn : f.lg.length ≤ 1000000) :
    Calls Tryz.prog 79 #[encFl f] w fun e w' => e = .returned (.int .i64 (prE f)) ∧ Below w.heap.size w w' := by
  obtain ⟨car, num, pf, pt, pd, A, c, lg⟩ := f
  dsimp only at *
  obtain ⟨E0, hE0⟩ : ∃ E0, E0 = prE ⟨car, num, pf, pt, pd, A, c, lg⟩ := ⟨_, rfl⟩
  have HE := Lib.hid hE0
  rw [← hE0]
  clear hE0
  have hb0 := bel_alloc w (.cells #[.string car, .int .i64 num, .int .i64 pf, .int .i64 pt, .int .i64 pd, .slice A lg.length c] fliT)
  have q5 := (cells_new w #[.string car, .int .i64 num, .int .i64 pf, .int .i64 pt, .int .i64 pd, .slice A lg.length c] fliT 5).trans (show _ = some (Value.slice A lg.length c) from rfl)
  have hG5 := hG.more hb0
  have HO := Lib.hid ho
  have KC := Lib.hid (fun w => carrier_any car w hc0)
  have KN := Lib.hid (isNumber7_any num)
  have KP := Lib.hid (Per.check_any pf pt pd)
  have KL := Lib.hid (isLegCount_any lg.length)
  clear hG ho
  cases h1 : carB car with
  | false =>
    rw [h1] at KC
    have HR : Hid (E0 = 5) := Lib.hid (by rw [HE.out]; unfold prE; dsimp only; rw [if_neg (by rw [h1]; simp)])
    clear h1
    go_enter Tryz.func79, Tryz.ntmps79
    go_wp2_with (go_at_call 52; refine (KC.out _).mono ?_; rintro e w1 ⟨rfl, rfl⟩)
    go_ret
    exact ⟨by rw [HR.out]; rfl, hb0⟩
  | true =>
  rw [h1] at KC
  cases h2 : numB num with
  | false =>
    rw [h2] at KN
    have HR : Hid (E0 = 2) := Lib.hid (by rw [HE.out]; unfold prE; dsimp only; rw [if_pos h1, if_neg (by rw [h2]; simp)])
    clear h1 h2
    go_enter Tryz.func79, Tryz.ntmps79
    go_wp2_with (first | (go_at_call 53; refine (KN.out _).mono ?_; rintro e w2 ⟨rfl, rfl⟩) | (go_at_call 52; refine (KC.out _).mono ?_; rintro e w1 ⟨rfl, rfl⟩))
    go_ret
    exact ⟨by rw [HR.out]; rfl, hb0⟩
  | true =>
  rw [h2] at KN
  obtain ⟨eq, hq⟩ : ∃ eq, eq = Per.errQ (pf, pt, pd) := ⟨_, rfl⟩
  rw [← hq] at KP
  cases h3 : (eq != 0) with
  | true =>
    have HR : Hid (E0 = eq) := Lib.hid (by rw [HE.out]; unfold prE; dsimp only; rw [if_pos h1, if_pos h2, ← hq, if_neg (by simpa using h3)])
    clear h1 h2 hq
    go_enter Tryz.func79, Tryz.ntmps79
    go_wp2_with (first | (go_at_call 54; refine (KP.out _).mono ?_; rintro e w3 ⟨rfl, hb3⟩) | (go_at_call 53; refine (KN.out _).mono ?_; rintro e w2 ⟨rfl, rfl⟩) | (go_at_call 52; refine (KC.out _).mono ?_; rintro e w1 ⟨rfl, rfl⟩))
    go_ret
    exact ⟨by rw [HR.out]; rfl, hb0.trans (Below.mono hb3 hb0.size)⟩
  | false =>
  have h3' : eq = 0 := by simpa using h3
  cases h4 : cntB lg.length with
  | false =>
    rw [h4] at KL
    have HR : Hid (E0 = 4) := Lib.hid (by rw [HE.out]; unfold prE; dsimp only; rw [if_pos h1, if_pos h2, ← hq, if_pos h3', if_neg (by rw [h4]; simp)])
    clear h1 h2 hq h3' h4
    go_enter Tryz.func79, Tryz.ntmps79
    go_wp2_with (first | (go_at_call 55; refine (KL.out _).mono ?_; rintro e w4 ⟨rfl, rfl⟩) | (go_at_call 54; refine (KP.out _).mono ?_; rintro e w3 ⟨rfl, hb3⟩; have r5 := bel_cell hb3 q5) | (go_at_call 53; refine (KN.out _).mono ?_; rintro e w2 ⟨rfl, rfl⟩) | (go_at_call 52; refine (KC.out _).mono ?_; rintro e w1 ⟨rfl, rfl⟩))
    go_ret
    exact ⟨by rw [HR.out]; rfl, hb0.trans (Below.mono hb3 hb0.size)⟩
  | true =>
  rw [h4] at KL
  have HT : Hid (E0 = lgE lg) := Lib.hid (by rw [HE.out]; unfold prE; dsimp only; rw [if_pos h1, if_pos h2, ← hq, if_pos h3', if_pos h4])
  clear h1 h2 hq h3' h4
  have HQ := Lib.hid hG5
  clear hG5
  go_enter Tryz.func79, Tryz.ntmps79
  go_wp2_with (first | (go_at_call 55; refine (KL.out _).mono ?_; rintro e w4 ⟨rfl, rfl⟩) | (go_at_call 54; refine (KP.out _).mono ?_; rintro e w3 ⟨rfl, hb3⟩; have r5 := bel_cell hb3 q5) | (go_at_call 53; refine (KN.out _).mono ?_; rintro e w2 ⟨rfl, rfl⟩) | (go_at_call 52; refine (KC.out _).mono ?_; rintro e w1 ⟨rfl, rfl⟩))
  have hS0 : Below w.heap.size w w3 := hb0.trans (Below.mono hb3 hb0.size)
  have HG3 := Lib.hid (HQ.out.more hb3)
  clear HE
  go_loopw [28] (fun vi wr => ∃ k : Nat, k ≤ lg.length ∧ vi = .int .i64 k ∧ Hid (E0 = lgE (lg.drop k)) ∧ SW w3 wr) (fun vi _ => lg.length - (intOf vi).toNat)
  case atStart => exact ⟨0, Nat.zero_le _, rfl, HT, Below.refl _ _⟩
  case round =>
    obtain ⟨k, hk, rfl, HK, hS⟩ := hrel
    have hSw : Below w.heap.size w wr := hS0.trans (Below.mono hS hS0.size)
    by_cases hlt : k < lg.length
    · obtain ⟨b, o, x, rfl, _, hx, c0, c1, c2, c3, c4⟩ := LegL.get (HG3.out.more hS) hlt
      have hox := HO.out x (List.mem_of_getElem? hx)
      have HK2 := Lib.hid (HK.out.trans (lgE_at hx))
      have i2 : (k : Int) < (lg.length : Int) := by omega
      have hb6 := bel_alloc wr (.cells #[.string x.f, .string x.t, .int .i64 x.dep, .int .i64 x.arr, .string x.eq] legT)
      have hSx : Below w.heap.size w (wr.alloc (.cells #[.string x.f, .string x.t, .int .i64 x.dep, .int .i64 x.arr, .string x.eq] legT)) := hSw.trans (hb6.mono hSw.size)
      have hSy : SW w3 (wr.alloc (.cells #[.string x.f, .string x.t, .int .i64 x.dep, .int .i64 x.arr, .string x.eq] legT)) := Below.trans hS (hb6.mono hS.size)
      have K1 := Lib.hid (fun w => airp_any x.f w hox.f)
      have K2 := Lib.hid (fun w => airp_any x.t w hox.t)
      have K3 := Lib.hid (fun w => isEquip_any x.eq w hox.eq)
      have K4 := Lib.hid (isMinute_any x.dep)
      have K5 := Lib.hid (isMinute_any x.arr)
      clear hx hox
      cases b1 : capsB x.f 3 with
      | false =>
        rw [b1] at K1
        have HR : Hid (E0 = 5) := Lib.hid (by rw [HK2.out]; unfold namB timB; simp [b1])
        clear HK2 HK b1
        go_wp2_with (first | (go_at_call 135; with_reducible refine (K1.out _).mono ?_; rintro e w' ⟨rfl, rfl⟩))
        go_ret
        exact ⟨by rw [HR.out]; rfl, hSx⟩
      | true =>
        rw [b1] at K1
        cases b2 : capsB x.t 3 with
        | false =>
          rw [b2] at K2
          have HR : Hid (E0 = 5) := Lib.hid (by rw [HK2.out]; unfold namB timB; simp [b1, b2])
          clear HK2 HK b1 b2
          go_wp2_with (first | (go_at_call 135; with_reducible refine (K1.out _).mono ?_; rintro e w' ⟨rfl, rfl⟩) | (go_at_call 135; with_reducible refine (K2.out _).mono ?_; rintro e w' ⟨rfl, rfl⟩))
          go_ret
          exact ⟨by rw [HR.out]; rfl, hSx⟩
        | true =>
          rw [b2] at K2
          cases b3 : codeB x.eq 3 3 with
          | false =>
            rw [b3] at K3
            have HR : Hid (E0 = 5) := Lib.hid (by rw [HK2.out]; unfold namB timB; simp [b1, b2, b3])
            clear HK2 HK b1 b2 b3
            go_wp2_with (first | (go_at_call 135; with_reducible refine (K1.out _).mono ?_; rintro e w' ⟨rfl, rfl⟩) | (go_at_call 135; with_reducible refine (K2.out _).mono ?_; rintro e w' ⟨rfl, rfl⟩) | (go_at_call 57; refine (K3.out _).mono ?_; rintro e w' ⟨rfl, rfl⟩))
            go_ret
            exact ⟨by rw [HR.out]; rfl, hSx⟩
          | true =>
            rw [b3] at K3
            cases b4 : minB x.dep with
            | false =>
              rw [b4] at K4
              have HR : Hid (E0 = 2) := Lib.hid (by rw [HK2.out]; unfold namB timB; simp [b1, b2, b3, b4])
              clear HK2 HK b1 b2 b3 b4
              go_wp2_with (first | (go_at_call 135; with_reducible refine (K1.out _).mono ?_; rintro e w' ⟨rfl, rfl⟩) | (go_at_call 135; with_reducible refine (K2.out _).mono ?_; rintro e w' ⟨rfl, rfl⟩) | (go_at_call 57; refine (K3.out _).mono ?_; rintro e w' ⟨rfl, rfl⟩) | (go_at_call 60; with_reducible refine (K4.out _).mono ?_; rintro e w' ⟨rfl, rfl⟩))
              go_ret
              exact ⟨by rw [HR.out]; rfl, hSx⟩
            | true =>
              rw [b4] at K4
              cases b5 : minB x.arr with
              | false =>
                rw [b5] at K5
                have HR : Hid (E0 = 2) := Lib.hid (by rw [HK2.out]; unfold namB timB; simp [b1, b2, b3, b4, b5])
                clear HK2 HK b1 b2 b3 b4 b5
                go_wp2_with (first | (go_at_call 135; with_reducible refine (K1.out _).mono ?_; rintro e w' ⟨rfl, rfl⟩) | (go_at_call 135; with_reducible refine (K2.out _).mono ?_; rintro e w' ⟨rfl, rfl⟩) | (go_at_call 57; refine (K3.out _).mono ?_; rintro e w' ⟨rfl, rfl⟩) | (go_at_call 60; with_reducible refine (K4.out _).mono ?_; rintro e w' ⟨rfl, rfl⟩) | (go_at_call 60; with_reducible refine (K5.out _).mono ?_; rintro e w' ⟨rfl, rfl⟩))
                go_ret
                exact ⟨by rw [HR.out]; rfl, hSx⟩
              | true =>
                rw [b5] at K5
                have HR : Hid (E0 = lgE (lg.drop (k + 1))) := Lib.hid (by rw [HK2.out]; unfold namB timB; simp [b1, b2, b3, b4, b5])
                clear HK2 HK b1 b2 b3 b4 b5
                go_wp2_with (first | (go_at_call 135; with_reducible refine (K1.out _).mono ?_; rintro e w' ⟨rfl, rfl⟩) | (go_at_call 135; with_reducible refine (K2.out _).mono ?_; rintro e w' ⟨rfl, rfl⟩) | (go_at_call 57; refine (K3.out _).mono ?_; rintro e w' ⟨rfl, rfl⟩) | (go_at_call 60; with_reducible refine (K4.out _).mono ?_; rintro e w' ⟨rfl, rfl⟩) | (go_at_call 60; with_reducible refine (K5.out _).mono ?_; rintro e w' ⟨rfl, rfl⟩))
                go_roundw
                case rel => exact ⟨k + 1, by omega, by go_num, HR, hSy⟩
                case measure => simp [intOf]; omega
    · have HR : Hid (E0 = 0) := Lib.hid (by rw [HK.out, List.drop_of_length_le (by omega)]; rfl)
      go_wp2
      go_ret
      exact ⟨by rw [HR.out]; rfl, hSw⟩

end Go.Proofs.YtfgmlbmjjihhfaaGreatDoor
