/- Like and the reference's Like; Small. -/
import Derived.Test.YtkghpapbifijcaaGreatDoorCabL
import Derived.Deep.LoopGhost
import Derived.Deep.CutRange
import Derived.Deep.CutBlock
namespace Go.Proofs.YtkghpapbifijcaaGreatDoor
open Go.RowKit Go.Shelf
set_option linter.unusedSimpArgs false
set_option linter.unusedVariables false

theorem plF_in : ∀ (l : List Cb) (s : ByteArray) (i k : Int), plF l s = some (i, k) → 0 ≤ i ∧ i < (l.length : Int) ∧ 0 ≤ k
  | [], s, i, k, h => by cases h
  | b :: r, s, i, k, h => by
    rw [plF] at h
    split at h
    · rename_i h0
      simp only [Option.some.injEq, Prod.mk.injEq] at h
      obtain ⟨rfl, rfl⟩ := h
      exact ⟨Int.le_refl _, by simp only [List.length_cons]; omega, h0⟩
    · cases hr : plF r s with
      | none => rw [hr] at h; cases h
      | some p =>
        rw [hr] at h
        simp only [Option.map_some, Option.some.injEq, Prod.mk.injEq] at h
        obtain ⟨rfl, rfl⟩ := h
        have := plF_in r s p.1 p.2 hr
        exact ⟨by omega, by simp only [List.length_cons]; omega, this.2.2⟩
theorem pl_in {l : List Cb} {s : ByteArray} (h : plB l s = true) : 0 ≤ plI l s ∧ plI l s < (l.length : Int) := by
  unfold plB at h
  cases hp : plF l s with
  | none => rw [hp] at h; cases h
  | some p =>
    obtain ⟨h1, h2, _⟩ := pl_yes (l := l) (s := s) (i := p.1) (k := p.2) hp
    have := plF_in l s p.1 p.2 hp
    rw [h1]; exact ⟨this.1, this.2.1⟩
/-- the classes among which the place of a class is taken -/
def lkC (la lb : List Cb) (s : ByteArray) : List Cl := match lb[(min (plI la s) ((lb.length : Int) - 1)).toNat]? with
  | some b => b.l
  | none => []
def lkR (la lb : List Cb) (s : ByteArray) : ByteArray × Bool :=
  if plB la s = true ∧ 0 < lb.length then (if plB lb s = true then (s, true) else if 0 < (lkC la lb s).length then (((lkC la lb s).getLast?.map Cl.code).getD noB, true) else (noB, false)) else (noB, false)
theorem last_at {l : List Cl} {n : Nat} (h : l.length = n + 1) : ∃ x, l[n]? = some x ∧ (l.getLast?.map Cl.code).getD noB = x.code := by
  obtain ⟨x, hx⟩ : ∃ x, l[n]? = some x := ⟨_, List.getElem?_eq_getElem (by omega)⟩
  refine ⟨x, hx, ?_⟩
  rw [List.getLast?_eq_getElem?, h, Nat.add_sub_cancel, hx]
  rfl

set_option maxRecDepth 100000 in
set_option maxHeartbeats 8000000 in
theorem like_any (ea eb : ByteArray) (A B : Option Addr) (ca cb : Nat) (la lb : List Cb) (s : ByteArray) (w : World) (ha : CbL w (.slice A la.length ca) la) (hb : CbL w (.slice B lb.length cb) lb) (na : la.length ≤ 8) (nb : lb.length ≤ 8) (oa : ∀ b ∈ la, b.l.length ≤ 30) (ob : ∀ b ∈ lb, b.l.length ≤ 30) :
    Calls Tryz.prog 71 #[.agg #[.string ea, .slice A la.length ca], .agg #[.string eb, .slice B lb.length cb], .string s] w fun e w' => e = .returned (.tuple #[.string (lkR la lb s).1, .bool (lkR la lb s).2]) ∧ Below w.heap.size w w' := by
  have hbA := bel_alloc w (.cells #[.string ea, .slice A la.length ca] cfT)
  have hbB := bel_alloc (w.alloc (.cells #[.string ea, .slice A la.length ca] cfT)) (.cells #[.string eb, .slice B lb.length cb] cfT)
  have hb0 := hbA.trans (hbB.mono hbA.size)
  have p0 := bel_cell hbB ((cells_new w #[.string ea, .slice A la.length ca] cfT 0).trans (show _ = some (Value.string ea) from rfl))
  have p1 := bel_cell hbB ((cells_new w #[.string ea, .slice A la.length ca] cfT 1).trans (show _ = some (Value.slice A la.length ca) from rfl))
  have q0 := (cells_new (w.alloc (.cells #[.string ea, .slice A la.length ca] cfT)) #[.string eb, .slice B lb.length cb] cfT 0).trans (show _ = some (Value.string eb) from rfl)
  have q1 := (cells_new (w.alloc (.cells #[.string ea, .slice A la.length ca] cfT)) #[.string eb, .slice B lb.length cb] cfT 1).trans (show _ = some (Value.slice B lb.length cb) from rfl)
  rw [World.size_alloc] at q0 q1
  obtain ⟨Z, hZ⟩ : ∃ Z, Z = w.heap.size := ⟨_, rfl⟩
  rw [← hZ] at p0 p1 q0 q1
  have HA := Lib.hid (ha.more hb0)
  have HBb := Lib.hid (hb.more hb0)
  clear ha hb
  have KI := Lib.hid (fun h => pl_in (l := la) (s := s) h)
  obtain ⟨R, hR⟩ : ∃ R, R = lkR la lb s := ⟨_, rfl⟩
  rw [← hR]
  have HR := Lib.hid hR
  clear hR
  go_enter Tryz.func71, Tryz.ntmps71
  go_upto_region 1 with fail
  rw [← hZ]
  have HB5 := Lib.hid hb0
  generalize (w.alloc (.cells #[.string ea, .slice A la.length ca] cfT)).alloc (.cells #[.string eb, .slice B lb.length cb] cfT) = w5 at *
  clear hb0 hbA hbB hZ
  have Q0 := Lib.hid (fun W (h : SW w5 W) => bel_get q0 _ h)
  have Q1 := Lib.hid (fun W (h : SW w5 W) => bel_get q1 _ h)
  have KPa := Lib.hid (place_any ea A ca la s w5 HA.out na oa)
  have KPb : Hid (∀ W, SW w5 W → Calls Tryz.prog 72 #[.agg #[.string eb, .slice B lb.length cb], .string s] W fun e w' => e = .returned (.tuple #[.int .i64 (plI lb s), .int .i64 (plK lb s), .bool (plB lb s)]) ∧ SW w5 w') := Lib.hid (fun W h => (place_any eb B cb lb s W (HBb.out.more h) nb ob).mono (by rintro e w' ⟨rfl, hb⟩; exact ⟨rfl, Below.trans h (Below.mono hb h.size)⟩))
  clear q0 q1
  cases ha : plB la s with
  | false =>
    rw [ha] at KPa
    have HX : Hid (R = (noB, false)) := Lib.hid (by rw [HR.out]; unfold lkR; rw [if_neg (by rw [ha]; simp)])
    clear ha
    go_wp2_with (go_at_call 72; with_reducible refine KPa.out.mono ?_; rintro e w6 ⟨rfl, hb6⟩)
    refine bodyPost_ret (results_tmp2 rfl _ _ _) rfl ⟨by rw [HX.out]; rfl, HB5.out.trans (Below.mono hb6 HB5.out.size)⟩
  | true =>
  rw [ha] at KPa
  have HPL := Lib.hid (KI.out ha)
  have HAA := Lib.hid ha
  clear ha KI
  go_upto_region 2 with (go_at_call 72; with_reducible refine KPa.out.mono ?_; rintro e w6 ⟨rfl, hb6⟩)
  have HS6 : Hid (SW w5 w6) := Lib.hid hb6
  have q1 := Q1.out _ hb6
  have q0 := Q0.out _ hb6
  clear hb6 p0 p1 KPa
  by_cases hl0 : lb.length = 0
  · have HX : Hid (R = (noB, false)) := Lib.hid (by rw [HR.out]; unfold lkR; rw [if_neg (by intro h; omega)])
    have g0 : ((lb.length : Int) == 0) = true := by rw [beq_iff_eq]; omega
    clear hl0
    go_wp2
    refine bodyPost_ret (results_tmp2 rfl _ _ _) rfl ⟨by rw [HX.out]; rfl, HB5.out.trans (Below.mono HS6.out HB5.out.size)⟩
  have g0 : ((lb.length : Int) == 0) = false := by rw [beq_eq_false_iff_ne]; omega
  go_upto_if 29 with fail
  cases hbp : plB lb s with
  | true =>
    rw [hbp] at KPb
    have HX : Hid (R = (s, true)) := Lib.hid (by rw [HR.out]; unfold lkR; rw [if_pos ⟨HAA.out, by omega⟩, if_pos hbp])
    clear hbp
    go_wp2_with (go_at_call 72; with_reducible refine (KPb.out _ HS6.out).mono ?_; rintro e w7 ⟨rfl, hS7⟩)
    refine bodyPost_ret (results_tmp2 rfl _ _ _) rfl ⟨by rw [HX.out]; rfl, HB5.out.trans (Below.mono hS7 HB5.out.size)⟩
  | false =>
    rw [hbp] at KPb
    obtain ⟨pi, hpi⟩ : ∃ pi, pi = plI la s := ⟨_, rfl⟩
    have hp2 := HPL.out
    rw [← hpi] at hp2
    obtain ⟨n, hn⟩ : ∃ n, n = lb.length := ⟨_, rfl⟩
    have HN := Lib.hid hn
    rw [← hn] at nb hl0 q1 KPb g0 ⊢
    obtain ⟨mi, hmi⟩ : ∃ mi : Nat, min pi ((n : Int) - 1) = (mi : Int) := ⟨(min pi ((n : Int) - 1)).toNat, by omega⟩
    have hml : mi < n := by omega
    obtain ⟨b, hb⟩ : ∃ b, lb[mi]? = some b := ⟨_, List.getElem?_eq_getElem (by omega)⟩
    have HC : Hid (lkC la lb s = b.l) := Lib.hid (by unfold lkC; rw [← hpi, ← hn, hmi, Int.toNat_natCast, hb])
    have HX : Hid (R = if 0 < b.l.length then ((b.l.getLast?.map Cl.code).getD noB, true) else (noB, false)) := Lib.hid (by rw [HR.out]; unfold lkR; rw [if_pos ⟨HAA.out, by omega⟩, if_neg (by rw [hbp]; simp), HC.out])
    have w1 : IntKind.i64.wrap ((n : Int) - 1) = (n : Int) - 1 := by rw [IntKind.wrap_i64]; omega
    have i1 : (mi : Int) < (n : Int) := by omega
    have HBE := Lib.hid hb
    have hlb := ob b (List.mem_of_getElem? hb)
    rw [← hpi]
    clear hbp hn hb hp2 hpi HC
    go_upto_region 7 with (go_at_call 72; with_reducible refine (KPb.out _ HS6.out).mono ?_; rintro e w7 ⟨rfl, hS7⟩)
    have q1 := Q1.out _ hS7
    rw [← HN.out] at q1
    obtain ⟨b1, o1, e1, hgl, hc⟩ := row_get (HBb.out.more hS7).1 HBE.out
    rw [e1] at q1
    have z3 := hc 3 _ rfl
    have HS7 := Lib.hid hS7
    by_cases hc0 : b.l.length = 0
    · have HX2 : Hid (R = (noB, false)) := Lib.hid (by rw [HX.out, if_neg (by omega)])
      have g1 : ((b.l.length : Int) == 0) = true := by rw [beq_iff_eq]; omega
      clear hc e1 hgl hS7 hc0
      go_wp2
      refine bodyPost_ret (results_tmp2 rfl _ _ _) rfl ⟨by rw [HX2.out]; rfl, HB5.out.trans (Below.mono HS7.out HB5.out.size)⟩
    · obtain ⟨m, hm⟩ : ∃ m, b.l.length = m + 1 := ⟨b.l.length - 1, by omega⟩
      obtain ⟨x, hx, hlast⟩ := last_at hm
      have HX2 : Hid (R = (x.code, true)) := Lib.hid (by rw [HX.out, if_pos (by omega), hlast])
      obtain ⟨b2, o2, e2, hg2, hc2⟩ := row_get ((HBb.out.more hS7).2 b (List.mem_of_getElem? HBE.out)) hx
      rw [e2, hm] at z3
      have x0 := hc2 0 _ rfl
      rw [Nat.add_zero] at x0
      have g1 : (((m + 1 : Nat) : Int) == 0) = false := by rw [beq_eq_false_iff_ne]; omega
      have hm30 : m < 30 := by omega
      have w2 : IntKind.i64.wrap (m : Int) = (m : Int) := IntWalk.i64_in _ (by omega)
      have w3 : IntKind.i64.wrap (((m + 1 : Nat) : Int) - 1) = (m : Int) := by rw [IntKind.wrap_i64]; omega
      clear hc e1 hgl hS7 hc0 hlast hx hc2 e2 hg2
      go_wp2
      refine bodyPost_ret (results_tmp2 rfl _ _ _) rfl ⟨by rw [HX2.out]; rfl, HB5.out.trans (Below.mono HS7.out HB5.out.size)⟩

set_option maxRecDepth 100000 in
set_option maxHeartbeats 8000000 in
theorem rlike_any (ea eb : ByteArray) (A B : Option Addr) (ca cb : Nat) (la lb : List Cb) (s : ByteArray) (w : World) (ha : CbL w (.slice A la.length ca) la) (hb : CbL w (.slice B lb.length cb) lb) (na : la.length ≤ 8) (nb : lb.length ≤ 8) (oa : ∀ b ∈ la, b.l.length ≤ 30) (ob : ∀ b ∈ lb, b.l.length ≤ 30) :
    Calls Tryz.prog 99 #[.agg #[.string ea, .slice A la.length ca], .agg #[.string eb, .slice B lb.length cb], .string s] w fun e w' => e = .returned (.tuple #[.string (lkR la lb s).1, .bool (lkR la lb s).2]) ∧ Below w.heap.size w w' := by
  have hbA := bel_alloc w (.cells #[.string ea, .slice A la.length ca] cfT)
  have hbB := bel_alloc (w.alloc (.cells #[.string ea, .slice A la.length ca] cfT)) (.cells #[.string eb, .slice B lb.length cb] cfT)
  have hb0 := hbA.trans (hbB.mono hbA.size)
  have p0 := bel_cell hbB ((cells_new w #[.string ea, .slice A la.length ca] cfT 0).trans (show _ = some (Value.string ea) from rfl))
  have p1 := bel_cell hbB ((cells_new w #[.string ea, .slice A la.length ca] cfT 1).trans (show _ = some (Value.slice A la.length ca) from rfl))
  have q0 := (cells_new (w.alloc (.cells #[.string ea, .slice A la.length ca] cfT)) #[.string eb, .slice B lb.length cb] cfT 0).trans (show _ = some (Value.string eb) from rfl)
  have q1 := (cells_new (w.alloc (.cells #[.string ea, .slice A la.length ca] cfT)) #[.string eb, .slice B lb.length cb] cfT 1).trans (show _ = some (Value.slice B lb.length cb) from rfl)
  rw [World.size_alloc] at q0 q1
  obtain ⟨Z, hZ⟩ : ∃ Z, Z = w.heap.size := ⟨_, rfl⟩
  rw [← hZ] at p0 p1 q0 q1
  have HA := Lib.hid (ha.more hb0)
  have HBb := Lib.hid (hb.more hb0)
  clear ha hb
  have KI := Lib.hid (fun h => pl_in (l := la) (s := s) h)
  obtain ⟨R, hR⟩ : ∃ R, R = lkR la lb s := ⟨_, rfl⟩
  rw [← hR]
  have HR := Lib.hid hR
  clear hR
  go_enter Tryz.func99, Tryz.ntmps99
  go_upto_region 1 with fail
  rw [← hZ]
  have HB5 := Lib.hid hb0
  generalize (w.alloc (.cells #[.string ea, .slice A la.length ca] cfT)).alloc (.cells #[.string eb, .slice B lb.length cb] cfT) = w5 at *
  clear hb0 hbA hbB hZ
  have Q0 := Lib.hid (fun W (h : SW w5 W) => bel_get q0 _ h)
  have Q1 := Lib.hid (fun W (h : SW w5 W) => bel_get q1 _ h)
  have KPa := Lib.hid (rplace12_any ea A ca la s w5 HA.out na oa)
  have KPb : Hid (∀ W, SW w5 W → Calls Tryz.prog 97 #[.agg #[.string eb, .slice B lb.length cb], .string s] W fun e w' => e = .returned (.tuple #[.int .i64 (plI lb s), .int .i64 (plK lb s), .bool (plB lb s)]) ∧ SW w5 w') := Lib.hid (fun W h => (rplace12_any eb B cb lb s W (HBb.out.more h) nb ob).mono (by rintro e w' ⟨rfl, hb⟩; exact ⟨rfl, Below.trans h (Below.mono hb h.size)⟩))
  clear q0 q1
  cases ha : plB la s with
  | false =>
    rw [ha] at KPa
    have HX : Hid (R = (noB, false)) := Lib.hid (by rw [HR.out]; unfold lkR; rw [if_neg (by rw [ha]; simp)])
    clear ha
    go_wp2_with (go_at_call 97; with_reducible refine KPa.out.mono ?_; rintro e w6 ⟨rfl, hb6⟩)
    refine bodyPost_ret (results_tmp2 rfl _ _ _) rfl ⟨by rw [HX.out]; rfl, HB5.out.trans (Below.mono hb6 HB5.out.size)⟩
  | true =>
  rw [ha] at KPa
  have HPL := Lib.hid (KI.out ha)
  have HAA := Lib.hid ha
  clear ha KI
  go_upto_region 2 with (go_at_call 97; with_reducible refine KPa.out.mono ?_; rintro e w6 ⟨rfl, hb6⟩)
  have HS6 : Hid (SW w5 w6) := Lib.hid hb6
  have q1 := Q1.out _ hb6
  have q0 := Q0.out _ hb6
  clear hb6 p0 p1 KPa
  by_cases hl0 : lb.length = 0
  · have HX : Hid (R = (noB, false)) := Lib.hid (by rw [HR.out]; unfold lkR; rw [if_neg (by intro h; omega)])
    have g0 : ((lb.length : Int) == 0) = true := by rw [beq_iff_eq]; omega
    clear hl0
    go_wp2
    refine bodyPost_ret (results_tmp2 rfl _ _ _) rfl ⟨by rw [HX.out]; rfl, HB5.out.trans (Below.mono HS6.out HB5.out.size)⟩
  have g0 : ((lb.length : Int) == 0) = false := by rw [beq_eq_false_iff_ne]; omega
  go_upto_if 26 with fail
  cases hbp : plB lb s with
  | true =>
    rw [hbp] at KPb
    have HX : Hid (R = (s, true)) := Lib.hid (by rw [HR.out]; unfold lkR; rw [if_pos ⟨HAA.out, by omega⟩, if_pos hbp])
    clear hbp
    go_wp2_with (go_at_call 97; with_reducible refine (KPb.out _ HS6.out).mono ?_; rintro e w7 ⟨rfl, hS7⟩)
    refine bodyPost_ret (results_tmp2 rfl _ _ _) rfl ⟨by rw [HX.out]; rfl, HB5.out.trans (Below.mono hS7 HB5.out.size)⟩
  | false =>
    rw [hbp] at KPb
    obtain ⟨pi, hpi⟩ : ∃ pi, pi = plI la s := ⟨_, rfl⟩
    have hp2 := HPL.out
    rw [← hpi] at hp2
    obtain ⟨n, hn⟩ : ∃ n, n = lb.length := ⟨_, rfl⟩
    have HN := Lib.hid hn
    rw [← hn] at nb hl0 q1 KPb g0 ⊢
    obtain ⟨mi, hmi⟩ : ∃ mi : Nat, min pi ((n : Int) - 1) = (mi : Int) := ⟨(min pi ((n : Int) - 1)).toNat, by omega⟩
    have hml : mi < n := by omega
    obtain ⟨b, hb⟩ : ∃ b, lb[mi]? = some b := ⟨_, List.getElem?_eq_getElem (by omega)⟩
    have HC : Hid (lkC la lb s = b.l) := Lib.hid (by unfold lkC; rw [← hpi, ← hn, hmi, Int.toNat_natCast, hb])
    have HX : Hid (R = if 0 < b.l.length then ((b.l.getLast?.map Cl.code).getD noB, true) else (noB, false)) := Lib.hid (by rw [HR.out]; unfold lkR; rw [if_pos ⟨HAA.out, by omega⟩, if_neg (by rw [hbp]; simp), HC.out])
    have w1 : IntKind.i64.wrap ((n : Int) - 1) = (n : Int) - 1 := by rw [IntKind.wrap_i64]; omega
    have i1 : (mi : Int) < (n : Int) := by omega
    have HBE := Lib.hid hb
    have hlb := ob b (List.mem_of_getElem? hb)
    rw [← hpi]
    clear hbp hn hb hp2 hpi HC
    go_upto_region 7 with (go_at_call 97; with_reducible refine (KPb.out _ HS6.out).mono ?_; rintro e w7 ⟨rfl, hS7⟩)
    have q1 := Q1.out _ hS7
    rw [← HN.out] at q1
    obtain ⟨b1, o1, e1, hgl, hc⟩ := row_get (HBb.out.more hS7).1 HBE.out
    rw [e1] at q1
    have z3 := hc 3 _ rfl
    have HS7 := Lib.hid hS7
    by_cases hc0 : b.l.length = 0
    · have HX2 : Hid (R = (noB, false)) := Lib.hid (by rw [HX.out, if_neg (by omega)])
      have g1 : ((b.l.length : Int) == 0) = true := by rw [beq_iff_eq]; omega
      clear hc e1 hgl hS7 hc0
      go_wp2
      refine bodyPost_ret (results_tmp2 rfl _ _ _) rfl ⟨by rw [HX2.out]; rfl, HB5.out.trans (Below.mono HS7.out HB5.out.size)⟩
    · obtain ⟨m, hm⟩ : ∃ m, b.l.length = m + 1 := ⟨b.l.length - 1, by omega⟩
      obtain ⟨x, hx, hlast⟩ := last_at hm
      have HX2 : Hid (R = (x.code, true)) := Lib.hid (by rw [HX.out, if_pos (by omega), hlast])
      obtain ⟨b2, o2, e2, hg2, hc2⟩ := row_get ((HBb.out.more hS7).2 b (List.mem_of_getElem? HBE.out)) hx
      rw [e2, hm] at z3
      have x0 := hc2 0 _ rfl
      rw [Nat.add_zero] at x0
      have g1 : (((m + 1 : Nat) : Int) == 0) = false := by rw [beq_eq_false_iff_ne]; omega
      have hm30 : m < 30 := by omega
      have w2 : IntKind.i64.wrap (m : Int) = (m : Int) := IntWalk.i64_in _ (by omega)
      have w3 : IntKind.i64.wrap (((m + 1 : Nat) : Int) - 1) = (m : Int) := by rw [IntKind.wrap_i64]; omega
      clear hc e1 hgl hS7 hc0 hlast hx hc2 e2 hg2
      go_wp2
      refine bodyPost_ret (results_tmp2 rfl _ _ _) rfl ⟨by rw [HX2.out]; rfl, HB5.out.trans (Below.mono HS7.out HB5.out.size)⟩
end Go.Proofs.YtkghpapbifijcaaGreatDoor
