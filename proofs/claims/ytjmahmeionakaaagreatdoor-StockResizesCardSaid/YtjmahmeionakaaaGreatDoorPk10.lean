/- Words and walks that the laws below ask: CabM, CabN, KitU. -/
import Derived.Deep.LoopGhost
import Derived.Deep.CutRange
import Derived.Deep.CutBlock
import Derived.BigQuiet
import Derived.Test.YtjmahmeionakaaaGreatDoorPk6
import Derived.Test.YtjmahmeionakaaaGreatDoorPk8
import Derived.Test.YtjmahmeionakaaaGreatDoorPk9
/- Like and the reference's Like; Small. -/
namespace Go.Proofs.YtjmahmeionakaaaGreatDoor
open Go.RowKit Go.Shelf
set_option linter.unusedSimpArgs false
set_option linter.unusedVariables false

theorem plF_in : ∀ (l : List Cb) (s : ByteArray) (i k : Int), plF l s = some (i, k) → 0 ≤ i ∧ i < (l.length : Int) ∧ 0 ≤ k
  | [], s, i, k, h => by cases h
  | b :: r, s, i, k, h => by
    rw [plF] at h
    split at h
    · rename_i h0
      simp only [Option.some.injEq, Prod.mk.injEq] at h
      obtain ⟨rfl, rfl⟩ := h
      exact ⟨Int.le_refl _, by simp only [List.length_cons]; omega, h0⟩
    · cases hr : plF r s with
      | none => rw [hr] at h; cases h
      | some p =>
        rw [hr] at h
        simp only [Option.map_some, Option.some.injEq, Prod.mk.injEq] at h
        obtain ⟨rfl, rfl⟩ := h
        have := plF_in r s p.1 p.2 hr
        exact ⟨by omega, by simp only [List.length_cons]; omega, this.2.2⟩
theorem pl_in {l : List Cb} {s : ByteArray} (h : plB l s = true) : 0 ≤ plI l s ∧ plI l s < (l.length : Int) := by
  unfold plB at h
  cases hp : plF l s with
  | none => rw [hp] at h; cases h
  | some p =>
    obtain ⟨h1, h2, _⟩ := pl_yes (l := l) (s := s) (i := p.1) (k := p.2) hp
    have := plF_in l s p.1 p.2 hp
    rw [h1]; exact ⟨this.1, this.2.1⟩
/-- the classes among which the place of a class is taken -/
def lkC (la lb : List Cb) (s : ByteArray) : List Cl := match lb[(min (plI la s) ((lb.length : Int) - 1)).toNat]? with
  | some b => b.l
  | none => []
def lkR (la lb : List Cb) (s : ByteArray) : ByteArray × Bool :=
  if plB la s = true ∧ 0 < lb.length then (if plB lb s = true then (s, true) else if 0 < (lkC la lb s).length then (((lkC la lb s).getLast?.map Cl.code).getD noB, true) else (noB, false)) else (noB, false)
theorem last_at {l : List Cl} {n : Nat} (h : l.length = n + 1) : ∃ x, l[n]? = some x ∧ (l.getLast?.map Cl.code).getD noB = x.code := by
  obtain ⟨x, hx⟩ : ∃ x, l[n]? = some x := ⟨_, List.getElem?_eq_getElem (by omega)⟩
  refine ⟨x, hx, ?_⟩
  rw [List.getLast?_eq_getElem?, h, Nat.add_sub_cancel, hx]
  rfl

set_option maxRecDepth 100000 in
set_option maxHeartbeats 8000000 in
theorem like_any (ea eb : ByteArray) (A B : Option Addr) (ca cb : Nat) (la lb : List Cb) (s : ByteArray) (w : World) (ha : CbL w (.slice A la.length ca) la) (hb : CbL w (.slice B lb.length cb) lb) (na : la.length ≤ 8) (nb : lb.length ≤ 8) (oa : ∀ b ∈ la, b.l.length ≤ 30) (ob : ∀ b ∈ lb, b.l.length ≤ 30) :
    Calls Tryz.prog 71 #[.agg #[.string ea, .slice A la.length ca], .agg #[.string eb, .slice B lb.length cb], .string s] w fun e w' => e = .returned (.tuple #[.string (lkR la lb s).1, .bool (lkR la lb s).2]) ∧ Below w.heap.size w w' := by
  have hbA := bel_alloc w (.cells #[.string ea, .slice A la.length ca] cfT)
  have hbB := bel_alloc (w.alloc (.cells #[.string ea, .slice A la.length ca] cfT)) (.cells #[.string eb, .slice B lb.length cb] cfT)
  have hb0 := hbA.trans (hbB.mono hbA.size)
  have p0 := bel_cell hbB ((cells_new w #[.string ea, .slice A la.length ca] cfT 0).trans (show _ = some (Value.string ea) from rfl))
  have p1 := bel_cell hbB ((cells_new w #[.string ea, .slice A la.length ca] cfT 1).trans (show _ = some (Value.slice A la.length ca) from rfl))
  have q0 := (cells_new (w.alloc (.cells #[.string ea, .slice A la.length ca] cfT)) #[.string eb, .slice B lb.length cb] cfT 0).trans (show _ = some (Value.string eb) from rfl)
  have q1 := (cells_new (w.alloc (.cells #[.string ea, .slice A la.length ca] cfT)) #[.string eb, .slice B lb.length cb] cfT 1).trans (show _ = some (Value.slice B lb.length cb) from rfl)
  rw [World.size_alloc] at q0 q1
  obtain ⟨Z, hZ⟩ : ∃ Z, Z = w.heap.size := ⟨_, rfl⟩
  rw [← hZ] at p0 p1 q0 q1
  have HA := Lib.hid (ha.more hb0)
  have HBb := Lib.hid (hb.more hb0)
  clear ha hb
  have KI := Lib.hid (fun h => pl_in (l := la) (s := s) h)
  obtain ⟨R, hR⟩ : ∃ R, R = lkR la lb s := ⟨_, rfl⟩
  rw [← hR]
  have HR := Lib.hid hR
  clear hR
  go_enter Tryz.func71, Tryz.ntmps71
  go_upto_region 1 with fail
  rw [← hZ]
  have HB5 := Lib.hid hb0
  generalize (w.alloc (.cells #[.string ea, .slice A la.length ca] cfT)).alloc (.cells #[.string eb, .slice B lb.length cb] cfT) = w5 at *
  clear hb0 hbA hbB hZ
  have Q0 := Lib.hid (fun W (h : SW w5 W) => bel_get q0 _ h)
  have Q1 := Lib.hid (fun W (h : SW w5 W) => bel_get q1 _ h)
  have KPa := Lib.hid (place_any ea A ca la s w5 HA.out na oa)
  have KPb : Hid (∀ W, SW w5 W → Calls Tryz.prog 72 #[.agg #[.string eb, .slice B lb.length cb], .string s] W fun e w' => e = .returned (.tuple #[.int .i64 (plI lb s), .int .i64 (plK lb s), .bool (plB lb s)]) ∧ SW w5 w') := Lib.hid (fun W h => (place_any eb B cb lb s W (HBb.out.more h) nb ob).mono (by rintro e w' ⟨rfl, hb⟩; exact ⟨rfl, Below.trans h (Below.mono hb h.size)⟩))
  clear q0 q1
  cases ha : plB la s with
  | false =>
    rw [ha] at KPa
    have HX : Hid (R = (noB, false)) := Lib.hid (by rw [HR.out]; unfold lkR; rw [if_neg (by rw [ha]; simp)])
    clear ha
    go_wp2_with (go_at_call 72; with_reducible refine KPa.out.mono ?_; rintro e w6 ⟨rfl, hb6⟩)
    refine bodyPost_ret (results_tmp2 rfl _ _ _) rfl ⟨by rw [HX.out]; rfl, HB5.out.trans (Below.mono hb6 HB5.out.size)⟩
  | true =>
  rw [ha] at KPa
  have HPL := Lib.hid (KI.out ha)
  have HAA := Lib.hid ha
  clear ha KI
  go_upto_region 2 with (go_at_call 72; with_reducible refine KPa.out.mono ?_; rintro e w6 ⟨rfl, hb6⟩)
  have HS6 : Hid (SW w5 w6) := Lib.hid hb6
  have q1 := Q1.out _ hb6
  have q0 := Q0.out _ hb6
  clear hb6 p0 p1 KPa
  by_cases hl0 : lb.length = 0
  · have HX : Hid (R = (noB, false)) := Lib.hid (by rw [HR.out]; unfold lkR; rw [if_neg (by intro h; omega)])
    have g0 : ((lb.length : Int) == 0) = true := by rw [beq_iff_eq]; omega
    clear hl0
    go_wp2
    refine bodyPost_ret (results_tmp2 rfl _ _ _) rfl ⟨by rw [HX.out]; rfl, HB5.out.trans (Below.mono HS6.out HB5.out.size)⟩
  have g0 : ((lb.length : Int) == 0) = false := by rw [beq_eq_false_iff_ne]; omega
  go_upto_if 29 with fail
  cases hbp : plB lb s with
  | true =>
    rw [hbp] at KPb
    have HX : Hid (R = (s, true)) := Lib.hid (by rw [HR.out]; unfold lkR; rw [if_pos ⟨HAA.out, by omega⟩, if_pos hbp])
    clear hbp
    go_wp2_with (go_at_call 72; with_reducible refine (KPb.out _ HS6.out).mono ?_; rintro e w7 ⟨rfl, hS7⟩)
    refine bodyPost_ret (results_tmp2 rfl _ _ _) rfl ⟨by rw [HX.out]; rfl, HB5.out.trans (Below.mono hS7 HB5.out.size)⟩
  | false =>
    rw [hbp] at KPb
    obtain ⟨pi, hpi⟩ : ∃ pi, pi = plI la s := ⟨_, rfl⟩
    have hp2 := HPL.out
    rw [← hpi] at hp2
    obtain ⟨n, hn⟩ : ∃ n, n = lb.length := ⟨_, rfl⟩
    have HN := Lib.hid hn
    rw [← hn] at nb hl0 q1 KPb g0 ⊢
    obtain ⟨mi, hmi⟩ : ∃ mi : Nat, min pi ((n : Int) - 1) = (mi : Int) := ⟨(min pi ((n : Int) - 1)).toNat, by omega⟩
    have hml : mi < n := by omega
    obtain ⟨b, hb⟩ : ∃ b, lb[mi]? = some b := ⟨_, List.getElem?_eq_getElem (by omega)⟩
    have HC : Hid (lkC la lb s = b.l) := Lib.hid (by unfold lkC; rw [← hpi, ← hn, hmi, Int.toNat_natCast, hb])
    have HX : Hid (R = if 0 < b.l.length then ((b.l.getLast?.map Cl.code).getD noB, true) else (noB, false)) := Lib.hid (by rw [HR.out]; unfold lkR; rw [if_pos ⟨HAA.out, by omega⟩, if_neg (by rw [hbp]; simp), HC.out])
    have w1 : IntKind.i64.wrap ((n : Int) - 1) = (n : Int) - 1 := by rw [IntKind.wrap_i64]; omega
    have i1 : (mi : Int) < (n : Int) := by omega
    have HBE := Lib.hid hb
    have hlb := ob b (List.mem_of_getElem? hb)
    rw [← hpi]
    clear hbp hn hb hp2 hpi HC
    go_upto_region 7 with (go_at_call 72; with_reducible refine (KPb.out _ HS6.out).mono ?_; rintro e w7 ⟨rfl, hS7⟩)
    have q1 := Q1.out _ hS7
    rw [← HN.out] at q1
    obtain ⟨b1, o1, e1, hgl, hc⟩ := row_get (HBb.out.more hS7).1 HBE.out
    rw [e1] at q1
    have z3 := hc 3 _ rfl
    have HS7 := Lib.hid hS7
    by_cases hc0 : b.l.length = 0
    · have HX2 : Hid (R = (noB, false)) := Lib.hid (by rw [HX.out, if_neg (by omega)])
      have g1 : ((b.l.length : Int) == 0) = true := by rw [beq_iff_eq]; omega
      clear hc e1 hgl hS7 hc0
      go_wp2
      refine bodyPost_ret (results_tmp2 rfl _ _ _) rfl ⟨by rw [HX2.out]; rfl, HB5.out.trans (Below.mono HS7.out HB5.out.size)⟩
    · obtain ⟨m, hm⟩ : ∃ m, b.l.length = m + 1 := ⟨b.l.length - 1, by omega⟩
      obtain ⟨x, hx, hlast⟩ := last_at hm
      have HX2 : Hid (R = (x.code, true)) := Lib.hid (by rw [HX.out, if_pos (by omega), hlast])
      obtain ⟨b2, o2, e2, hg2, hc2⟩ := row_get ((HBb.out.more hS7).2 b (List.mem_of_getElem? HBE.out)) hx
      rw [e2, hm] at z3
      have x0 := hc2 0 _ rfl
      rw [Nat.add_zero] at x0
      have g1 : (((m + 1 : Nat) : Int) == 0) = false := by rw [beq_eq_false_iff_ne]; omega
      have hm30 : m < 30 := by omega
      have w2 : IntKind.i64.wrap (m : Int) = (m : Int) := IntWalk.i64_in _ (by omega)
      have w3 : IntKind.i64.wrap (((m + 1 : Nat) : Int) - 1) = (m : Int) := by rw [IntKind.wrap_i64]; omega
      clear hc e1 hgl hS7 hc0 hlast hx hc2 e2 hg2
      go_wp2
      refine bodyPost_ret (results_tmp2 rfl _ _ _) rfl ⟨by rw [HX2.out]; rfl, HB5.out.trans (Below.mono HS7.out HB5.out.size)⟩

end Go.Proofs.YtjmahmeionakaaaGreatDoor

/- Small and Same. -/
namespace Go.Proofs.YtjmahmeionakaaaGreatDoor
open Go.RowKit Go.Shelf
set_option linter.unusedSimpArgs false
set_option linter.unusedVariables false

def smallF (f : Cf) : Prop := f.l.length ≤ 8 ∧ ∀ b ∈ f.l, b.l.length ≤ 30
def SmallP (l : List Cf) : Prop := l.length ≤ 8 ∧ ∀ f ∈ l, smallF f
open Classical in
noncomputable def smallB (l : List Cf) : Bool := decide (SmallP l)
theorem small_yes {l : List Cf} (h : SmallP l) : smallB l = true := @decide_eq_true _ (Classical.propDecidable _) h
theorem small_no {l : List Cf} (h : ¬ SmallP l) : smallB l = false := @decide_eq_false _ (Classical.propDecidable _) h
set_option maxRecDepth 100000 in
set_option maxHeartbeats 8000000 in
theorem small_any (A : Option Addr) (c : Nat) (l : List Cf) (w : World) (hv : CfL w (.slice A l.length c) l) :
    Calls Tryz.prog 32 #[.slice A l.length c] w fun e w' => e = .returned (.bool (smallB l)) ∧ w' = w := by
  have HV := Lib.hid hv
  clear hv
  by_cases hl : 8 < l.length
  · have HX : Hid (smallB l = false) := Lib.hid (small_no (fun h => by have := h.1; omega))
    have g0 : (8 : Int) < (l.length : Int) := by omega
    generalize smallB l = R at *
    go_enter Tryz.func32, Tryz.ntmps32
    go_wp2
    go_ret
    exact ⟨ret_bool HX.out.symm, rfl⟩
  have g0 : ¬ (8 : Int) < (l.length : Int) := by omega
  have HY := Lib.hid (small_yes (l := l))
  have HNo := Lib.hid (small_no (l := l))
  generalize smallB l = R at *
  go_enter Tryz.func32, Tryz.ntmps32
  go_wp2
  go_loopg [3] l.length (fun kx v3 wr => ∃ i : Nat, v3 = .int .i64 i ∧ i + kx = l.length ∧ Hid (∀ (j : Nat) (f : Cf), j < i → l[j]? = some f → smallF f) ∧ wr = w)
  case atStart => exact ⟨0, rfl, by omega, Lib.hid (fun j x hj => absurd hj (Nat.not_lt_zero _)), rfl⟩
  case round =>
    obtain ⟨i, rfl, hix, HK, hwr⟩ := hrel
    have hwr := hwr.symm
    subst hwr
    have HIX := Lib.hid hix
    by_cases hlt : i < l.length
    · obtain ⟨f, hf⟩ : ∃ f, l[i]? = some f := ⟨_, List.getElem?_eq_getElem hlt⟩
      obtain ⟨b1, o1, e1, hgl, hc⟩ := row_get HV.out.1 hf
      cases e1
      have z1 := hc 1 _ rfl
      have i2 : (i : Int) < (l.length : Int) := by omega
      have HF := Lib.hid hf
      clear hc hgl hix
      by_cases h8 : 8 < f.l.length
      · have HX : Hid (R = false) := Lib.hid (HNo.out (fun h => by have := (h.2 f (List.mem_of_getElem? hf)).1; omega))
        have g1 : (8 : Int) < (f.l.length : Int) := by omega
        clear hf
        go_wp2
        go_ret
        exact ⟨ret_bool HX.out.symm, rfl⟩
      have g1 : ¬ (8 : Int) < (f.l.length : Int) := by omega
      obtain ⟨n, hn⟩ : ∃ n, n = f.l.length := ⟨_, rfl⟩
      have HN := Lib.hid hn
      rw [← hn] at z1 g1 h8
      clear hf hn
      go_upto_region 9 with fail
      have HZ1 := Lib.hid z1
      clear z1
      go_loopg [4] n (fun kx v4 wq => ∃ k : Nat, v4 = .int .i64 k ∧ k + kx = n ∧ Hid (∀ (j : Nat) (b : Cb), j < k → f.l[j]? = some b → b.l.length ≤ 30) ∧ wq = w)
      case atStart => exact ⟨0, rfl, by omega, Lib.hid (fun j x hj => absurd hj (Nat.not_lt_zero _)), rfl⟩
      case round =>
        obtain ⟨k, rfl, hkx, HC, hwr⟩ := hrel
        have hwr := hwr.symm
        subst hwr
        have HKX := Lib.hid hkx
        have hk8 : k ≤ 8 := by omega
        by_cases hlk : k < n
        · obtain ⟨b, hb⟩ : ∃ b, f.l[k]? = some b := ⟨_, List.getElem?_eq_getElem (by have := HN.out; omega)⟩
          obtain ⟨b2, o2, e2, hg2, hc2⟩ := row_get (HV.out.2 f (List.mem_of_getElem? HF.out)).1 hb
          have z1 := HZ1.out
          rw [e2] at z1
          have y3 := hc2 3 _ rfl
          have i3 : (k : Int) < (n : Int) := by omega
          have HB := Lib.hid hb
          clear hc2 hg2 e2 hkx hb
          by_cases h30 : 30 < b.l.length
          · have HX : Hid (R = false) := Lib.hid (HNo.out (fun h => by have := (h.2 f (List.mem_of_getElem? HF.out)).2 b (List.mem_of_getElem? HB.out); omega))
            have g2 : (30 : Int) < (b.l.length : Int) := by omega
            go_wp2
            go_ret
            exact ⟨ret_bool HX.out.symm, rfl⟩
          · have g2 : ¬ (30 : Int) < (b.l.length : Int) := by omega
            have HC2 : Hid (∀ (j : Nat) (b : Cb), j < k + 1 → f.l[j]? = some b → b.l.length ≤ 30) := Lib.hid (fun j x hj hx => by
              by_cases hji : j = k
              · subst hji; rw [HB.out] at hx; cases hx; omega
              · exact HC.out j x (by omega) hx)
            go_wp2
            go_roundg (n - (k + 1))
            case measure => have := HKX.out; omega
            case rel => exact ⟨k + 1, by go_num, by have := HKX.out; omega, HC2, by first | rfl | trivial⟩
        · have i3 : ¬ (k : Int) < (n : Int) := by omega
          have z1 := HZ1.out
          have HK2 : Hid (∀ (j : Nat) (f : Cf), j < i + 1 → l[j]? = some f → smallF f) := Lib.hid (fun j x hj hx => by
            by_cases hji : j = i
            · subst hji
              rw [HF.out] at hx
              cases hx
              refine ⟨by have := HN.out; omega, fun b hb => ?_⟩
              obtain ⟨m, hm, rfl⟩ := List.getElem_of_mem hb
              exact HC.out m _ (by have := HN.out; omega) (List.getElem?_eq_getElem hm)
            · exact HK.out j x (by omega) hx)
          go_wp2
          go_roundg (l.length - (i + 1))
          case measure => have := HIX.out; omega
          case rel => exact ⟨i + 1, by go_num, by have := HIX.out; omega, HK2, by first | rfl | trivial⟩
    · have HX : Hid (R = true) := Lib.hid (HY.out ⟨by omega, fun f hf => by
        obtain ⟨m, hm, rfl⟩ := List.getElem_of_mem hf
        exact HK.out m _ (by omega) (List.getElem?_eq_getElem hm)⟩)
      have i2 : ¬ (i : Int) < (l.length : Int) := by omega
      go_wp2
      go_ret
      exact ⟨ret_bool HX.out.symm, rfl⟩
end Go.Proofs.YtjmahmeionakaaaGreatDoor

/- Plain facts on configurations without violations. -/
namespace Go.Proofs.YtjmahmeionakaaaGreatDoor
open Go.RowKit Go.Shelf
set_option linter.unusedSimpArgs false
set_option linter.unusedVariables false

/-- what a machine's values are bound to -/
structure SzCf (f : Cf) : Prop where
  equip : f.equip.size ≤ maxLen
  name : ∀ b ∈ f.l, b.name.size ≤ maxLen
  cls : ∀ b ∈ f.l, ∀ x ∈ b.l, OkCl x
theorem SzCf.ok {f : Cf} (h : SzCf f) (hs : smallF f) : OkCf f := ⟨h.equip, hs.1, fun b hb => ⟨h.name b hb, hs.2 b hb, h.cls b hb⟩⟩
theorem ok_all {l : List Cf} (h : ∀ f ∈ l, SzCf f) (hs : SmallP l) : ∀ f ∈ l, OkCf f := fun f hf => (h f hf).ok (hs.2 f hf)
/-! ### Like -/
theorem pl_mem : ∀ (l : List Cb) (s : ByteArray), plB l s = false → ∀ b ∈ l, ∀ x ∈ b.l, codeQ s x = false
  | [], s, h, b, hb, x, hx => by cases hb
  | c :: r, s, h, b, hb, x, hx => by
    unfold plB at h
    rw [plF] at h
    split at h
    · cases h
    · rename_i h0
      have hr : plB r s = false := by
        unfold plB
        cases hp : plF r s with
        | none => rfl
        | some p => rw [hp] at h; cases h
      rcases List.mem_cons.1 hb with rfl | hb
      · rcases idxQ_find (codeQ s) b.l with ⟨_, _, h3⟩ | ⟨k, a, h1, _⟩
        · obtain ⟨j, hj, rfl⟩ := List.getElem_of_mem hx
          exact h3 j _ (List.getElem?_eq_getElem hj)
        · exfalso; omega
      · exact pl_mem r s hr b hb x hx
theorem pl_of_mem {l : List Cb} {b : Cb} {x : Cl} (hb : b ∈ l) (hx : x ∈ b.l) : plB l x.code = true := by
  cases h : plB l x.code with
  | true => rfl
  | false =>
    have := pl_mem l x.code h b hb x hx
    unfold codeQ at this
    rw [eqS_self] at this
    cases this
theorem lk_facts {la lb : List Cb} {s : ByteArray} (h : (lkR la lb s).2 = true) : plB lb (lkR la lb s).1 = true ∧ (plB lb s = true → (lkR la lb s).1 = s) := by
  unfold lkR at h ⊢
  split at h
  · rename_i h1
    rw [if_pos h1]
    split at h
    · rename_i h2
      rw [if_pos h2]
      exact ⟨h2, fun _ => rfl⟩
    · rename_i h2
      rw [if_neg h2]
      split at h
      · rename_i h3
        rw [if_pos h3]
        refine ⟨?_, fun h => absurd h h2⟩
        obtain ⟨x, hx, he⟩ := last_at (l := lkC la lb s) (n := (lkC la lb s).length - 1) (by omega)
        show plB lb (((lkC la lb s).getLast?.map Cl.code).getD noB) = true
        rw [he]
        unfold lkC at hx
        split at hx
        · rename_i b hb
          exact pl_of_mem (List.mem_of_getElem? hb) (List.mem_of_getElem? hx)
        · simp at hx
      · cases h
  · cases h
end Go.Proofs.YtjmahmeionakaaaGreatDoor

namespace Go.Proofs.YtjmahmeionakaaaGreatDoor
open Go.RowKit Go.Shelf
set_option linter.unusedSimpArgs false
set_option linter.unusedVariables false

theorem flat_nil {α β : Type} {l : List α} {g : Nat → α → List β} {n : Nat} (h : flatG l g n = []) {i : Nat} {x : α} (hi : i < n) (hx : l[i]? = some x) : g i x = [] := by
  unfold flatG at h
  rw [List.flatMap_eq_nil_iff] at h
  have := h i (List.mem_range.2 hi)
  rw [hx] at this
  exact this
theorem pick_none {s : ByteArray} {es : List Int} (h : pick s es = []) : ∀ e ∈ es, e = 0 := by
  intro e he
  apply Classical.byContradiction
  intro hne
  have : (e, s) ∈ pick s es := List.mem_map.2 ⟨e, List.mem_filter.2 ⟨he, by simpa using hne⟩, rfl⟩
  rw [h] at this
  cases this
theorem wh_zero {b : Bool} {e : Int} (h : whC b e = 0) (he : e ≠ 0) : b = false := by
  cases b with
  | false => rfl
  | true => exact absurd h he
/-- what a right configuration is -/
structure RightF (f : Cf) : Prop where
  siz : ∀ b ∈ f.l, sizB b = true
  bad : ∀ b ∈ f.l, ∀ (k : Nat) (x : Cl), b.l[k]? = some x → badP b k x = false
  new : ∀ (i k : Nat) (b : Cb) (x : Cl), f.l[i]? = some b → b.l[k]? = some x → anyS (codesB (f.l.take i) ++ codesC (b.l.take k)) x.code = false
theorem right_of {l : List Cf} (h : conF l l.length = []) : ∀ f ∈ l, RightF f := by
  intro f hf
  obtain ⟨m, hm, rfl⟩ := List.getElem_of_mem hf
  have h1 := flat_nil h hm (List.getElem?_eq_getElem hm)
  have h2 : cabF (conW ++ decA m) l[m].l l[m].l.length = [] := (List.append_eq_nil_iff.1 h1).2
  have hcab : ∀ (i : Nat) (b : Cb), l[m].l[i]? = some b → pick (conW ++ decA m ++ cabW ++ decA i) (cabE l[m].l i b) = [] ∧ clsF (conW ++ decA m ++ cabW ++ decA i) (codesB (l[m].l.take i)) b b.l.length = [] := fun i b hb =>
    List.append_eq_nil_iff.1 (flat_nil h2 (List.getElem?_eq_some_iff.1 hb).1 hb)
  have hcls : ∀ (i k : Nat) (b : Cb) (x : Cl), l[m].l[i]? = some b → b.l[k]? = some x → ∀ e ∈ clsE (codesB (l[m].l.take i)) b k x, e = 0 := fun i k b x hb hx =>
    pick_none (flat_nil (hcab i b hb).2 (List.getElem?_eq_some_iff.1 hx).1 hx)
  refine ⟨fun b hb => ?_, fun b hb k x hx => ?_, fun i k b x hb hx => ?_⟩
  · obtain ⟨i, hi, rfl⟩ := List.getElem_of_mem hb
    have := pick_none (hcab i _ (List.getElem?_eq_getElem hi)).1 (whC (!sizB l[m].l[i]) 2) (by simp [cabE])
    have := wh_zero this (by omega)
    simpa using this
  · obtain ⟨i, hi, rfl⟩ := List.getElem_of_mem hb
    exact wh_zero (hcls i k _ x (List.getElem?_eq_getElem hi) hx (whC (badP l[m].l[i] k x) 2) (by simp [clsE])) (by omega)
  · exact wh_zero (hcls i k b x hb hx (whC (anyS (codesB (l[m].l.take i) ++ codesC (b.l.take k)) x.code) 6) (by simp [clsE])) (by omega)
theorem anyS_no {L : List ByteArray} {s : ByteArray} (h : anyS L s = false) : ∀ x ∈ L, eqS x s = false := by
  intro x hx
  unfold anyS at h
  rw [List.any_eq_false] at h
  have := h x hx
  cases he : eqS x s with
  | false => rfl
  | true => exact absurd (decide_eq_true ((eqS_iff x s).1 he)) this
theorem find_mem {l : List Cf} {s : ByteArray} {f : Cf} (h : findQ l s = some f) : f ∈ l := List.mem_of_find?_eq_some h

end Go.Proofs.YtjmahmeionakaaaGreatDoor

namespace Go.Proofs.YtjmahmeionakaaaGreatDoor
open Go.RowKit Go.Shelf
set_option linter.unusedSimpArgs false
set_option linter.unusedVariables false

theorem lim_right {f : Cf} (h : RightF f) {b : Cb} (hb : b ∈ f.l) (hl : b.l.length ≤ 30) : LimP b ∧ (∀ k, k < b.l.length → 0 ≤ limA b k) ∧ ∀ k, k + 1 < b.l.length → limA b (k + 1) ≤ limA b k := by
  have hs := h.siz b hb
  obtain ⟨s1, s2, s3, s4⟩ := sizB_in hs
  have hm : mostP b = b.seats + b.over := by unfold mostP; rw [if_pos hs]
  have hk : ∀ (k : Nat) (x : Cl), b.l[k]? = some x → leastP b.l k ≤ x.prot ∧ x.prot ≤ b.seats + b.over := fun k x hx => by
    have := h.bad b hb k x hx
    unfold badP at this
    rw [Bool.or_eq_false_iff, decide_eq_false_iff_not, decide_eq_false_iff_not, hm] at this
    exact ⟨by omega, by omega⟩
  have hpos : ∀ (k : Nat) (x : Cl), b.l[k]? = some x → 0 ≤ x.prot := fun k x hx => by
    have := (hk k x hx).1
    have h0 : 0 ≤ leastP b.l k := by
      cases k with
      | zero => exact Int.le_refl _
      | succ k =>
        simp only [leastP]
        split
        · split <;> omega
        · omega
    omega
  refine ⟨⟨hs, hl, fun x hx => ?_⟩, fun k hk' => ?_, fun k hk' => ?_⟩
  · obtain ⟨k, hk', rfl⟩ := List.getElem_of_mem hx
    have h1 := hpos k _ (List.getElem?_eq_getElem hk')
    have h2 := (hk k _ (List.getElem?_eq_getElem hk')).2
    exact ⟨h1, by omega⟩
  · cases k with
    | zero => simp only [limA]; omega
    | succ k =>
      obtain ⟨x, hx⟩ : ∃ x, b.l[k]? = some x := ⟨_, List.getElem?_eq_getElem (by omega)⟩
      have := (hk k x hx).2
      simp only [limA, hx]
      omega
  · obtain ⟨x, hx⟩ : ∃ x, b.l[k]? = some x := ⟨_, List.getElem?_eq_getElem (by omega)⟩
    have h1 := hpos k x hx
    cases k with
    | zero => simp only [limA, hx]; omega
    | succ k =>
      obtain ⟨y, hy⟩ : ∃ y, b.l[k]? = some y := ⟨_, List.getElem?_eq_getElem (by omega)⟩
      have h2 := (hk (k + 1) x hx).1
      simp only [leastP, hy] at h2
      simp only [limA, hx, hy]
      split at h2 <;> omega
theorem int_at {w : World} {A : Option Addr} {n c : Nat} {l : List Int} (h : IntR w (.slice A n c) l) {k : Nat} {x : Int} (hk : l[k]? = some x) : ∃ b o, A = some ⟨b, o, none⟩ ∧ w.cell? ⟨b, o + k, none⟩ = some (.int .i64 x) := by
  obtain ⟨b, o, e, _, hc⟩ := row_get h hk
  have := hc 0 _ rfl
  rw [Nat.mul_one, Nat.add_zero] at this
  exact ⟨b, o, e, this⟩
theorem maxIf (a b : Int) : max a b = if a < b then b else a := by rw [Int.max_def]; split <;> split <;> omega
theorem minIf (a b : Int) : min a b = if b < a then b else a := by rw [Int.min_def]; split <;> split <;> omega
end Go.Proofs.YtjmahmeionakaaaGreatDoor
