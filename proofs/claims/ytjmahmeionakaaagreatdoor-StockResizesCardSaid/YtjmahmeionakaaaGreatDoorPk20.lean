/- Words and walks that the laws below ask: StkN3, StkN4. -/
import Derived.Test.YtjmahmeionakaaaGreatDoorPk19
/- What is sold on a leg. -/
namespace Go.Proofs.YtjmahmeionakaaaGreatDoor
open Go.RowKit Go.Shelf Go.Maps Go.MapKept
set_option linter.unusedSimpArgs false
set_option linter.unusedVariables false

theorem sumI_take : ∀ (l : List Int), (∀ x ∈ l, 0 ≤ x) → ∀ k, 0 ≤ sumI (l.take k) ∧ sumI (l.take k) ≤ sumI l
  | [], _, k => by simp [sumI]
  | x :: r, h, 0 => by
    have h1 := sumI_take r (fun y hy => h y (List.mem_cons_of_mem _ hy)) r.length
    have h2 := h x (by simp)
    rw [List.take_length] at h1
    simp only [List.take_zero, sumI]
    omega
  | x :: r, h, k + 1 => by
    have h1 := sumI_take r (fun y hy => h y (List.mem_cons_of_mem _ hy)) k
    have h2 := h x (by simp)
    simp only [List.take_succ_cons, sumI]
    omega
theorem cnt_low {l : List Cb} {so : List (List Int)} (h : ∀ s ∈ so, ∀ x ∈ s, 0 ≤ x) : ∀ p ∈ cntB l so, 0 ≤ p.2 := by
  intro p hp
  unfold cntB cntC at hp
  simp only [List.mem_flatMap, List.mem_map] at hp
  obtain ⟨q, hq, y, hy, rfl⟩ := hp
  exact h q.2 (List.of_mem_zip (a := q.1) (b := q.2) hq).2 y.2 (List.of_mem_zip (a := y.1) (b := y.2) hy).2
def sumG (g : Stk) (i : Lid) : Int := sumI ((cntG g i).map Prod.snd)
theorem OkG.sum {K : Int} {cs : List Cf} {g : Stk} (h : OkG K cs g) (hK : 0 ≤ K) (i : Lid) (k : Nat) : 0 ≤ sumI (((cntG g i).take k).map Prod.snd) ∧ sumI (((cntG g i).take k).map Prod.snd) ≤ K := by
  rw [List.map_take]
  unfold cntG
  cases hq : g i with
  | none => simp [sumI, hK]
  | some q =>
    have h1 := (h.leg i q hq).1
    have h2 := sumI_take (q.counts.map Prod.snd) (fun x hx => by
      obtain ⟨p, hp, rfl⟩ := List.mem_map.1 hx
      exact cnt_low h1.low p hp) k
    have h3 : sumI (q.counts.map Prod.snd) = totP q.so := cntB_sum q.f.l q.so h1.len h1.each
    have h4 := h1.tot
    dsimp only
    omega
theorem sumG_eq {K : Int} {cs : List Cf} {g : Stk} (h : OkG K cs g) {i : Lid} {q : Lg} (hq : g i = some q) : sumG g i = totP q.so := by
  have h1 := (h.leg i q hq).1
  unfold sumG cntG
  rw [hq]
  exact cntB_sum q.f.l q.so h1.len h1.each
theorem sumG_none {g : Stk} {i : Lid} (hq : g i = none) : sumG g i = 0 := by
  unfold sumG cntG
  rw [hq]
  rfl
theorem OkG.cnt_len {K : Int} {cs : List Cf} {g : Stk} (h : OkG K cs g) (i : Lid) : (cntG g i).length ≤ 1000 := by
  unfold cntG
  cases hq : g i with
  | none => simp
  | some q =>
    have h1 := (h.leg i q hq).1
    have h2 := cntB_le q.f.l q.so (fun b hb => h1.small.2 b hb)
    have h3 := h1.small.1
    show (cntB q.f.l q.so).length ≤ 1000
    omega
set_option maxRecDepth 100000 in
set_option maxHeartbeats 4000000 in
theorem sum_any {N : Nat} {R F : Nat → Prop} {B n : Nat} {cs : List Cf} {K : Int} {w : World} {g : Stk} (hS : SesE N R F B n cs K w g) (hK : 0 ≤ K ∧ K ≤ 1000000000000) {i : Lid} (hi : OkD i) : Calls Tryz.prog 19 #[.pointer (some ⟨B, 0, none⟩), aggD i] w fun e w' => e = .returned (.int .i64 (sumG g i)) ∧ Below w.heap.size w w' := by
  have hok : OkG K cs g := by obtain ⟨o, h⟩ := hS; exact h.ok
  have hb5 := bel_alloc w (.cells #[.string i.car, .int .i64 i.num, .int .i64 i.day, .string i.frm] lidT)
  have q0 := (cells_new w #[.string i.car, .int .i64 i.num, .int .i64 i.day, .string i.frm] lidT 0).trans (show _ = some (Value.string i.car) from rfl)
  have q1 := (cells_new w #[.string i.car, .int .i64 i.num, .int .i64 i.day, .string i.frm] lidT 1).trans (show _ = some (Value.int .i64 i.num) from rfl)
  have q2 := (cells_new w #[.string i.car, .int .i64 i.num, .int .i64 i.day, .string i.frm] lidT 2).trans (show _ = some (Value.int .i64 i.day) from rfl)
  have q3 := (cells_new w #[.string i.car, .int .i64 i.num, .int .i64 i.day, .string i.frm] lidT 3).trans (show _ = some (Value.string i.frm) from rfl)
  have KC := Lib.hid (ses_counts (hS.grow hb5) hi)
  have HB5 := Lib.hid hb5
  unfold sumG
  have HT : Hid (∀ k, 0 ≤ sumI (((cntG g i).take k).map Prod.snd) ∧ sumI (((cntG g i).take k).map Prod.snd) ≤ 1000000000000) := Lib.hid (fun k => by have := hok.sum hK.1 i k; omega)
  have HL : Hid ((cntG g i).length ≤ 1000) := Lib.hid (hok.cnt_len i)
  clear hS hok hb5 hK
  generalize cntG g i = L at *
  go_enter Tryz.func19, Tryz.ntmps19
  go_upto_region 1 with fail
  generalize w.alloc (.cells #[.string i.car, .int .i64 i.num, .int .i64 i.day, .string i.frm] lidT) = w5 at *
  go_upto_region 2 with (go_at_call 26; (with_reducible refine (KC.out).mono ?_); rintro e w6 ⟨v, rfl, hv, hb6⟩)
  obtain ⟨A, c, rfl, hv⟩ := hv
  have HV : Hid (∀ k x, L[k]? = some x → ∃ b o, A = some ⟨b, o, none⟩ ∧ w6.cell? ⟨b, o + k * 2 + 1, none⟩ = some (.int .i64 x.2)) := Lib.hid (fun k x hx => by
    rcases hv with hv | ⟨b, o, rfl, _, hc⟩
    · subst hv; simp at hx
    · exact ⟨b, o, rfl, hc k x 1 _ hx rfl⟩)
  obtain ⟨n, hn⟩ : ∃ n, n = L.length := ⟨_, rfl⟩
  obtain ⟨P, hP⟩ : ∃ P : Nat → Int, P = fun k => sumI ((L.take k).map Prod.snd) := ⟨_, rfl⟩
  have HN := Lib.hid hn
  have P0 : P 0 = 0 := by rw [hP]; rfl
  have HE : Hid (sumI (L.map Prod.snd) = P n) := Lib.hid (by rw [hP, hn]; dsimp only; rw [List.take_length])
  have HT : Hid (∀ k, 0 ≤ P k ∧ P k ≤ 1000000000000) := Lib.hid (fun k => by rw [hP]; exact HT.out k)
  have HS : Hid (∀ k x, L[k]? = some x → P (k + 1) = P k + x.2) := Lib.hid (fun k x hx => by
    rw [hP]
    show sumI ((L.take (k + 1)).map Prod.snd) = sumI ((L.take k).map Prod.snd) + x.2
    rw [List.take_add_one, hx, List.map_append, sumI_app]
    simp [sumI])
  rw [← hn]
  have HB6 := Lib.hid hb6
  clear hv q0 q1 q2 q3 hn hb6 hP
  go_wp2
  go_loopw [5, 7] (fun vs vi wr => ∃ k : Nat, k ≤ n ∧ vs = .int .i64 (P k) ∧ vi = .int .i64 k ∧ wr = w6) (fun _ vi _ => n - (intOf vi).toNat)
  case atStart => exact ⟨0, Nat.zero_le _, by rw [P0], rfl, rfl⟩
  case round =>
    obtain ⟨k, hk, rfl, rfl, rfl⟩ := hrel
    by_cases hlt : k < n
    · obtain ⟨x, hx⟩ : ∃ x, L[k]? = some x := ⟨_, List.getElem?_eq_getElem (by have := HN.out; omega)⟩
      obtain ⟨b, o, rfl, c1⟩ := HV.out k x hx
      have i1 : (0 : Int) ≤ (k : Int) := by omega
      have i2 : (k : Int) < (n : Int) := by omega
      have t2 := HT.out (k + 1)
      have w1 : IntKind.i64.wrap (P k + x.2) = P (k + 1) := by rw [← HS.out k x hx]; exact IntWalk.i64_in _ (by omega)
      have hk8 : k < 1000 := by have := HL.out; have := HN.out; omega
      have w2 : IntKind.i64.wrap ((k : Int) + 1) = (k : Int) + 1 := IntWalk.i64_in _ (by omega)
      clear hx t2
      go_wp2
      go_roundw
      case rel => exact ⟨k + 1, by omega, by go_num, by go_num, by first | rfl | trivial⟩
      case measure => simp [intOf]; omega
    · obtain rfl : k = n := by omega
      have i2 : ¬ (k : Int) < (k : Int) := by omega
      go_wp2
      go_ret
      exact ⟨by first | (rw [HE.out]; done) | (rw [HE.out]; simp; done) | (simp [HE.out]; done), HB5.out.trans (HB6.out.mono HB5.out.size)⟩
end Go.Proofs.YtjmahmeionakaaaGreatDoor

/- What calls do to the sums and to the limits, in plain words. -/
namespace Go.Proofs.YtjmahmeionakaaaGreatDoor
open Go.RowKit Go.Shelf Go.Maps Go.MapKept
set_option linter.unusedSimpArgs false
set_option linter.unusedVariables false

/-! ### one leg -/
theorem add_so {q : Lg} {c : ByteArray} {b : Cb} {s : List Int} {x : Int} (hP : PlcR q c b s x) (m : Int) : (q.add c m).so = q.so.set (q.ci c) (wiL s (q.ck c) m) := by
  show addS q.so (q.ci c) (q.ck c) m = _
  exact addS_at _ _ hP.hs
theorem add_tot {K : Int} {q : Lg} (h : OkL K q) {c : ByteArray} (hc : q.has c = true) (m : Int) : totP (q.add c m).so = totP q.so + m := by
  obtain ⟨b, s, x, hP⟩ := h.plc hc
  have hsum := sumI_set s (q.ck c) (x + m) x hP.hx
  rw [add_so hP, totP_set hP.hs, wiL_get m hP.hx, hsum]
  omega
/-- no cabin is sold beyond its limits -/
def FitL (q : Lg) : Prop := ∀ (i : Nat) (b : Cb) (s : List Int), q.f.l[i]? = some b → q.so[i]? = some s → fitB b s = true
theorem FitL.excess {q : Lg} (h : FitL q) : q.excess = 0 := by
  unfold Lg.excess
  have key : ∀ k, exsP q.f.l q.so k = 0 := by
    intro k
    induction k with
    | zero => rfl
    | succ k ih =>
      unfold exsP
      cases hb : q.f.l[k]? with
      | none => exact ih
      | some b =>
        cases hs : q.so[k]? with
        | none => exact ih
        | some s =>
          have h1 := h k b s hb hs
          unfold fitB at h1
          simp only [Bool.and_eq_true, decide_eq_true_eq] at h1
          show max (exsP q.f.l q.so k) (exP b s) = 0
          rw [ih, h1.2]
          rfl
  exact key _
theorem FitL.add {K : Int} {q : Lg} (h : FitL q) (hL : OkL K q) {c : ByteArray} (hc : q.has c = true) {m : Int} (hf : ∀ b s x, PlcR q c b s x → fitB b s = true → fitB b (wiL s (q.ck c) m) = true) : FitL (q.add c m) := by
  obtain ⟨b, s, x, hP⟩ := hL.plc hc
  intro i b' s' hb hs
  rw [add_so hP, List.getElem?_set] at hs
  split at hs
  · rename_i e
    subst e
    split at hs
    · cases hs
      have hb2 : q.f.l[q.ci c]? = some b' := hb
      rw [hP.hb] at hb2
      cases hb2
      exact hf b s x hP (h _ b s hP.hb hP.hs)
    · cases hs
  · exact h i b' s' hb hs
theorem FitL.new {f : Cf} (hf : GoodF f) (cl : Bool) : FitL ⟨f, unsP f, cl⟩ := by
  intro i b s hb hs
  have hb : f.l[i]? = some b := hb
  have hs : (unsP f)[i]? = some s := hs
  unfold unsP at hs
  rw [List.getElem?_map, hb] at hs
  simp only [Option.map_some, Option.some.injEq] at hs
  subst hs
  obtain ⟨h1, h2, _⟩ := lim_right hf.1 (List.mem_of_getElem? hb) (hf.2.1.2 b (List.mem_of_getElem? hb))
  refine (fitB_iff b _).2 ⟨?_, fun k hk => ?_⟩
  · unfold rgtB
    simp only [List.length_replicate, decide_true, Bool.true_and, List.all_eq_true]
    intro x hx
    rw [List.eq_of_mem_replicate hx]
    rfl
  · rw [List.length_replicate] at hk
    unfold leF
    rw [nsF_zeros]
    have := h2 k hk
    omega
theorem left_pos {K : Int} {q : Lg} (h : OkL K q) {c : ByteArray} {m : Int} (h1 : 1 ≤ m) (hm : m ≤ q.left c) : q.cl = false ∧ q.has c = true ∧ ∀ b s x, PlcR q c b s x → rgtB b s = true ∧ m ≤ opF b s (q.ck c) ∧ q.left c = opF b s (q.ck c) := by
  cases hc : q.has c with
  | false =>
    have : q.left c = 0 := by unfold Lg.left; rw [hc]; simp
    omega
  | true =>
    cases hcl : q.cl with
    | true =>
      have : q.left c = 0 := by unfold Lg.left; rw [hcl]; simp
      omega
    | false =>
      refine ⟨rfl, rfl, fun b s x hP => ?_⟩
      have e := hP.lv hc
      rw [hcl] at e
      simp only [Bool.false_eq_true, if_false] at e
      unfold leftV at e
      cases hr : rgtB b s with
      | false => rw [hr] at e; simp at e; omega
      | true => rw [hr] at e; simp only [if_true] at e; exact ⟨rfl, by omega, e⟩
theorem FitL.sell {K : Int} {q : Lg} (h : FitL q) (hL : OkL K q) {c : ByteArray} {m : Int} (h1 : 1 ≤ m) (hm : m ≤ q.left c) : FitL (q.add c m) := by
  obtain ⟨_, hc, hp⟩ := left_pos hL h1 hm
  exact h.add hL hc (fun b s x hP hf => fit_sell (hL.lim (List.mem_of_getElem? hP.hb)) hf hP.hx h1 (hp b s x hP).2.1)
theorem FitL.cancel {K : Int} {q : Lg} (h : FitL q) (hL : OkL K q) {c : ByteArray} (hc : q.has c = true) {m : Int} (h1 : 1 ≤ m) (hm : m ≤ q.sold c) : FitL (q.add c (-m)) :=
  h.add hL hc (fun b s x hP hf => fit_cancel hf hP.hx h1 (by rw [hP.sold] at hm; exact hm))
theorem leftL_in {K : Int} {q : Lg} (h : OkL K q) (c : ByteArray) : 0 ≤ q.left c ∧ q.left c ≤ 400000 := by
  cases hc : q.has c with
  | false =>
    have : q.left c = 0 := by unfold Lg.left; rw [hc]; simp
    omega
  | true =>
    obtain ⟨b, s, x, hP⟩ := h.plc hc
    rw [hP.lv hc]
    split
    · omega
    · unfold leftV
      split
      · rename_i hr; exact opF_in (h.lim (List.mem_of_getElem? hP.hb)) hr _
      · omega
/-- where a class lies after a sale -/
theorem PlcR.add {q : Lg} {c : ByteArray} {b : Cb} {s : List Int} {x : Int} (hP : PlcR q c b s x) (m : Int) : PlcR (q.add c m) c b (wiL s (q.ck c) m) (x + m) := by
  have h1 := (List.getElem?_eq_some_iff.1 hP.hs).1
  have h2 := (List.getElem?_eq_some_iff.1 hP.hx).1
  refine ⟨hP.hb, ?_, ?_, ?_, hP.lt, hP.hi, hP.hk⟩
  · rw [add_so hP]
    show (q.so.set (q.ci c) (wiL s (q.ck c) m))[q.ci c]? = _
    rw [List.getElem?_set]
    simp [h1]
  · show (wiL s (q.ck c) m)[q.ck c]? = _
    rw [wiL_get m hP.hx, List.getElem?_set]
    simp [h2]
  · rw [wiL_len]; exact hP.len
theorem left_full {K : Int} {q : Lg} (h : OkL K q) {c : ByteArray} (h1 : 1 ≤ q.left c) : (q.add c (q.left c)).left c = 0 := by
  obtain ⟨hcl, hc, hp⟩ := left_pos h h1 (Int.le_refl _)
  obtain ⟨b, s, x, hP⟩ := h.plc hc
  obtain ⟨hr, hm, e⟩ := hp b s x hP
  have hlim := h.lim (List.mem_of_getElem? hP.hb)
  have h2 := (hP.add (q.left c)).lv (show (q.add c (q.left c)).has c = true from hc)
  rw [show (q.add c (q.left c)).cl = q.cl from rfl, hcl] at h2
  rw [h2]
  show (if false = true then 0 else leftV b (wiL s (q.ck c) (q.left c)) (q.ck c)) = 0
  simp only [Bool.false_eq_true, if_false]
  unfold leftV
  rw [e, if_pos (rgt_sell hlim hr hP.hx (by omega) (Int.le_refl _))]
  exact open_sold hlim hr hP.hx (by omega)

/-! ### all legs -/
theorem updS_same (g : Stk) (i : Lid) (q : Lg) : updS g i q i = some q := by unfold updS; rw [if_pos rfl]
theorem updS_else (g : Stk) {i j : Lid} (q : Lg) (h : j ≠ i) : updS g i q j = g j := by unfold updS; rw [if_neg h]
theorem add1_same {g : Stk} {i : Lid} {q : Lg} (h : g i = some q) (c : ByteArray) (m : Int) : addG1 g c m i i = some (q.add c m) := by
  unfold addG1
  rw [h]
  exact updS_same _ _ _
theorem add1_else (g : Stk) {i j : Lid} (c : ByteArray) (m : Int) (h : j ≠ i) : addG1 g c m i j = g j := by
  unfold addG1
  cases g i with
  | none => rfl
  | some q => exact updS_else _ _ h
theorem addG_yes {c : ByteArray} {m : Int} {j : Lid} {q : Lg} : ∀ (is : List Lid) (g : Stk), is.Nodup → j ∈ is → g j = some q → addG g is c m j = some (q.add c m)
  | [], g, _, hj, _ => by cases hj
  | i :: r, g, hn, hj, hq => by
    show addG (addG1 g c m i) r c m j = _
    rw [List.nodup_cons] at hn
    rcases List.mem_cons.1 hj with rfl | hj
    · rw [addG_no _ c m j r hn.1]
      exact add1_same hq c m
    · have hne : j ≠ i := fun e => hn.1 (e ▸ hj)
      exact addG_yes r _ hn.2 hj (by rw [add1_else g c m hne]; exact hq)
def FitG (g : Stk) : Prop := ∀ i q, g i = some q → FitL q
theorem FitG.exc {g : Stk} (h : FitG g) (i : Lid) : excG g i = 0 := by
  unfold excG
  cases hq : g i with
  | none => rfl
  | some q => exact (h i q hq).excess
theorem FitG.upd {g : Stk} (h : FitG g) {i : Lid} {q : Lg} (hq : FitL q) : FitG (updS g i q) := fun j q' hj => by
  unfold updS at hj
  split at hj
  · cases hj; exact hq
  · exact h j q' hj
theorem FitG.opn {cs : List Cf} {g : Stk} (h : FitG g) (hcs : ∀ f ∈ cs, GoodF f) (i : Lid) (s : ByteArray) : FitG (opnG cs g i s) := by
  unfold opnG
  split
  · exact h
  · cases hf : findQ cs s with
    | none => exact h
    | some f => exact h.upd (FitL.new (hcs f (find_mem hf)) false)
theorem FitG.clo {g : Stk} (h : FitG g) (i : Lid) : FitG (cloG g i) := by
  unfold cloG
  cases hq : g i with
  | none => exact h
  | some q => exact h.upd (h i q hq)
theorem FitG.sel {K : Int} {cs : List Cf} {g : Stk} (h : FitG g) (hG : OkG K cs g) (is : List Lid) (c : ByteArray) (m : Int) : FitG (selG g is c m) := by
  unfold selG
  split
  · rename_i h0
    obtain ⟨k1, _, k3, k4⟩ := sel_zero' h0
    intro j q' hj
    by_cases hm : j ∈ is
    · obtain ⟨q, hq, _, _, hl⟩ := k4 j hm
      rw [addG_yes is g k3 hm hq] at hj
      cases hj
      exact (h j q hq).sell (hG.leg j q hq).1 k1 hl
    · rw [addG_no g c m j is hm] at hj
      exact h j q' hj
  · exact h
theorem FitG.can {K : Int} {cs : List Cf} {g : Stk} (h : FitG g) (hG : OkG K cs g) (is : List Lid) (c : ByteArray) (m : Int) : FitG (canG g is c m) := by
  unfold canG
  split
  · rename_i h0
    obtain ⟨k1, _, k3, k4⟩ := can_zero' h0
    intro j q' hj
    by_cases hm : j ∈ is
    · obtain ⟨q, hq, hc, hl⟩ := k4 j hm
      rw [addG_yes is g k3 hm hq] at hj
      cases hj
      exact (h j q hq).cancel (hG.leg j q hq).1 hc k1 hl
    · rw [addG_no g c (-m) j is hm] at hj
      exact h j q' hj
  · exact h
/-! ### the sums -/
theorem sumG_up {K : Int} {cs : List Cf} {g : Stk} (hG : OkG K cs g) {is : List Lid} {c : ByteArray} {m : Int} (hn : is.Nodup) (hk : ∀ i ∈ is, ∃ q, g i = some q ∧ q.has c = true) {K' : Int} (hG' : OkG K' cs (addG g is c m)) (j : Lid) : sumG (addG g is c m) j = sumG g j + if j ∈ is then m else 0 := by
  by_cases hm : j ∈ is
  · obtain ⟨q, hq, hc⟩ := hk j hm
    rw [if_pos hm, sumG_eq hG' (addG_yes is g hn hm hq), sumG_eq hG hq, add_tot (hG.leg j q hq).1 hc]
  · rw [if_neg hm]
    unfold sumG cntG
    rw [addG_no g c m j is hm]
    omega
theorem sumG_sel {K : Int} {cs : List Cf} {g : Stk} (hG : OkG K cs g) (is : List Lid) (c : ByteArray) (m : Int) (j : Lid) : sumG (selG g is c m) j = sumG g j + if selP g is c m = 0 ∧ j ∈ is then m else 0 := by
  have hG' := hG.sel is c m
  unfold selG at hG' ⊢
  by_cases h0 : selP g is c m = 0
  · rw [if_pos h0] at hG' ⊢
    obtain ⟨_, _, k3, k4⟩ := sel_zero' h0
    rw [sumG_up hG k3 (fun i hi => by obtain ⟨q, hq, _, hc, _⟩ := k4 i hi; exact ⟨q, hq, hc⟩) hG' j]
    simp [h0]
  · rw [if_neg h0]
    simp [h0]
theorem sumG_can {K : Int} {cs : List Cf} {g : Stk} (hG : OkG K cs g) (is : List Lid) (c : ByteArray) (m : Int) (j : Lid) : sumG (canG g is c m) j = sumG g j + if canP g is c m = 0 ∧ j ∈ is then -m else 0 := by
  have hG' := hG.can is c m
  unfold canG at hG' ⊢
  by_cases h0 : canP g is c m = 0
  · rw [if_pos h0] at hG' ⊢
    obtain ⟨_, _, k3, k4⟩ := can_zero' h0
    rw [sumG_up hG k3 (fun i hi => by obtain ⟨q, hq, hc, _⟩ := k4 i hi; exact ⟨q, hq, hc⟩) hG' j]
    simp [h0]
  · rw [if_neg h0]
    simp [h0]
theorem sumG_clo (g : Stk) (i j : Lid) : sumG (cloG g i) j = sumG g j := by
  unfold cloG
  cases hq : g i with
  | none => rfl
  | some q =>
    unfold sumG cntG
    by_cases e : j = i
    · subst e
      show sumI ((match updS g j _ j with | some q => q.counts | none => []).map Prod.snd) = _
      rw [updS_same, hq]
      rfl
    · show sumI ((match updS g i _ j with | some q => q.counts | none => []).map Prod.snd) = _
      rw [updS_else g _ e]
      rfl
theorem tot_uns (f : Cf) : totP (unsP f) = 0 := by
  unfold totP unsP
  rw [List.map_map]
  have h : ∀ l : List Cb, sumI (l.map (sumI ∘ fun b => List.replicate b.l.length 0)) = 0 := by
    intro l
    induction l with
    | nil => rfl
    | cons b r ih =>
      simp only [List.map_cons, sumI, ih, Function.comp]
      have h2 : ∀ n : Nat, sumI (List.replicate n 0) = 0 := by
        intro n
        induction n with
        | zero => rfl
        | succ n ih => simp only [List.replicate_succ, sumI, ih]; rfl
      rw [h2]
      rfl
  exact h f.l
theorem sumG_opn {K : Int} {cs : List Cf} {g : Stk} (hG : OkG K cs g) (hcs : ∀ f ∈ cs, GoodF f) (hK : 0 ≤ K) (i : Lid) (s : ByteArray) (j : Lid) : sumG (opnG cs g i s) j = sumG g j := by
  unfold opnG
  split
  · rfl
  · rename_i hi
    cases hf : findQ cs s with
    | none => rfl
    | some f =>
      show sumG (updS g i ⟨f, unsP f, false⟩) j = _
      by_cases e : j = i
      · subst e
        have hn : g j = none := by cases h : g j with
          | none => rfl
          | some q => rw [h] at hi; simp at hi
        rw [sumG_none hn, sumG_eq (hG.upd (OkL.new hK (hcs f (find_mem hf))) (find_mem hf)) (updS_same _ _ _)]
        exact tot_uns f
      · unfold sumG cntG
        rw [updS_else g _ e]
theorem mv_tot {K : Int} {q : Lg} (h : OkL K q) {f : Cf} (hf : GoodF f) : ∀ k, totP (mvP q.f f (q.counts.take k)) = sumI ((q.counts.take k).map Prod.snd)
  | 0 => by
    show totP (unsP f) = 0
    exact tot_uns f
  | k + 1 => by
    have ih := mv_tot h hf k
    cases hx : q.counts[k]? with
    | none =>
      rw [List.take_add_one, hx]
      simpa using ih
    | some x =>
      obtain ⟨b, hb, y, hy, e1, s, hs, e2⟩ := cntB_mem (List.mem_of_getElem? hx)
      have hpl : plB q.f.l x.1 = true := by rw [e1]; exact pl_of_mem hb hy
      obtain ⟨h2, h3⟩ := like_ok (lb := f.l) hpl hf.2.2.2.1 hf.2.2.2.2
      have hadd := add_tot (OkL.mv h hf k) (c := (lkR q.f.l f.l x.1).1) h3 x.2
      rw [List.take_add_one, hx]
      have e3 : mvP q.f f (q.counts.take k ++ (some x).toList) = mv1 q.f f (mvP q.f f (q.counts.take k)) x := by
        unfold mvP
        rw [List.foldl_append]
        rfl
      rw [e3, List.map_append, sumI_app, ← ih]
      have e4 : sumI (((some x).toList).map Prod.snd) = x.2 := by
        show x.2 + 0 = _
        omega
      rw [e4]
      exact hadd
theorem sumG_rsz {K : Int} {cs : List Cf} {g : Stk} (hG : OkG K cs g) (hcs : ∀ f ∈ cs, GoodF f) (i : Lid) (s : ByteArray) (j : Lid) : sumG (rszG cs g i s) j = sumG g j := by
  unfold rszG
  cases hq : g i with
  | none => rfl
  | some q =>
    cases hf : findQ cs s with
    | none => rfl
    | some f =>
      show sumG (updS g i (q.resize f)) j = _
      have hL := (hG.leg i q hq).1
      have hgood := hcs f (find_mem hf)
      by_cases e : j = i
      · subst e
        have h1 := mv_tot hL hgood q.counts.length
        rw [List.take_length] at h1
        rw [sumG_eq (hG.upd (hL.resize hgood) (find_mem hf)) (updS_same _ _ _)]
        have h2 : sumI (q.counts.map Prod.snd) = totP q.so := cntB_sum q.f.l q.so hL.len hL.each
        rw [sumG_eq hG hq, ← h2]
        exact h1
      · unfold sumG cntG
        rw [updS_else g _ e]
/-! ### the availability of a class -/
theorem left_facts {K : Int} {cs : List Cf} {g : Stk} (hG : OkG K cs g) (i : Lid) (c : ByteArray) : (0 ≤ leftG g i c ∧ leftG g i c ≤ 400000) ∧ selP g [i] c (leftG g i c + 1) ≠ 0 ∧ (1 ≤ leftG g i c → selP g [i] c (leftG g i c) = 0 ∧ leftG (selG g [i] c (leftG g i c)) i c = 0) := by
  cases hq : g i with
  | none =>
    have e : leftG g i c = 0 := by unfold leftG; rw [hq]
    rw [e]
    refine ⟨by omega, fun h => ?_, fun h => by omega⟩
    obtain ⟨_, _, _, k4⟩ := sel_zero' h
    obtain ⟨q, h1, _⟩ := k4 i (by simp)
    rw [hq] at h1
    cases h1
  | some q =>
    have hL := (hG.leg i q hq).1
    have e : leftG g i c = q.left c := by unfold leftG; rw [hq]
    rw [e]
    refine ⟨leftL_in hL c, fun h => ?_, fun h => ?_⟩
    · obtain ⟨_, _, _, k4⟩ := sel_zero' h
      obtain ⟨q', h1, _, _, h2⟩ := k4 i (by simp)
      rw [hq] at h1
      cases h1
      omega
    · obtain ⟨hcl, hc, _⟩ := left_pos hL h (Int.le_refl _)
      have e0 : selP g [i] c (q.left c) = 0 := by
        have hne : ¬ q.left c < q.left c := by omega
        have hne1 : ¬ q.left c < 1 := by omega
        unfold selP chkE onL twiP twiP
        simp [hq, hcl, hc, hne, hne1]
      refine ⟨e0, ?_⟩
      unfold selG
      rw [if_pos e0]
      unfold leftG
      rw [addG_yes [i] g (by simp) (by simp) hq]
      exact left_full hL h
end Go.Proofs.YtjmahmeionakaaaGreatDoor
