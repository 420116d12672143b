/- The specification's Expire. -/
import Derived.Test.YthillkbcbklhaaaHldQF
import Derived.Test.YthillkbcbklhaaaHldQG
namespace Go.Proofs.Ythillkbcbklhaaa
open Go.RowKit Go.Shelf Go.Maps Go.MapKept
set_option linter.unusedSimpArgs false
set_option linter.unusedVariables false

theorem alsz (w : World) (o : Obj) : (w.alloc o).heap.size = w.heap.size + 1 := by simp


/-- the state after k holds went -/
structure EX (w0 : World) (B : Nat) (hs : List Hd) (m : Int) (k : Nat) (A : Option Addr) (c : Nat) (v : Value) (W : World) : Prop where
  ref : RefAt W B A c (hs.drop k)
  far : hs.drop k ≠ [] → ∀ a, A = some a → v.ownBlock ≠ some a.block
  out : ROwn rhT 5 encH w0.heap.size W v (hs.take k)
  but : But w0 W (fun j => j = B)
  til : ∀ (j : Nat) (x : Hd), j < k → hs[j]? = some x → x.til ≤ m
  le : k ≤ hs.length
theorem RefAt.chg {w0 W W' : World} {B : Nat} {hs : List Hd} {A : Option Addr} {c : Nat} {v : Value} (h : RefAt W B A c hs) (hb : But W W' (fun j => v.ownBlock = some j)) (hB : v.ownBlock ≠ some B) (hA : hs ≠ [] → ∀ a, A = some a → v.ownBlock ≠ some a.block) (hok : ∀ y ∈ hs, RowIn (fun k => k ≠ B) 4 encD W' y.A y.l) : RefAt W' B A c hs := by
  refine ⟨(hb.block B h.lt hB).trans h.blk, h.cap, h.form, ?_, h.srt, fun y hy => ⟨(h.ok y hy).1, hok y hy, (h.ok y hy).2.2⟩⟩
  by_cases e0 : hs = []
  · exact .inl e0
  rcases h.rows with e | ⟨b, o, e, h1, h2, h3⟩
  · exact .inl e
  · exact .inr ⟨b, o, e, h1, Nat.lt_of_lt_of_le h2 hb.size, fun i x j u hi hj => but_cell hb (h3 i x j u hi hj) (fun q => hA e0 _ e q)⟩
theorem ex_step {w0 wr w2 w4 w5 : World} {B : Nat} {hs : List Hd} {m : Int} {k : Nat} {A0 A : Option Addr} {c0 c : Nat} {v v' : Value} {x : Hd} (h0 : RefAt w0 B A0 c0 hs) (h : EX w0 B hs m k A c v wr) (hx : hs[k]? = some x) (hm : x.til ≤ m)
    (h2 : RefF wr.heap.size w2 B (hs.drop (k + 1))) (hb2 : But wr w2 (fun j => j = B)) (hb4 : Below w2.heap.size w2 w4) (hO : ROwn rhT 5 encH w0.heap.size w5 v' (hs.take k ++ [x])) (hC : Chg w4 w5 v v') : ∃ A' c', EX w0 B hs m (k + 1) A' c' v' w5 := by
  obtain ⟨A', c', hr, hf⟩ := h2
  have hBlt := h0.lt
  have hvB : v.ownBlock ≠ some B := fun e => by have := (h.out.low e).1; omega
  have hvlt : ∀ j, v.ownBlock = some j → w0.heap.size ≤ j ∧ j < wr.heap.size := fun j e => h.out.low e
  have hs1 := h.but.size
  have hs2 := hb2.size
  have hs4 := hb4.size
  have hb24 : But w0 w4 (fun j => j = B) := (h.but.trans hb2 (fun _ _ e => e)).trans (But.of_below hb4) (fun _ _ e => e)
  have hb5 : But w0 w5 (fun j => j = B) := hb24.trans hC.but (fun j hj e => by have := (hvlt j e).1; omega)
  have hr4 := hr.more hb4
  refine ⟨A', c', hr4.chg (w0 := w0) hC.but hvB (fun _ a e e2 => by have := hf a e; have := (hvlt _ e2).2; omega) (fun y hy => ?_), fun e0 a e e2 => ?_, ?_, hb5, fun j y hj hy => ?_, (List.getElem?_eq_some_iff.1 hx).1⟩
  · have hy0 : y ∈ hs := List.mem_of_mem_drop hy
    exact ((h0.ok y hy0).2.1.lowR.but hb5 (fun j e hj => hj.1 e)).imp (fun j hj => hj.1)
  · rcases hC.own _ e2 with e3 | e3
    · have := hf a e
      have := (hvlt _ e3).2
      omega
    · rcases hr4.rows with e4 | ⟨b, o, e4, _, h5, _⟩
      · exact e0 e4
      · rw [e] at e4
        cases e4
        have h7 : b < w4.heap.size := h5
        have h8 : w4.heap.size ≤ b := e3
        omega
  · rw [List.take_add_one, hx]
    exact hO
  · by_cases e : j = k
    · rw [e, hx] at hy; cases hy; exact hm
    · exact h.til j y (by omega) hy
/-- what the specification's Expire tells -/
def RExpR (hs : List Hd) (m : Int) (w : World) (B : Nat) (e : Ending) (w' : World) : Prop :=
  ∃ v, e = .returned v ∧ ROwn rhT 5 encH w.heap.size w' v (goneH m hs) ∧ RefS w' B (restH m hs) ∧ But w w' (fun k => k = B)
theorem EX.done {w0 W : World} {B : Nat} {hs : List Hd} {m : Int} {k : Nat} {A0 A : Option Addr} {c0 c : Nat} {v : Value} (h0 : RefAt w0 B A0 c0 hs) (h : EX w0 B hs m k A c v W) (hn : ∀ x, hs[k]? = some x → ¬ x.til ≤ m) : RExpR hs m w0 B (.returned v) W := by
  obtain ⟨e1, e2⟩ := gone_take h0.srt h.le h.til hn
  exact ⟨v, rfl, by rw [e1]; exact h.out, by rw [e2]; exact ⟨A, c, h.ref⟩, h.but⟩
set_option maxRecDepth 100000 in
set_option maxHeartbeats 8000000 in
theorem rexp_any (B : Nat) (hs : List Hd) (m : Int) (w : World) (hl : hs.length ≤ 1000) (h : RefS w B hs) :
    Calls Try.prog 20 #[.pointer (some ⟨B, 0, none⟩), .int .i64 m] w (RExpR hs m w B) := by
  obtain ⟨A0, c0, h⟩ := h
  have HS := Lib.hid h
  have HI : Hid (∃ A c, EX w B hs m 0 A c (.slice none 0 0) w) := Lib.hid ⟨A0, c0, h, fun _ a _ e => (by cases e), ROwn.nil (Nat.le_refl _), But.refl _ _, fun j x hj => absurd hj (Nat.not_lt_zero _), Nat.zero_le _⟩
  clear h
  go_enter Try.func20, Try.ntmps20
  go_wp2
  go_loopg [5] hs.length (fun kx v5 wr => ∃ (k : Nat) (v : Value), v = v5 ∧ k + kx = hs.length ∧ Hid (∃ A c, EX w B hs m k A c v wr))
  case atStart => exact ⟨0, _, rfl, by omega, HI⟩
  case round =>
    clear HI
    obtain ⟨k, v, rfl, hkx, HX⟩ := hrel
    have HKX := Lib.hid hkx
    obtain ⟨A, c, hX⟩ := HX.out
    have b0 := hX.ref.box
    by_cases hlt : k < hs.length
    · obtain ⟨x, hx⟩ : ∃ x, hs[k]? = some x := ⟨_, List.getElem?_eq_getElem hlt⟩
      have hd0 : (hs.drop k)[0]? = some x := by rw [List.getElem?_drop]; exact hx
      obtain ⟨b, o, rfl, _, hc⟩ := row_get (hX.ref.rows.rowL c) hd0
      have x0 := hc 0 _ rfl
      have x1 := hc 1 _ rfl
      have x2 := hc 2 _ rfl
      have x3 := hc 3 _ rfl
      have x4 := hc 4 _ rfl
      rw [Nat.zero_mul, Nat.add_zero] at x0 x1 x2 x3 x4
      obtain ⟨n1, hn1⟩ : ∃ n1, n1 = (hs.drop k).length := ⟨_, rfl⟩
      have hn2 : 0 < n1 := by rw [hn1, List.length_drop]; omega
      rw [← hn1] at b0
      have i1 : (0 : Int) < (n1 : Int) := by omega
      have d0 : decide ((0 : Int) < (n1 : Int)) = true := decide_eq_true i1
      have HXX := Lib.hid hx
      by_cases hm : x.til ≤ m
      · have d1 : decide (x.til ≤ m) = true := decide_eq_true hm
        obtain ⟨hf, hdr⟩ := head_drop HS.out.srt hx
        have KD := Lib.hid (rdropF_any B (some ⟨b, o, none⟩) c (hs.drop k) x.id wr (by rw [List.length_drop]; omega) hX.ref hf)
        rw [hf, hdr] at KD
        have hd1 : dropE (hs.drop k) x.id = 0 := by unfold dropE; rw [hf]; rfl
        rw [hd1] at KD
        have KD : Hid (Calls Try.prog 14 #[.pointer (some ⟨B, 0, none⟩), .int .i64 x.id] wr fun e w' => e = .returned (.tuple #[aggH x, .int .i64 0]) ∧ RefF wr.heap.size w' B (hs.drop (k + 1)) ∧ But wr w' (fun k => k = B)) := KD
        have HST : Hid (∀ w2 w4 w5 v', RefF wr.heap.size w2 B (hs.drop (k + 1)) → But wr w2 (fun j => j = B) → Below w2.heap.size w2 w4 → ROwn rhT 5 encH w.heap.size w5 v' (hs.take k ++ [x]) → Chg w4 w5 v v' → ∃ A' c', EX w B hs m (k + 1) A' c' v' w5) := Lib.hid (fun w2 w4 w5 v' h1 h2 h3 h4 h5 => ex_step HS.out hX hx hm h1 h2 h3 h4 h5)
        have HV : Hid (∀ w2, But wr w2 (fun j => j = B) → ROwn rhT 5 encH w.heap.size w2 v (hs.take k)) := Lib.hid (fun w2 h2 => by
          have hBlt := HS.out.lt
          have ho := hX.out
          refine ⟨⟨ho.own.1, ?_⟩, Nat.le_trans ho.base h2.size⟩
          rcases ho.own.2 with e | ⟨g, cap, cur, e, q1, q2, q3⟩
          · exact .inl e
          · exact .inr ⟨g, cap, cur, e, q1, (h2.block g (Array.getElem?_eq_some_iff.1 q2).1 (by omega)).trans q2, q3⟩)
        have HLM : Hid ((hs.take k).length ≤ 100000000) := Lib.hid (by rw [List.length_take]; omega)
        clear hx hd0 hc hX HX hm hf hdr hd1 hlt hn1
        go_upto_region 4 with (go_at_call 14; (with_reducible refine KD.out.mono ?_); rintro e w8 ⟨rfl, hR8, hB8⟩)
        have hb8 := bel_alloc w8 (.cells #[.int .i64 x.id, .slice x.A x.l.length x.c, .string x.cls, .int .i64 x.cnt, .int .i64 x.til] 31)
        have hb9 := bel_alloc (w8.alloc (.cells #[.int .i64 x.id, .slice x.A x.l.length x.c, .string x.cls, .int .i64 x.cnt, .int .i64 x.til] 31)) (.cells #[.int .i64 x.id, .slice x.A x.l.length x.c, .string x.cls, .int .i64 x.cnt, .int .i64 x.til] 31)
        have hb10 := hb8.trans (hb9.mono hb8.size)
        have HO := Lib.hid ((HV.out w8 hB8).more hb10)
        have HG := Lib.hid (And.intro hR8 (And.intro hB8 hb10))
        have HNA : Hid (((w8.alloc (.cells #[.int .i64 x.id, .slice x.A x.l.length x.c, .string x.cls, .int .i64 x.cnt, .int .i64 x.til] 31)).alloc (.cells #[.int .i64 x.id, .slice x.A x.l.length x.c, .string x.cls, .int .i64 x.cnt, .int .i64 x.til] 31)).heap[w8.heap.size + 1]? = some (.cells #[.int .i64 x.id, .slice x.A x.l.length x.c, .string x.cls, .int .i64 x.cnt, .int .i64 x.til] 31)) := Lib.hid (by
          have h := heap_alloc_new (w8.alloc (.cells #[.int .i64 x.id, .slice x.A x.l.length x.c, .string x.cls, .int .i64 x.cnt, .int .i64 x.til] 31)) (.cells #[.int .i64 x.id, .slice x.A x.l.length x.c, .string x.cls, .int .i64 x.cnt, .int .i64 x.til] 31)
          rw [alsz w8 _] at h
          exact h)
        clear hR8 hB8 hb9 hb10
        go_wp2_with (at_builtin; refine wpList_rapp rowRH rfl _ _ rfl HO.out rfl (Below.refl _ _) _ x _ rfl (cs := #[.int .i64 x.id, .slice x.A x.l.length x.c, .string x.cls, .int .i64 x.cnt, .int .i64 x.til]) rfl HNA.out HLM.out ?_; intro v1 w1x hO1 hC1)
        have HN1 : Hid (∃ A c, EX w B hs m (k + 1) A c v1 w1x) := Lib.hid (HST.out w8 _ w1x v1 HG.out.1 HG.out.2.1 HG.out.2.2 hO1 hC1)
        clear hO1 hC1
        go_roundg (hs.length - (k + 1))
        case measure => have := HKX.out; have := (List.getElem?_eq_some_iff.1 HXX.out).1; omega
        case rel => exact ⟨k + 1, _, rfl, by have := (List.getElem?_eq_some_iff.1 HXX.out).1; omega, HN1⟩
      · have d1 : decide (x.til ≤ m) = false := decide_eq_false hm
        have HF := Lib.hid (hX.done HS.out (fun y hy => by rw [hx] at hy; cases hy; exact hm))
        clear hx hd0 hc hX HX hm hlt hn1
        go_wp2
        go_ret
        exact HF.out
    · have hn1 : (hs.drop k).length = 0 := by rw [List.length_drop]; omega
      have HF := Lib.hid (hX.done HS.out (fun y hy => by have := (List.getElem?_eq_some_iff.1 hy).1; omega))
      rw [hn1] at b0
      clear hX HX hlt hn1
      go_wp2
      go_ret
      exact HF.out
end Go.Proofs.Ythillkbcbklhaaa
