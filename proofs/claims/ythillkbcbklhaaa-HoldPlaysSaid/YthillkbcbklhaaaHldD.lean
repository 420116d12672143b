/- Put, Drop, Extend. -/
import Derived.Test.YthillkbcbklhaaaHldC
namespace Go.Proofs.Ythillkbcbklhaaa
open Go.RowKit Go.Shelf Go.Maps Go.MapKept
set_option linter.unusedSimpArgs false
set_option linter.unusedVariables false

theorem rgt_id {h : Hd} (hr : rgtH h = true) : 1 ≤ h.id ∧ timB h.til = true := by
  unfold rgtH at hr
  simp only [Bool.and_eq_true, decide_eq_true_eq] at hr
  exact ⟨hr.1.1.1.1.1, hr.2⟩
section
variable {w : World} {B mb n : Nat} {hs : List Hd}
theorem HldAt.look (h : HldAt w B mb n hs) {i : Int} (hi : -9223372036854775808 ≤ i ∧ i ≤ 9223372036854775807) : (Instr.lookup hmT (.map (some mb)) (.int .i64 i) true).run Try.prog w = .ok (.tuple #[((findH hs i).map aggH).getD zH, .bool (findH hs i).isSome]) w := by
  have h1 := h.map.look intK Try.underlying56 (zeroH w) (key_int i hi) true
  rw [if_pos rfl] at h1
  refine h1.trans ?_
  unfold gH
  cases findH hs i <;> rfl
theorem HldAt.store (h : HldAt w B mb n hs) (hn : n < 1000000) {x : Hd} (hok : OkH x) (hrg : rgtH x = true) (hr : RowIn (fun k => k ≠ mb) 4 encD w x.A x.l) :
    ∃ w9, (Instr.mapUpdate hmT (.map (some mb)) (.int .i64 x.id) (aggH x)).run Try.prog w = .ok () w9 ∧ HldAt w9 B mb (n + 1) (insH x (dropH hs x.id)) ∧ But w w9 (fun k => k = mb) := by
  obtain ⟨w9, hrun, hm, hg⟩ := h.map.store intK enI_inj Try.underlying56 (show n < maxLen by unfold maxLen; omega) (key_int x.id ⟨hok.i0, hok.i1⟩) (aggH x)
  have hbut : But w w9 (fun k => k = mb) := ⟨hg.os, hg.tape, hg.output, hg.size, fun j hj hn => hg.block j hj (fun e => hn (Option.some.inj e))⟩
  rw [gH_put h.srt x] at hm
  refine ⟨w9, hrun, ⟨but_cell hbut h.box h.hB, hm, (h.srt.drop x.id).ins (fun y hy => (mem_drop.1 hy).2), fun y hy => ?_⟩, hbut⟩
  rcases (mem_ins _).1 hy with rfl | hy
  · exact ⟨hok, hr.but hbut (fun k e hk => hk e), hrg⟩
  · have h1 := h.ok y (mem_drop.1 hy).1
    exact ⟨h1.1, h1.2.1.but hbut (fun k e hk => hk e), h1.2.2⟩
theorem HldAt.del (h : HldAt w B mb n hs) {i : Int} (hi : -9223372036854775808 ≤ i ∧ i ≤ 9223372036854775807) (ty : TypeId) :
    ∃ w9, (Builtin.delete_ #[hmT, 3] ty #[.map (some mb), .int .i64 i]).run Try.prog w = .ok (.tuple #[]) w9 ∧ HldAt w9 B mb n (dropH hs i) ∧ But w w9 (fun k => k = mb) := by
  obtain ⟨w9, hrun, hm, hg⟩ := h.map.drop intK enI_inj Try.underlying56 (key_int i hi) ty
  have hbut : But w w9 (fun k => k = mb) := ⟨hg.os, hg.tape, hg.output, hg.size, fun j hj hn => hg.block j hj (fun e => hn (Option.some.inj e))⟩
  rw [gH_drop h.srt i] at hm
  exact ⟨w9, hrun, ⟨but_cell hbut h.box h.hB, hm, h.srt.drop i, fun y hy => by
    have h1 := h.ok y (mem_drop.1 hy).1
    exact ⟨h1.1, h1.2.1.but hbut (fun k e hk => hk e), h1.2.2⟩⟩, hbut⟩
end
/-- Put at a set that New did not return -/
theorem put_void (p : Option Addr) (h : Hd) (w : World) (hv : VoidH w p) : Calls Try.prog 11 #[.pointer p, aggH h] w fun e w' => e = .returned (.int .i64 1) ∧ Below w.heap.size w w' := by
  have hb := bel_alloc w (.cells #[.int .i64 h.id, .slice h.A h.l.length h.c, .string h.cls, .int .i64 h.cnt, .int .i64 h.til] hdT)
  have K := Lib.hid (isVoid_yes p _ (hv.more hb))
  have HB := Lib.hid hb
  clear hb
  go_enter Try.func11, Try.ntmps11
  go_upto_region 1 with fail
  generalize w.alloc (.cells #[.int .i64 h.id, .slice h.A h.l.length h.c, .string h.cls, .int .i64 h.cnt, .int .i64 h.til] hdT) = w5 at *
  go_wp2_with (go_at_call 25; (with_reducible refine K.out.mono ?_); rintro e w6 ⟨rfl, rfl⟩)
  go_ret
  exact ⟨rfl, HB.out⟩
def putG (hs : List Hd) (h : Hd) : List Hd := if putE hs h = 0 then insH h hs else hs
set_option maxRecDepth 100000 in
set_option maxHeartbeats 8000000 in
theorem put_any {B mb n : Nat} {hs : List Hd} (h : Hd) (w : World) (hS : HldAt w B mb n hs) (hn : n < 100000) (hok : OkH h) (hr : RowIn (fun k => k ≠ mb) 4 encD w h.A h.l) :
    Calls Try.prog 11 #[.pointer (some ⟨B, 0, none⟩), aggH h] w fun e w' => e = .returned (.int .i64 (putE hs h)) ∧ (∃ A' c', HldAt w' B mb (n + 1) (putG hs { h with A := A', c := c' })) ∧ But w w' (fun k => k = mb) := by
  have hb := bel_alloc w (.cells #[.int .i64 h.id, .slice h.A h.l.length h.c, .string h.cls, .int .i64 h.cnt, .int .i64 h.til] hdT)
  have hS5 := hS.more hb
  have K0 := Lib.hid (isVoid_no B mb (w.alloc (.cells #[.int .i64 h.id, .slice h.A h.l.length h.c, .string h.cls, .int .i64 h.cnt, .int .i64 h.til] hdT)) hS5.box)
  have K1 := Lib.hid (isRight_any h (w.alloc (.cells #[.int .i64 h.id, .slice h.A h.l.length h.c, .string h.cls, .int .i64 h.cnt, .int .i64 h.til] hdT)) hok ((hr.rowL h.c).more hb))
  have q0 := hd_cells w h 0 _ rfl
  have q1 := hd_cells w h 1 _ rfl
  have q2 := hd_cells w h 2 _ rfl
  have q3 := hd_cells w h 3 _ rfl
  have q4 := hd_cells w h 4 _ rfl
  have hmono : ∀ {W : World} {ks : List Hd}, HldAt W B mb n ks → HldAt W B mb (n + 1) ks := fun h => ⟨h.box, by obtain ⟨es, cl, a1, a2, a3, a4⟩ := h.map; exact ⟨es, cl, a1, a2, Nat.le_succ_of_le a3, a4⟩, h.srt, h.ok⟩
  have HS5 := Lib.hid hS5
  have HB := Lib.hid hb
  have HR5 := Lib.hid (hr.more hb)
  have hLT : Hid (∀ es cl, w.heap[mb]? = some (.map es cl) → mb < w.heap.size) := Lib.hid (fun es cl h => lt_of_cell2 h)
  clear hb hS hr
  unfold putG putE
  show Calls _ _ _ _ fun e w' => e = .returned (.int .i64 (if rgtH h = false then 2 else if (findH hs h.id).isSome = true then 6 else 0)) ∧ (∃ A' c', HldAt w' B mb (n + 1) (if (if rgtH h = false then 2 else if (findH hs h.id).isSome = true then 6 else 0) = (0 : Int) then insH { h with A := A', c := c' } hs else hs)) ∧ But w w' (fun k => k = mb)
  cases hg : rgtH h with
  | false =>
    rw [hg] at K1
    rw [if_pos rfl]
    simp only [show ¬ ((2 : Int) = 0) by decide, if_false]
    have HF := Lib.hid (hmono HS5.out)
    clear hmono hS5
    go_enter Try.func11, Try.ntmps11
    go_upto_region 1 with fail
    generalize w.alloc (.cells #[.int .i64 h.id, .slice h.A h.l.length h.c, .string h.cls, .int .i64 h.cnt, .int .i64 h.til] hdT) = w5 at *
    go_wp2_with (first
      | (go_at_call 25; (with_reducible refine K0.out.mono ?_); rintro e w6 ⟨rfl, rfl⟩)
      | (go_at_call 26; (with_reducible refine K1.out.mono ?_); rintro e w7 ⟨rfl, hb7⟩))
    go_ret
    exact ⟨rfl, ⟨h.A, h.c, HF.out.more hb7⟩, (But.of_below HB.out).trans (But.of_below hb7) (fun _ _ h => h)⟩
  | true =>
    rw [hg] at K1
    rw [if_neg (by decide)]
    have HLK : Hid (∀ W, HldAt W B mb n hs → (Instr.lookup hmT (.map (some mb)) (.int .i64 h.id) true).run Try.prog W = .ok (.tuple #[((findH hs h.id).map aggH).getD zH, .bool (findH hs h.id).isSome]) W) := Lib.hid (fun W hW => hW.look ⟨hok.i0, hok.i1⟩)
    cases hf : findH hs h.id with
    | some y =>
      rw [hf] at HLK
      rw [if_pos (show (some y).isSome = true from rfl)]
      simp only [show ¬ ((6 : Int) = 0) by decide, if_false]
      have HMN : Hid (∀ W, HldAt W B mb n hs → HldAt W B mb (n + 1) hs) := Lib.hid (fun W h => hmono h)
      clear hmono hS5 hf hg
      go_enter Try.func11, Try.ntmps11
      go_upto_region 1 with fail
      generalize w.alloc (.cells #[.int .i64 h.id, .slice h.A h.l.length h.c, .string h.cls, .int .i64 h.cnt, .int .i64 h.til] hdT) = w5 at *
      go_upto_region 5 with (first
        | (go_at_call 25; (with_reducible refine K0.out.mono ?_); rintro e w6 ⟨rfl, rfl⟩)
        | (go_at_call 26; (with_reducible refine K1.out.mono ?_); rintro e w7 ⟨rfl, hb7⟩))
      have hS7 := HS5.out.more hb7
      have hbZ := bel_alloc w7 (.cells #[.int .i64 0, .slice none 0 0, .string noB, .int .i64 0, .int .i64 0] 36)
      have hS8 := hS7.more hbZ
      have l1 : (Instr.lookup hmT (.map (some mb)) (.int .i64 h.id) true).run Try.prog w7.drew = .ok (.tuple #[aggH y, .bool true]) w7.drew := HLK.out _ hS7.drew
      have l2 : (Instr.lookup hmT (.map (some mb)) (.int .i64 h.id) true).run Try.prog (w7.alloc (.cells #[.int .i64 0, .slice none 0 0, .string noB, .int .i64 0, .int .i64 0] 36)).drew = .ok (.tuple #[aggH y, .bool true]) (w7.alloc (.cells #[.int .i64 0, .slice none 0 0, .string noB, .int .i64 0, .int .i64 0] 36)).drew := HLK.out _ hS8.drew
      have c1 := hS7.box
      have c2 := hS8.box
      have y0 := bel_cell hb7 q0
      have z0 := bel_cell hbZ y0
      have HS7 := Lib.hid (HMN.out _ hS7)
      clear hS7 hS8 hbZ q0 q1 q2 q3 q4
      refine (fun (hh : Hid ?goal) => ?walk) (Lib.hid ?rest)
      case walk =>
        go_region
        all_goals exact hh.out
      go_wp2
      go_ret
      have hbY := (bel_alloc w7 (.cells #[.int .i64 y.id, .slice y.A y.l.length y.c, .string y.cls, .int .i64 y.cnt, .int .i64 y.til] hdT)).drew
      exact ⟨rfl, ⟨h.A, h.c, HS7.out.more hbY⟩, ((But.of_below HB.out).trans (But.of_below hb7) (fun _ _ h => h)).trans (But.of_below hbY) (fun _ _ h => h)⟩
    | none =>
      rw [hf] at HLK
      rw [if_neg (by decide)]
      simp only [if_true]
      have HST : Hid (∀ W A' c', HldAt W B mb n hs → RowIn (fun k => k ≠ mb) 4 encD W A' h.l → ∃ w9, (Instr.mapUpdate hmT (.map (some mb)) (.int .i64 h.id) (.agg #[.int .i64 h.id, .slice A' h.l.length c', .string h.cls, .int .i64 h.cnt, .int .i64 h.til])).run Try.prog W = .ok () w9 ∧ HldAt w9 B mb (n + 1) (insH { h with A := A', c := c' } hs) ∧ But W w9 (fun k => k = mb)) := Lib.hid (fun W A' c' hW hr => by
        have := hW.store (x := { h with A := A', c := c' }) (by omega) ⟨hok.i0, hok.i1, hok.len, hok.legs, hok.cls⟩ (show rgtH h = true from hg) hr
        rw [show dropH hs ({ h with A := A', c := c' } : Hd).id = hs from drop_none hf] at this
        exact this)
      have KC : Hid (∀ W, LidL W (.slice h.A h.l.length h.c) h.l → Calls Try.prog 27 #[aggH h] W fun e w' => ∃ A' c', e = .returned (aggH { h with A := A', c := c' }) ∧ RowIn (fun b => W.heap.size ≤ b) 4 encD w' A' h.l ∧ Below W.heap.size W w') := Lib.hid (fun W hW => clone_any h W hok.len hW)
      clear hmono hS5 hf hg hok
      go_enter Try.func11, Try.ntmps11
      go_upto_region 1 with fail
      generalize w.alloc (.cells #[.int .i64 h.id, .slice h.A h.l.length h.c, .string h.cls, .int .i64 h.cnt, .int .i64 h.til] hdT) = w5 at *
      go_upto_region 5 with (first
        | (go_at_call 25; (with_reducible refine K0.out.mono ?_); rintro e w6 ⟨rfl, rfl⟩)
        | (go_at_call 26; (with_reducible refine K1.out.mono ?_); rintro e w7 ⟨rfl, hb7⟩))
      have hS7 := HS5.out.more hb7
      have hbZ := bel_alloc w7 (.cells #[.int .i64 0, .slice none 0 0, .string noB, .int .i64 0, .int .i64 0] 36)
      have hS8 := hS7.more hbZ
      have l1 : (Instr.lookup hmT (.map (some mb)) (.int .i64 h.id) true).run Try.prog w7.drew = .ok (.tuple #[zH, .bool false]) w7.drew := HLK.out _ hS7.drew
      have l2 : (Instr.lookup hmT (.map (some mb)) (.int .i64 h.id) true).run Try.prog (w7.alloc (.cells #[.int .i64 0, .slice none 0 0, .string noB, .int .i64 0, .int .i64 0] 36)).drew = .ok (.tuple #[zH, .bool false]) (w7.alloc (.cells #[.int .i64 0, .slice none 0 0, .string noB, .int .i64 0, .int .i64 0] 36)).drew := HLK.out _ hS8.drew
      have c1 := hS7.box
      have c2 := hS8.box
      have y0 := bel_cell hb7 q0
      have z0 := bel_cell hbZ y0
      have hbY := hb7.trans (((bel_alloc w7 (.cells #[.int .i64 0, .slice none 0 0, .string noB, .int .i64 0, .int .i64 0] 36)).drew).mono hb7.size)
      have HS7 := Lib.hid (HS5.out.more hbY)
      have HR7 := Lib.hid (HR5.out.more hbY)
      have r0 := bel_cell hbY q0
      have r1 := bel_cell hbY q1
      have r2 := bel_cell hbY q2
      have r3 := bel_cell hbY q3
      have r4 := bel_cell hbY q4
      have HBY : Hid (But w (w7.alloc (.cells #[.int .i64 0, .slice none 0 0, .string noB, .int .i64 0, .int .i64 0] 36)).drew (fun k => k = mb)) := Lib.hid ((But.of_below HB.out).trans (But.of_below hbY) (fun _ _ h => h))
      clear hS7 hS8 hbZ q0 q1 q2 q3 q4 hbY
      refine (fun (hh : Hid ?goal2) => ?walk2) (Lib.hid ?rest2)
      case walk2 =>
        go_region
        all_goals exact hh.out
      clear l1 l2 c1 c2 y0 z0
      go_upto_region 8 with fail
      generalize (w7.alloc (.cells #[.int .i64 0, .slice none 0 0, .string noB, .int .i64 0, .int .i64 0] 36)).drew = w8 at *
      have hm8 := HS7.out.map
      have f0 : ∀ W, But w8 W (fun k => k = mb) → _ := fun W h => but_cell h r0 (fun e => nomap_cell' r0 hm8 e)
      have f1 : ∀ W, But w8 W (fun k => k = mb) → _ := fun W h => but_cell h r1 (fun e => nomap_cell' r1 hm8 e)
      have f2 : ∀ W, But w8 W (fun k => k = mb) → _ := fun W h => but_cell h r2 (fun e => nomap_cell' r2 hm8 e)
      have f3 : ∀ W, But w8 W (fun k => k = mb) → _ := fun W h => but_cell h r3 (fun e => nomap_cell' r3 hm8 e)
      have f4 : ∀ W, But w8 W (fun k => k = mb) → _ := fun W h => but_cell h r4 (fun e => nomap_cell' r4 hm8 e)
      have r5 := HS7.out.box
      have f5 : ∀ W, But w8 W (fun k => k = mb) → _ := fun W h => but_cell h r5 (fun e => nomap_cell' r5 hm8 e)
      have hlt8 : mb < w8.heap.size := MapK.lt hm8
      clear r0 r1 r2 r3 r4 r5 hm8 hb7
      have hS : (fun W => But w8 W (fun k => k = mb)) _ := But.of_below (Below.refl _ _).drew
      refine wp_region_held_drew (S := fun W => But w8 W (fun k => k = mb)) (by kernel_rfl) hS (fun _ => ?_)
      refine wpAnyH_take (i := 0) (v := ?vA0) rfl (by kernel_rfl) (by kernel_rfl) (by kernel_rfl) (fun _ _ _ h => h) (Or.inl ⟨by rfl, ?hyA0⟩) hS ?restA0
      case hyA0 =>
        intro w hSw
        first | (go_simp; done) | (go_simp; with_reducible rfl)
      try simp only [Act.put, List.setIfInBounds_toArray, List.set_cons_zero, List.set_cons_succ]
      refine wpAnyH_take (i := 1) (v := ?vA1) rfl (by kernel_rfl) (by kernel_rfl) (by kernel_rfl) (fun _ _ _ h => h) (Or.inl ⟨by rfl, ?hyA1⟩) hS ?restA1
      case hyA1 =>
        intro w hSw
        first | (go_simp; done) | (go_simp; with_reducible rfl)
      try simp only [Act.put, List.setIfInBounds_toArray, List.set_cons_zero, List.set_cons_succ]
      refine wpAnyH_take (i := 2) (v := ?vA2) rfl (by kernel_rfl) (by kernel_rfl) (by kernel_rfl) (fun _ _ _ h => h) (Or.inl ⟨by rfl, ?hyA2⟩) hS ?restA2
      case hyA2 =>
        intro w hSw
        first | (go_simp; done) | (go_simp; with_reducible rfl)
      try simp only [Act.put, List.setIfInBounds_toArray, List.set_cons_zero, List.set_cons_succ]
      refine wpAnyH_take (i := 3) (v := ?vA3) rfl (by kernel_rfl) (by kernel_rfl) (by kernel_rfl) (fun _ _ _ h => h) (Or.inl ⟨by rfl, ?hyA3⟩) hS ?restA3
      case hyA3 =>
        intro w hSw
        have k0 := f0 w hSw; have k1 := f1 w hSw; have k2 := f2 w hSw; have k3 := f3 w hSw; have k4 := f4 w hSw; have k5 := f5 w hSw
        first | (go_simp; done) | (go_simp; with_reducible rfl)
      try simp only [Act.put, List.setIfInBounds_toArray, List.set_cons_zero, List.set_cons_succ]
      refine wpAnyH_take (i := 4) (v := ?vA4) rfl (by kernel_rfl) (by kernel_rfl) (by kernel_rfl) (fun _ _ _ h => h) (Or.inl ⟨by rfl, ?hyA4⟩) hS ?restA4
      case hyA4 =>
        intro w hSw
        first | (go_simp; done) | (go_simp; with_reducible rfl)
      try simp only [Act.put, List.setIfInBounds_toArray, List.set_cons_zero, List.set_cons_succ]
      refine wpAnyH_take (i := 5) (v := ?vA5) rfl (by kernel_rfl) (by kernel_rfl) (by kernel_rfl) (fun _ _ _ h => h) (Or.inl ⟨by rfl, ?hyA5⟩) hS ?restA5
      case hyA5 =>
        intro w hSw
        have k0 := f0 w hSw; have k1 := f1 w hSw; have k2 := f2 w hSw; have k3 := f3 w hSw; have k4 := f4 w hSw; have k5 := f5 w hSw
        first | (go_simp; done) | (go_simp; with_reducible rfl)
      try simp only [Act.put, List.setIfInBounds_toArray, List.set_cons_zero, List.set_cons_succ]
      refine wpAnyH_take (i := 6) (v := ?vA6) rfl (by kernel_rfl) (by kernel_rfl) (by kernel_rfl) (fun _ _ _ h => h) (Or.inl ⟨by rfl, ?hyA6⟩) hS ?restA6
      case hyA6 =>
        intro w hSw
        have k0 := f0 w hSw; have k1 := f1 w hSw; have k2 := f2 w hSw; have k3 := f3 w hSw; have k4 := f4 w hSw; have k5 := f5 w hSw
        first | (go_simp; done) | (go_simp; with_reducible rfl)
      try simp only [Act.put, List.setIfInBounds_toArray, List.set_cons_zero, List.set_cons_succ]
      refine wpAnyH_ready (rs := [7]) (by kernel_rfl) (by simp) ?_
      refine AllReadyH.cons rfl (fun K hK => ?_) AllReadyH.nil
      go_simp
      go_wp2_with (go_at_call 27; (with_reducible refine (KC.out _ ((HR7.out.more (Below.refl _ _).drew).rowL _)).mono ?_); rintro e w9 ⟨A', c', rfl, hrow, hb9⟩)
      have hS : (fun W => But w8 W (fun k => k = mb)) w9 := hS.trans (But.of_below (X := fun k => k = mb) hb9) (fun _ _ h => h)
      obtain ⟨w10, hrun, hS9, hb10⟩ := HST.out w9 A' c' ((HS7.out.drew).more hb9) (hrow.imp (fun b hb e => by rw [e] at hb; have : w8.drew.heap.size = w8.heap.size := rfl; omega))
      refine hK.out _ _ hS (fun _ => ?_)
      clear hK K
      refine wpAnyH_ready (rs := [8]) (by kernel_rfl) (by simp) ?_
      refine AllReadyH.cons rfl (fun K hK => ?_) AllReadyH.nil
      go_simp
      have hS : (fun W => But w8 W (fun k => k = mb)) w10 := hS.trans hb10 (fun _ _ h => h)
      refine hK.out _ _ hS (fun _ => ?_)
      clear hK K
      refine wpAnyH_done (by kernel_rfl) ?_ _
      go_wp2
      go_ret
      exact ⟨rfl, ⟨A', c', hS9⟩, HBY.out.trans ((But.of_below (Below.refl _ _).drew).trans ((But.of_below hb9).trans hb10 (fun _ _ h => h)) (fun _ _ h => h)) (fun _ _ h => h)⟩
end Go.Proofs.Ythillkbcbklhaaa
