/- Words and walks that the laws below ask: TxtD, TextG, TextH, TextK, CalH, CalI. -/
import Derived.Lib.ItoaLen
import Derived.Test.YtmmpalnalogfnaaGreatDoorPk1
import Derived.Test.YtmmpalnalogfnaaGreatDoorPk3
import Derived.Test.YtmmpalnalogfnaaGreatDoorPk4
import Derived.Test.YtmmpalnalogfnaaGreatDoorPk6
import Derived.Test.YtmmpalnalogfnaaGreatDoorPk7
import Derived.Test.YtmmpalnalogfnaaGreatDoorPk8
/- Walk of flight.Parse. -/
namespace Go.Proofs.YtmmpalnalogfnaaGreatDoor
open Go.RowKit Go.Shelf
set_option linter.unusedSimpArgs false
set_option linter.unusedVariables false

theorem bytesOf_inj : ∀ {a b : List ByteArray}, bytesOf a = bytesOf b → a = b
  | [], [], _ => rfl
  | [], _ :: _, h => by simp [bytesOf] at h
  | _ :: _, [], h => by simp [bytesOf] at h
  | x :: a, y :: b, h => by
    have h1 : x.data.toList = y.data.toList ∧ bytesOf a = bytesOf b := by simpa [bytesOf] using h
    rw [ba_ext h1.1, bytesOf_inj h1.2]
/-- what a parser of flights hands back of words -/
def Pars (ss : List ByteArray) (w : World) (e : Ending) (w' : World) : Prop := ∃ g : FV, e = .returned (.tuple #[encFl g, .int .i64 (paE ss)]) ∧ PaF ss g ∧ LegL w' (.slice g.A g.lg.length g.c) g.lg ∧ Below w.heap.size w w'
/-- six stores into a block of a flight -/
def T6 (w : World) (N : Nat) (v0 v1 v2 v3 v4 v5 : Value) : World := (((((w.setCell ⟨N, 0, none⟩ v0).setCell ⟨N, 1, none⟩ v1).setCell ⟨N, 2, none⟩ v2).setCell ⟨N, 3, none⟩ v3).setCell ⟨N, 4, none⟩ v4).setCell ⟨N, 5, none⟩ v5
theorem T6.heap {w : World} {N : Nat} {a0 a1 a2 a3 a4 a5 : Value} (h : w.heap[N]? = some (.cells #[a0, a1, a2, a3, a4, a5] fliT (0, 0))) (v0 v1 v2 v3 v4 v5 : Value) : (T6 w N v0 v1 v2 v3 v4 v5).heap[N]? = some (.cells #[v0, v1, v2, v3, v4, v5] fliT (0, 0)) := by
  have e1 : (w.setCell ⟨N, 0, none⟩ v0).heap[N]? = some (.cells #[v0, a1, a2, a3, a4, a5] fliT (0, 0)) := heap_setCell_same w N 0 _ fliT v0 h
  have e2 : ((w.setCell ⟨N, 0, none⟩ v0).setCell ⟨N, 1, none⟩ v1).heap[N]? = some (.cells #[v0, v1, a2, a3, a4, a5] fliT (0, 0)) := heap_setCell_same _ N 1 _ fliT v1 e1
  have e3 : (((w.setCell ⟨N, 0, none⟩ v0).setCell ⟨N, 1, none⟩ v1).setCell ⟨N, 2, none⟩ v2).heap[N]? = some (.cells #[v0, v1, v2, a3, a4, a5] fliT (0, 0)) := heap_setCell_same _ N 2 _ fliT v2 e2
  have e4 : ((((w.setCell ⟨N, 0, none⟩ v0).setCell ⟨N, 1, none⟩ v1).setCell ⟨N, 2, none⟩ v2).setCell ⟨N, 3, none⟩ v3).heap[N]? = some (.cells #[v0, v1, v2, v3, a4, a5] fliT (0, 0)) := heap_setCell_same _ N 3 _ fliT v3 e3
  have e5 : (((((w.setCell ⟨N, 0, none⟩ v0).setCell ⟨N, 1, none⟩ v1).setCell ⟨N, 2, none⟩ v2).setCell ⟨N, 3, none⟩ v3).setCell ⟨N, 4, none⟩ v4).heap[N]? = some (.cells #[v0, v1, v2, v3, v4, a5] fliT (0, 0)) := heap_setCell_same _ N 4 _ fliT v4 e4
  exact heap_setCell_same _ N 5 _ fliT v5 e5
theorem T6.but (w : World) (N : Nat) (v0 v1 v2 v3 v4 v5 : Value) : But w (T6 w N v0 v1 v2 v3 v4 v5) (fun k => k = N) :=
  (((((But.setCell w N 0 v0).trans (But.setCell _ N 1 v1) (fun _ _ h => h)).trans (But.setCell _ N 2 v2) (fun _ _ h => h)).trans (But.setCell _ N 3 v3) (fun _ _ h => h)).trans (But.setCell _ N 4 v4) (fun _ _ h => h)).trans (But.setCell _ N 5 v5) (fun _ _ h => h)
theorem lt_heap {w : World} {n : Nat} {o : Obj} (h : w.heap[n]? = some o) : n < w.heap.size := by
  by_cases e : n < w.heap.size
  · exact e
  · rw [Array.getElem?_eq_none (by omega)] at h; cases h
theorem words_x (s : ByteArray) (ss : List ByteArray) (w : World) (hs : s.size ≤ 40000) (h : s.data.toList = joinL (bytesOf ss)) :
    Calls Tryz.prog 45 #[.string s] w fun e w' => ∃ A c, e = .returned (.tuple #[.slice A ss.length c, .int .i64 0]) ∧ StrL w' (.slice A ss.length c) ss ∧ ss.length ≤ c ∧ Below w.heap.size w w' :=
  (words_cap s _ w hs h).mono (by
    rintro e w' ⟨⟨v, ss', rfl, hv, hb, hc⟩, hB⟩
    obtain rfl := bytesOf_inj hb
    obtain ⟨A, c, rfl, _⟩ := id hv
    exact ⟨A, c, rfl, hv, hc _ _ _ rfl, hB⟩)
theorem strL_wd {w : World} {A : Option Addr} {n c : Nat} {ss : List ByteArray} (h : StrL w (.slice A n c) ss) (hp : 0 < ss.length) : ∃ b o, A = some ⟨b, o, none⟩ ∧ b < w.heap.size ∧ ∀ j, j < ss.length → w.cell? ⟨b, o + j, none⟩ = some (.string (wd ss j)) := by
  obtain ⟨A', c', e, h⟩ := h
  cases e
  rcases h with h | ⟨b, o, rfl, hlt, hc⟩
  · rw [h] at hp; cases hp
  · exact ⟨b, o, rfl, hlt, fun j hj => by rw [hc j hj, wd_at (List.getElem?_eq_getElem hj)]⟩
theorem joinL_ge (l : List (List UInt8)) : l.length ≤ (joinL l).length + 1 ∧ (l.map List.length).sum ≤ (joinL l).length := by
  rcases Classical.em (l = []) with rfl | h
  · exact ⟨by simp, by simp⟩
  have h1 := flat_eq l h
  have h2 := congrArg List.length h1
  rw [List.length_append, List.length_singleton] at h2
  have h3 : ∀ m : List (List UInt8), m.length + (m.map List.length).sum ≤ (m.flatMap enc32).length := by
    intro m
    induction m with
    | nil => simp
    | cons x r ih =>
      have h4 : x.length ≤ (encW x).length := by
        unfold encW
        split
        · omega
        · have := quoteL_ge x; omega
      have h5 : (enc32 x).length = (encW x).length + 1 := by simp [enc32]
      simp only [List.length_cons, List.map_cons, List.sum_cons, List.flatMap_cons, List.length_append]
      omega
  have h6 := h3 l
  have h7 : l.length ≠ 0 := fun e => h (List.eq_nil_of_length_eq_zero e)
  omega
theorem wd_size {s : ByteArray} {ss : List ByteArray} (h : s.data.toList = joinL (bytesOf ss)) (k : Nat) : (wd ss k).size ≤ s.size := by
  have h1 := (joinL_ge (bytesOf ss)).2
  rw [← h] at h1
  have h2 : s.data.toList.length = s.size := by simp
  unfold wd
  rw [List.getD_eq_getElem?_getD]
  cases e : ss[k]? with
  | none => show (0 : Nat) ≤ s.size; omega
  | some b =>
    have h3 : b.data.toList.length ≤ ((bytesOf ss).map List.length).sum := len_le_sum _ _ (List.mem_map.2 ⟨b, List.mem_of_getElem? e, rfl⟩)
    have h4 : b.data.toList.length = b.size := by simp
    show b.size ≤ _
    omega
theorem numR_bd (l : List UInt8) : -9223372036854775808 ≤ (numR l).1 ∧ (numR l).1 ≤ 9223372036854775807 := by
  unfold numR
  cases hf : formB l
  · simp
  · cases hfit : fitB l
    · simp
    · simp only [if_true, valI]
      unfold fitB at hfit
      cases hn : negB l
      · rw [hn] at hfit
        simp at hfit
        simp
        omega
      · rw [hn] at hfit
        simp at hfit
        simp
        omega
theorem LegL.off {w w' : World} {A : Option Addr} {n c N : Nat} {l : List Lg} (h : LegL w (.slice A n c) l) (ho : ∀ b o n' c', Value.slice A n c = .slice (some ⟨b, o, none⟩) n' c' → N < b) (hb : But w w' (fun k => k = N)) : LegL w' (.slice A n c) l := by
  obtain ⟨A', c', e, h⟩ := h
  cases e
  refine ⟨A, c, rfl, ?_⟩
  rcases h with h | ⟨b, o, rfl, hlt, hc⟩
  · exact .inl h
  · have hN := ho b o _ _ rfl
    exact .inr ⟨b, o, rfl, Nat.lt_of_lt_of_le hlt hb.size, fun i x j u hi hu => (World.cell?_of_block (hb.block b hlt (fun e => by have e' : b = N := e; omega))).trans (hc i x j u hi hu)⟩
theorem ml_of {n : Nat} (h : n ≤ 40000) : n ≤ maxLen := by unfold maxLen; omega
theorem lgsR_ok {s : ByteArray} {ss : List ByteArray} (h : s.data.toList = joinL (bytesOf ss)) (hs : s.size ≤ 40000) (m : Nat) : ∀ x ∈ lgsR ss m, OkG x := by
  intro x hx
  obtain ⟨k, _, rfl⟩ := List.mem_map.1 hx
  have hw := fun j => ml_of (Nat.le_trans (wd_size h j) hs)
  exact ⟨hw _, hw _, hw _, numR_bd _, numR_bd _⟩
theorem ss_len {s : ByteArray} {ss : List ByteArray} (h : s.data.toList = joinL (bytesOf ss)) : ss.length ≤ s.size + 1 := by
  have h1 := (joinL_ge (bytesOf ss)).1
  rw [← h] at h1
  have h2 : s.data.toList.length = s.size := by simp
  have h3 : (bytesOf ss).length = ss.length := by simp [bytesOf]
  omega
set_option maxRecDepth 100000 in
set_option maxHeartbeats 8000000 in
theorem fparse_yes (s : ByteArray) (ss : List ByteArray) (w : World) (hs : s.size ≤ 10000) (h : s.data.toList = joinL (bytesOf ss)) (h2 : (wd ss 2).size ≤ 1000) (hnl : ss.length ≤ 1001) (hE : Txt.Env w) (hE0 : Per.Env0 w) :
    Calls Tryz.prog 13 #[.string s] w (Pars ss w) := by
  have hb0 := bel_alloc w (.cells #[.string noB, .int .i64 0, .int .i64 0, .int .i64 0, .int .i64 0, .slice none 0 0] fliT)
  have hN := heap_alloc_new w (.cells #[.string noB, .int .i64 0, .int .i64 0, .int .i64 0, .int .i64 0, .slice none 0 0] fliT)
  have KW0 := Lib.hid (fun W => words_x s ss W (by omega) h)
  have hE5 := hE.more hb0
  have hE05 := hE0.more hb0
  have HE := Lib.hid hE5
  have HE0 := Lib.hid hE05
  have HWS := Lib.hid (fun k => Nat.le_trans (wd_size h k) hs)
  have HOK := Lib.hid (lgsR_ok h (by omega))
  have H2 := Lib.hid h2
  have HB0 := Lib.hid hb0
  clear h2 hE hE0 hE5 hE05 h
  go_enter Tryz.func13, Tryz.ntmps13
  go_upto_region 1 with fail
  generalize hw5 : w.alloc (.cells #[.string noB, .int .i64 0, .int .i64 0, .int .i64 0, .int .i64 0, .slice none 0 0] fliT) = w5 at *
  clear hw5
  have HN := Lib.hid hN
  have HLT5 : Hid (w.heap.size < w5.heap.size) := Lib.hid (lt_heap hN)
  clear hN hb0
  go_upto_region 4 with (go_at_call 45; refine (KW0.out _).mono ?_; rintro e w1 ⟨A1, c1, rfl, hv1, hcap, hS1⟩)
  have HP : Hid (∀ q, q = paE ss → paE ss = q) := Lib.hid (fun q h => h.symm)
  obtain ⟨n, hn⟩ : ∃ n, n = ss.length := ⟨_, rfl⟩
  have HNN := Lib.hid hn
  rw [← hn] at hcap hnl hv1 ⊢
  clear hn
  have hSw : SW w5 w1 := hS1
  by_cases l8 : n < 8
  case pos =>
    have i1 : (n : Int) < 8 := by omega
    have HPE : Hid (paE ss = 3) := Lib.hid (by unfold paE lenB; rw [← HNN.out]; simp; omega)
    have HNE : Hid ((3 : Int) ≠ 0) := Lib.hid (by omega)
    go_upto_region 5 with fail
    have hx := (hSw.block _ HLT5.out).trans HN.out
    have n0 := (cell_of_row _ _ 0 _ _ (0, 0) hx).trans (show _ = some _ from rfl)
    have n1 := (cell_of_row _ _ 1 _ _ (0, 0) hx).trans (show _ = some _ from rfl)
    have n2 := (cell_of_row _ _ 2 _ _ (0, 0) hx).trans (show _ = some _ from rfl)
    have n3 := (cell_of_row _ _ 3 _ _ (0, 0) hx).trans (show _ = some _ from rfl)
    have n4 := (cell_of_row _ _ 4 _ _ (0, 0) hx).trans (show _ = some _ from rfl)
    have n5 := (cell_of_row _ _ 5 _ _ (0, 0) hx).trans (show _ = some _ from rfl)
    have z0 := frozen_of_row _ _ 0 _ _ hx
    have z1 := frozen_of_row _ _ 1 _ _ hx
    have z2 := frozen_of_row _ _ 2 _ _ hx
    have z3 := frozen_of_row _ _ 3 _ _ hx
    have z4 := frozen_of_row _ _ 4 _ _ hx
    have z5 := frozen_of_row _ _ 5 _ _ hx
    have hwb := HB0.out.trans (Below.mono hSw HB0.out.size)
    have HX2 : Hid (∀ W, W = T6 w1 w.heap.size (.string noB) (.int .i64 0) (.int .i64 0) (.int .i64 0) (.int .i64 0) (.slice none 0 0) → W.heap[w.heap.size]? = some (.cells #[.string noB, .int .i64 0, .int .i64 0, .int .i64 0, .int .i64 0, .slice none 0 0] fliT (0, 0)) ∧ Hid (But w1 W (fun k => k = w.heap.size)) ∧ Below w.heap.size w W) := Lib.hid (fun W h => by rw [h]; exact ⟨T6.heap hx _ _ _ _ _ _, Lib.hid (T6.but _ _ _ _ _ _ _ _), hwb.trans ((T6.but _ _ _ _ _ _ _ _).below hwb.size (fun k hk he => by have : k = w.heap.size := he; omega))⟩)
    clear hx hwb
    go_wp2
    obtain ⟨hxx, HBT, hbb⟩ := HX2.out _ rfl
    unfold T6 at hxx hbb HBT
    generalize hWW : (((((w1.setCell ⟨w.heap.size, 0, none⟩ (.string noB)).setCell ⟨w.heap.size, 1, none⟩ (.int .i64 0)).setCell ⟨w.heap.size, 2, none⟩ (.int .i64 0)).setCell ⟨w.heap.size, 3, none⟩ (.int .i64 0)).setCell ⟨w.heap.size, 4, none⟩ (.int .i64 0)).setCell ⟨w.heap.size, 5, none⟩ (.slice none 0 0) = WW at *
    clear hWW n0 n1 n2 n3 n4 n5 z0 z1 z2 z3 z4 z5
    have c0 := (cell_of_row WW _ 0 _ _ (0, 0) hxx).trans (show _ = some _ from rfl)
    have c1 := (cell_of_row WW _ 1 _ _ (0, 0) hxx).trans (show _ = some _ from rfl)
    have c2 := (cell_of_row WW _ 2 _ _ (0, 0) hxx).trans (show _ = some _ from rfl)
    have c3 := (cell_of_row WW _ 3 _ _ (0, 0) hxx).trans (show _ = some _ from rfl)
    have c4 := (cell_of_row WW _ 4 _ _ (0, 0) hxx).trans (show _ = some _ from rfl)
    have c5 := (cell_of_row WW _ 5 _ _ (0, 0) hxx).trans (show _ = some _ from rfl)
    refine bodyPost_ret (v := .tuple #[encFl fvZ, .int .i64 3]) ?_ rfl ⟨fvZ, by rw [HPE.out], ⟨fun h => absurd (HPE.out.symm.trans h) HNE.out, fun _ => rfl⟩, ⟨none, 0, rfl, .inl rfl⟩, hbb⟩
    simp [results, Tryz.results13, go_sem, c0, c1, c2, c3, c4, c5, fvZ]
  case neg =>
  have i1 : ¬ (n : Int) < 8 := by omega
  obtain ⟨b1, o1, rfl, hbl1, hc1⟩ := strL_wd hv1 (by rw [← HNN.out]; omega)
  rw [← HNN.out] at hc1
  by_cases l5 : (n - 3) % 5 = 0
  case neg =>
    have r1 : ((Int.tmod ((n : Int) - 3) 5) != 0) = true := by rw [show (n : Int) - 3 = ((n - 3 : Nat) : Int) by omega, Int.tmod_eq_emod_of_nonneg (by omega), bne_iff_ne]; omega
    have HPE : Hid (paE ss = 3) := Lib.hid (by unfold paE lenB; rw [← HNN.out]; simp [l5])
    have HNE : Hid ((3 : Int) ≠ 0) := Lib.hid (by omega)
    go_upto_region 5 with fail
    have hx := (hSw.block _ HLT5.out).trans HN.out
    have n0 := (cell_of_row _ _ 0 _ _ (0, 0) hx).trans (show _ = some _ from rfl)
    have n1 := (cell_of_row _ _ 1 _ _ (0, 0) hx).trans (show _ = some _ from rfl)
    have n2 := (cell_of_row _ _ 2 _ _ (0, 0) hx).trans (show _ = some _ from rfl)
    have n3 := (cell_of_row _ _ 3 _ _ (0, 0) hx).trans (show _ = some _ from rfl)
    have n4 := (cell_of_row _ _ 4 _ _ (0, 0) hx).trans (show _ = some _ from rfl)
    have n5 := (cell_of_row _ _ 5 _ _ (0, 0) hx).trans (show _ = some _ from rfl)
    have z0 := frozen_of_row _ _ 0 _ _ hx
    have z1 := frozen_of_row _ _ 1 _ _ hx
    have z2 := frozen_of_row _ _ 2 _ _ hx
    have z3 := frozen_of_row _ _ 3 _ _ hx
    have z4 := frozen_of_row _ _ 4 _ _ hx
    have z5 := frozen_of_row _ _ 5 _ _ hx
    have hwb := HB0.out.trans (Below.mono hSw HB0.out.size)
    have HX2 : Hid (∀ W, W = T6 w1 w.heap.size (.string noB) (.int .i64 0) (.int .i64 0) (.int .i64 0) (.int .i64 0) (.slice none 0 0) → W.heap[w.heap.size]? = some (.cells #[.string noB, .int .i64 0, .int .i64 0, .int .i64 0, .int .i64 0, .slice none 0 0] fliT (0, 0)) ∧ Hid (But w1 W (fun k => k = w.heap.size)) ∧ Below w.heap.size w W) := Lib.hid (fun W h => by rw [h]; exact ⟨T6.heap hx _ _ _ _ _ _, Lib.hid (T6.but _ _ _ _ _ _ _ _), hwb.trans ((T6.but _ _ _ _ _ _ _ _).below hwb.size (fun k hk he => by have : k = w.heap.size := he; omega))⟩)
    clear hx hwb
    go_wp2
    obtain ⟨hxx, HBT, hbb⟩ := HX2.out _ rfl
    unfold T6 at hxx hbb HBT
    generalize hWW : (((((w1.setCell ⟨w.heap.size, 0, none⟩ (.string noB)).setCell ⟨w.heap.size, 1, none⟩ (.int .i64 0)).setCell ⟨w.heap.size, 2, none⟩ (.int .i64 0)).setCell ⟨w.heap.size, 3, none⟩ (.int .i64 0)).setCell ⟨w.heap.size, 4, none⟩ (.int .i64 0)).setCell ⟨w.heap.size, 5, none⟩ (.slice none 0 0) = WW at *
    clear hWW n0 n1 n2 n3 n4 n5 z0 z1 z2 z3 z4 z5
    have c0 := (cell_of_row WW _ 0 _ _ (0, 0) hxx).trans (show _ = some _ from rfl)
    have c1 := (cell_of_row WW _ 1 _ _ (0, 0) hxx).trans (show _ = some _ from rfl)
    have c2 := (cell_of_row WW _ 2 _ _ (0, 0) hxx).trans (show _ = some _ from rfl)
    have c3 := (cell_of_row WW _ 3 _ _ (0, 0) hxx).trans (show _ = some _ from rfl)
    have c4 := (cell_of_row WW _ 4 _ _ (0, 0) hxx).trans (show _ = some _ from rfl)
    have c5 := (cell_of_row WW _ 5 _ _ (0, 0) hxx).trans (show _ = some _ from rfl)
    refine bodyPost_ret (v := .tuple #[encFl fvZ, .int .i64 3]) ?_ rfl ⟨fvZ, by rw [HPE.out], ⟨fun h => absurd (HPE.out.symm.trans h) HNE.out, fun _ => rfl⟩, ⟨none, 0, rfl, .inl rfl⟩, hbb⟩
    simp [results, Tryz.results13, go_sem, c0, c1, c2, c3, c4, c5, fvZ]
  case pos =>
  have r1 : ((Int.tmod ((n : Int) - 3) 5) != 0) = false := by rw [show (n : Int) - 3 = ((n - 3 : Nat) : Int) by omega, Int.tmod_eq_emod_of_nonneg (by omega), bne_eq_false_iff_eq]; omega
  have HLB : Hid (lenB ss = true) := Lib.hid (by unfold lenB; rw [← HNN.out]; simp; omega)
  obtain ⟨m, hm⟩ : ∃ m, m = lgN ss := ⟨_, rfl⟩
  have HM := Lib.hid hm
  have hn5 : n = 3 + 5 * m := by rw [hm, HNN.out]; exact (len_of HLB.out).2.2.1
  have hm1 : 1 ≤ m := by rw [hm]; exact (len_of HLB.out).2.2.2
  have hmb : m ≤ 200 := by omega
  clear hm
  have HPE1 : Hid (nuE (wd ss 1) ≠ 0 → paE ss = nuE (wd ss 1)) := Lib.hid (fun h => by unfold paE; rw [if_pos HLB.out, if_neg h])
  have HPE2 : Hid (nuE (wd ss 1) = 0 → (peR ss).2 ≠ 0 → paE ss = (peR ss).2) := Lib.hid (fun h h2 => by unfold paE; rw [if_pos HLB.out, if_pos h, if_neg h2])
  have HPE3 : Hid (nuE (wd ss 1) = 0 → (peR ss).2 = 0 → erL ss m 0 ≠ 0 → paE ss = erL ss m 0) := Lib.hid (fun h h2 h3 => by unfold paE; rw [HM.out] at h3 ⊢; rw [if_pos HLB.out, if_pos h, if_pos h2, if_neg h3])
  have HPE4 : Hid (nuE (wd ss 1) = 0 → (peR ss).2 = 0 → erL ss m 0 = 0 → paE ss = prE (fvR ss none 0)) := Lib.hid (fun h h2 h3 => by unfold paE; rw [HM.out] at h3; rw [if_pos HLB.out, if_pos h, if_pos h2, if_pos h3])
  have HG : Hid (∀ A c, fvR ss A c = ⟨wd ss 0, nuV (wd ss 1), (peR ss).1.1, (peR ss).1.2.1, (peR ss).1.2.2, A, c, lgsR ss m⟩) := Lib.hid (fun A c => by rw [HM.out]; rfl)
  have HOKm := Lib.hid (HOK.out m)
  have HS0 := Lib.hid (HWS.out 0)
  have KN1 : Hid (∀ W, SW w1 W → Calls Tryz.prog 46 #[.string (wd ss 1)] W fun e w' => e = .returned (.tuple #[.int .i64 (nuV (wd ss 1)), .int .i64 (nuE (wd ss 1))]) ∧ SW w1 w') := Lib.hid (SW.call (fun W h => Txt.number_any (wd ss 1) W (Nat.le_trans (HWS.out 1) (by omega)) ((HE.out.more hS1).more h)))
  have KP1 : Hid (∀ W, SW w1 W → Calls Tryz.prog 47 #[.string (wd ss 2)] W fun e w' => e = .returned (.tuple #[.agg #[.int .i64 (peR ss).1.1, .int .i64 (peR ss).1.2.1, .int .i64 (peR ss).1.2.2], .int .i64 (peR ss).2]) ∧ SW w1 w') := Lib.hid (SW.call (fun W h => Per.pparse_any (wd ss 2) W H2.out ((HE0.out.more hS1).more h)))
  have KL1 : Hid (∀ W, SW w1 W → Calls Tryz.prog 48 #[.slice (some ⟨b1, o1 + 3, none⟩) (n - 3) (c1 - 3)] W fun e w' => ∃ v, e = .returned (.tuple #[v, .int .i64 (erL ss m 0)]) ∧ (erL ss m 0 = 0 → RowL 5 encLg w' v (lgsR ss m) ∧ Per.OffB W.heap.size v) ∧ (erL ss m 0 ≠ 0 → v = .slice none 0 0) ∧ Below W.heap.size W w') := Lib.hid (fun W h => by
    have h1 := callsIn_wide.1 (Per.readLegs_in b1 (o1 + 3) (c1 - 3) m ss W (by omega) (by omega) (Nat.lt_of_lt_of_le hbl1 h.size) (fun j hj => by rw [show o1 + 3 + j = o1 + (3 + j) by omega]; exact bel_cell h (hc1 (3 + j) (by omega))) (fun k => Nat.le_trans (HWS.out k) (by omega)) ((HE.out.more hS1).more h))
    rw [show 5 * m = n - 3 by omega] at h1
    exact h1.mono (by rintro e w' ⟨v, rfl, h2, h3, h4⟩; exact ⟨v, rfl, h2, h3, h4⟩))
  have d0 := SW.cell (hc1 0 (by omega))
  have d1 := SW.cell (hc1 1 (by omega))
  have d2 := SW.cell (hc1 2 (by omega))
  rw [Nat.add_zero] at d0
  have j0 : (0 : Int) < (n : Int) := by omega
  have j0n : 0 < n := by omega
  have j1 : (1 : Int) < (n : Int) := by omega
  have j2 : (2 : Int) < (n : Int) := by omega
  have j3 : (3 : Int) ≤ (n : Int) := by omega
  have j4 : (3 : Int) ≤ (c1 : Int) := by omega
  have j5 : (n : Int) ≤ (c1 : Int) := by omega
  have j6 : ¬ (c1 : Int) = 3 := by omega
  have j7 : ¬ c1 = 3 := by omega
  have j8 : 3 < c1 := by omega
  have j9 : 3 ≤ n := by omega
  have ja : n ≤ c1 := by omega
  have jb : 3 ≤ c1 := by omega
  clear hv1 H2 HOK HWS HM hn5 hc1 hbl1 HP HLB
  generalize wd ss 0 = s0 at *
  generalize nuE (wd ss 1) = e1 at *
  generalize nuV (wd ss 1) = v1 at *
  generalize (peR ss).1.1 = pf at *
  generalize (peR ss).1.2.1 = pt at *
  generalize (peR ss).1.2.2 = pd at *
  generalize (peR ss).2 = e2 at *
  generalize erL ss m 0 = e3 at *
  generalize wd ss 1 = t1 at *
  generalize wd ss 2 = t2 at *
  have y1 := d1 ⟨w1, Below.refl _ _⟩
  go_upto_region 7 with (go_at_call 46; refine (KN1.out _ (Below.refl _ _)).mono ?_; rintro e w2 ⟨rfl, hS2⟩)
  have hSw : SW w5 w2 := Below.trans hS1 (Below.mono hS2 hS1.size)
  cases q1 : (e1 != 0) with
  | true =>
    have HNE : Hid (e1 ≠ 0) := Lib.hid (by simpa using q1)
    have HPE : Hid (paE ss = e1) := Lib.hid (HPE1.out HNE.out)
    go_upto_region 8 with fail
    have hx := (hSw.block _ HLT5.out).trans HN.out
    have n0 := (cell_of_row _ _ 0 _ _ (0, 0) hx).trans (show _ = some _ from rfl)
    have n1 := (cell_of_row _ _ 1 _ _ (0, 0) hx).trans (show _ = some _ from rfl)
    have n2 := (cell_of_row _ _ 2 _ _ (0, 0) hx).trans (show _ = some _ from rfl)
    have n3 := (cell_of_row _ _ 3 _ _ (0, 0) hx).trans (show _ = some _ from rfl)
    have n4 := (cell_of_row _ _ 4 _ _ (0, 0) hx).trans (show _ = some _ from rfl)
    have n5 := (cell_of_row _ _ 5 _ _ (0, 0) hx).trans (show _ = some _ from rfl)
    have z0 := frozen_of_row _ _ 0 _ _ hx
    have z1 := frozen_of_row _ _ 1 _ _ hx
    have z2 := frozen_of_row _ _ 2 _ _ hx
    have z3 := frozen_of_row _ _ 3 _ _ hx
    have z4 := frozen_of_row _ _ 4 _ _ hx
    have z5 := frozen_of_row _ _ 5 _ _ hx
    have hwb := HB0.out.trans (Below.mono hSw HB0.out.size)
    have HX2 : Hid (∀ W, W = T6 w2 w.heap.size (.string noB) (.int .i64 0) (.int .i64 0) (.int .i64 0) (.int .i64 0) (.slice none 0 0) → W.heap[w.heap.size]? = some (.cells #[.string noB, .int .i64 0, .int .i64 0, .int .i64 0, .int .i64 0, .slice none 0 0] fliT (0, 0)) ∧ Hid (But w2 W (fun k => k = w.heap.size)) ∧ Below w.heap.size w W) := Lib.hid (fun W h => by rw [h]; exact ⟨T6.heap hx _ _ _ _ _ _, Lib.hid (T6.but _ _ _ _ _ _ _ _), hwb.trans ((T6.but _ _ _ _ _ _ _ _).below hwb.size (fun k hk he => by have : k = w.heap.size := he; omega))⟩)
    clear hx hwb
    go_wp2
    obtain ⟨hxx, HBT, hbb⟩ := HX2.out _ rfl
    unfold T6 at hxx hbb HBT
    generalize hWW : (((((w2.setCell ⟨w.heap.size, 0, none⟩ (.string noB)).setCell ⟨w.heap.size, 1, none⟩ (.int .i64 0)).setCell ⟨w.heap.size, 2, none⟩ (.int .i64 0)).setCell ⟨w.heap.size, 3, none⟩ (.int .i64 0)).setCell ⟨w.heap.size, 4, none⟩ (.int .i64 0)).setCell ⟨w.heap.size, 5, none⟩ (.slice none 0 0) = WW at *
    clear hWW n0 n1 n2 n3 n4 n5 z0 z1 z2 z3 z4 z5
    have c0 := (cell_of_row WW _ 0 _ _ (0, 0) hxx).trans (show _ = some _ from rfl)
    have c1 := (cell_of_row WW _ 1 _ _ (0, 0) hxx).trans (show _ = some _ from rfl)
    have c2 := (cell_of_row WW _ 2 _ _ (0, 0) hxx).trans (show _ = some _ from rfl)
    have c3 := (cell_of_row WW _ 3 _ _ (0, 0) hxx).trans (show _ = some _ from rfl)
    have c4 := (cell_of_row WW _ 4 _ _ (0, 0) hxx).trans (show _ = some _ from rfl)
    have c5 := (cell_of_row WW _ 5 _ _ (0, 0) hxx).trans (show _ = some _ from rfl)
    refine bodyPost_ret (v := .tuple #[encFl fvZ, .int .i64 e1]) ?_ rfl ⟨fvZ, by rw [HPE.out], ⟨fun h => absurd (HPE.out.symm.trans h) HNE.out, fun _ => rfl⟩, ⟨none, 0, rfl, .inl rfl⟩, hbb⟩
    simp [results, Tryz.results13, go_sem, c0, c1, c2, c3, c4, c5, fvZ]
  | false =>
  obtain rfl : e1 = 0 := by simpa using q1
  have y2 := d2 ⟨w2, hS2⟩
  go_upto_region 10 with (go_at_call 47; refine (KP1.out _ hS2).mono ?_; rintro e w3 ⟨rfl, hS3⟩)
  have hbD := bel_alloc w3 (.cells #[.int .i64 pf, .int .i64 pt, .int .i64 pd] 23)
  have hS3a := Below.trans hS3 (Below.mono hbD hS3.size)
  have hSw : SW w5 (w3.alloc (.cells #[.int .i64 pf, .int .i64 pt, .int .i64 pd] 23)) := Below.trans hS1 (Below.mono hS3a hS1.size)
  have p0 := (cells_new w3 #[.int .i64 pf, .int .i64 pt, .int .i64 pd] 23 0).trans (show _ = some (Value.int .i64 pf) from rfl)
  have p1 := (cells_new w3 #[.int .i64 pf, .int .i64 pt, .int .i64 pd] 23 1).trans (show _ = some (Value.int .i64 pt) from rfl)
  have p2 := (cells_new w3 #[.int .i64 pf, .int .i64 pt, .int .i64 pd] 23 2).trans (show _ = some (Value.int .i64 pd) from rfl)
  generalize hw3 : w3.alloc (.cells #[.int .i64 pf, .int .i64 pt, .int .i64 pd] 23) = w3a at *
  clear hw3 hbD
  have hSw3 := hSw
  cases q2 : (e2 != 0) with
  | true =>
    have HNE : Hid (e2 ≠ 0) := Lib.hid (by simpa using q2)
    have HPE : Hid (paE ss = e2) := Lib.hid (HPE2.out (by first | trivial | rfl) HNE.out)
    go_upto_region 11 with fail
    have hx := (hSw.block _ HLT5.out).trans HN.out
    have n0 := (cell_of_row _ _ 0 _ _ (0, 0) hx).trans (show _ = some _ from rfl)
    have n1 := (cell_of_row _ _ 1 _ _ (0, 0) hx).trans (show _ = some _ from rfl)
    have n2 := (cell_of_row _ _ 2 _ _ (0, 0) hx).trans (show _ = some _ from rfl)
    have n3 := (cell_of_row _ _ 3 _ _ (0, 0) hx).trans (show _ = some _ from rfl)
    have n4 := (cell_of_row _ _ 4 _ _ (0, 0) hx).trans (show _ = some _ from rfl)
    have n5 := (cell_of_row _ _ 5 _ _ (0, 0) hx).trans (show _ = some _ from rfl)
    have z0 := frozen_of_row _ _ 0 _ _ hx
    have z1 := frozen_of_row _ _ 1 _ _ hx
    have z2 := frozen_of_row _ _ 2 _ _ hx
    have z3 := frozen_of_row _ _ 3 _ _ hx
    have z4 := frozen_of_row _ _ 4 _ _ hx
    have z5 := frozen_of_row _ _ 5 _ _ hx
    have hwb := HB0.out.trans (Below.mono hSw HB0.out.size)
    have HX2 : Hid (∀ W, W = T6 w3a w.heap.size (.string noB) (.int .i64 0) (.int .i64 0) (.int .i64 0) (.int .i64 0) (.slice none 0 0) → W.heap[w.heap.size]? = some (.cells #[.string noB, .int .i64 0, .int .i64 0, .int .i64 0, .int .i64 0, .slice none 0 0] fliT (0, 0)) ∧ Hid (But w3a W (fun k => k = w.heap.size)) ∧ Below w.heap.size w W) := Lib.hid (fun W h => by rw [h]; exact ⟨T6.heap hx _ _ _ _ _ _, Lib.hid (T6.but _ _ _ _ _ _ _ _), hwb.trans ((T6.but _ _ _ _ _ _ _ _).below hwb.size (fun k hk he => by have : k = w.heap.size := he; omega))⟩)
    clear hx hwb
    go_wp2
    obtain ⟨hxx, HBT, hbb⟩ := HX2.out _ rfl
    unfold T6 at hxx hbb HBT
    generalize hWW : (((((w3a.setCell ⟨w.heap.size, 0, none⟩ (.string noB)).setCell ⟨w.heap.size, 1, none⟩ (.int .i64 0)).setCell ⟨w.heap.size, 2, none⟩ (.int .i64 0)).setCell ⟨w.heap.size, 3, none⟩ (.int .i64 0)).setCell ⟨w.heap.size, 4, none⟩ (.int .i64 0)).setCell ⟨w.heap.size, 5, none⟩ (.slice none 0 0) = WW at *
    clear hWW n0 n1 n2 n3 n4 n5 z0 z1 z2 z3 z4 z5
    have c0 := (cell_of_row WW _ 0 _ _ (0, 0) hxx).trans (show _ = some _ from rfl)
    have c1 := (cell_of_row WW _ 1 _ _ (0, 0) hxx).trans (show _ = some _ from rfl)
    have c2 := (cell_of_row WW _ 2 _ _ (0, 0) hxx).trans (show _ = some _ from rfl)
    have c3 := (cell_of_row WW _ 3 _ _ (0, 0) hxx).trans (show _ = some _ from rfl)
    have c4 := (cell_of_row WW _ 4 _ _ (0, 0) hxx).trans (show _ = some _ from rfl)
    have c5 := (cell_of_row WW _ 5 _ _ (0, 0) hxx).trans (show _ = some _ from rfl)
    refine bodyPost_ret (v := .tuple #[encFl fvZ, .int .i64 e2]) ?_ rfl ⟨fvZ, by rw [HPE.out], ⟨fun h => absurd (HPE.out.symm.trans h) HNE.out, fun _ => rfl⟩, ⟨none, 0, rfl, .inl rfl⟩, hbb⟩
    simp [results, Tryz.results13, go_sem, c0, c1, c2, c3, c4, c5, fvZ]
  | false =>
  obtain rfl : e2 = 0 := by simpa using q2
  go_upto_region 13 with (go_at_call 48; refine (KL1.out _ hS3a).mono ?_; rintro e w4 ⟨v4, rfl, hR4, hZ4, hS4⟩)
  have hSw : SW w5 w4 := Below.trans hSw (Below.mono hS4 hSw.size)
  cases q3 : (e3 != 0) with
  | true =>
    have HNE : Hid (e3 ≠ 0) := Lib.hid (by simpa using q3)
    obtain rfl := hZ4 HNE.out
    clear hR4 hZ4
    have HPE : Hid (paE ss = e3) := Lib.hid (HPE3.out (by first | trivial | rfl) (by first | trivial | rfl) HNE.out)
    go_upto_region 14 with fail
    have hx := (hSw.block _ HLT5.out).trans HN.out
    have n0 := (cell_of_row _ _ 0 _ _ (0, 0) hx).trans (show _ = some _ from rfl)
    have n1 := (cell_of_row _ _ 1 _ _ (0, 0) hx).trans (show _ = some _ from rfl)
    have n2 := (cell_of_row _ _ 2 _ _ (0, 0) hx).trans (show _ = some _ from rfl)
    have n3 := (cell_of_row _ _ 3 _ _ (0, 0) hx).trans (show _ = some _ from rfl)
    have n4 := (cell_of_row _ _ 4 _ _ (0, 0) hx).trans (show _ = some _ from rfl)
    have n5 := (cell_of_row _ _ 5 _ _ (0, 0) hx).trans (show _ = some _ from rfl)
    have z0 := frozen_of_row _ _ 0 _ _ hx
    have z1 := frozen_of_row _ _ 1 _ _ hx
    have z2 := frozen_of_row _ _ 2 _ _ hx
    have z3 := frozen_of_row _ _ 3 _ _ hx
    have z4 := frozen_of_row _ _ 4 _ _ hx
    have z5 := frozen_of_row _ _ 5 _ _ hx
    have hwb := HB0.out.trans (Below.mono hSw HB0.out.size)
    have HX2 : Hid (∀ W, W = T6 w4 w.heap.size (.string noB) (.int .i64 0) (.int .i64 0) (.int .i64 0) (.int .i64 0) (.slice none 0 0) → W.heap[w.heap.size]? = some (.cells #[.string noB, .int .i64 0, .int .i64 0, .int .i64 0, .int .i64 0, .slice none 0 0] fliT (0, 0)) ∧ Hid (But w4 W (fun k => k = w.heap.size)) ∧ Below w.heap.size w W) := Lib.hid (fun W h => by rw [h]; exact ⟨T6.heap hx _ _ _ _ _ _, Lib.hid (T6.but _ _ _ _ _ _ _ _), hwb.trans ((T6.but _ _ _ _ _ _ _ _).below hwb.size (fun k hk he => by have : k = w.heap.size := he; omega))⟩)
    clear hx hwb
    go_wp2
    obtain ⟨hxx, HBT, hbb⟩ := HX2.out _ rfl
    unfold T6 at hxx hbb HBT
    generalize hWW : (((((w4.setCell ⟨w.heap.size, 0, none⟩ (.string noB)).setCell ⟨w.heap.size, 1, none⟩ (.int .i64 0)).setCell ⟨w.heap.size, 2, none⟩ (.int .i64 0)).setCell ⟨w.heap.size, 3, none⟩ (.int .i64 0)).setCell ⟨w.heap.size, 4, none⟩ (.int .i64 0)).setCell ⟨w.heap.size, 5, none⟩ (.slice none 0 0) = WW at *
    clear hWW n0 n1 n2 n3 n4 n5 z0 z1 z2 z3 z4 z5
    have c0 := (cell_of_row WW _ 0 _ _ (0, 0) hxx).trans (show _ = some _ from rfl)
    have c1 := (cell_of_row WW _ 1 _ _ (0, 0) hxx).trans (show _ = some _ from rfl)
    have c2 := (cell_of_row WW _ 2 _ _ (0, 0) hxx).trans (show _ = some _ from rfl)
    have c3 := (cell_of_row WW _ 3 _ _ (0, 0) hxx).trans (show _ = some _ from rfl)
    have c4 := (cell_of_row WW _ 4 _ _ (0, 0) hxx).trans (show _ = some _ from rfl)
    have c5 := (cell_of_row WW _ 5 _ _ (0, 0) hxx).trans (show _ = some _ from rfl)
    refine bodyPost_ret (v := .tuple #[encFl fvZ, .int .i64 e3]) ?_ rfl ⟨fvZ, by rw [HPE.out], ⟨fun h => absurd (HPE.out.symm.trans h) HNE.out, fun _ => rfl⟩, ⟨none, 0, rfl, .inl rfl⟩, hbb⟩
    simp [results, Tryz.results13, go_sem, c0, c1, c2, c3, c4, c5, fvZ]
  | false =>
  obtain rfl : e3 = 0 := by simpa using q3
  have hr4 := hR4 (by first | trivial | rfl)
  obtain ⟨hr4, hoff⟩ := hr4
  obtain ⟨A7, c7, rfl, _⟩ := id hr4
  clear hR4 hZ4
  have HPE5 : Hid (paE ss = prE (fvR ss A7 c7)) := Lib.hid (HPE4.out (by first | trivial | rfl) (by first | trivial | rfl) (by first | trivial | rfl))
  have HGG : Hid (fvR ss A7 c7 = ⟨s0, v1, pf, pt, pd, A7, c7, lgsR ss m⟩) := Lib.hid (HG.out A7 c7)
  have HPP : Hid (prE ⟨s0, v1, pf, pt, pd, A7, c7, lgsR ss m⟩ = paE ss) := Lib.hid (by rw [← HGG.out]; exact HPE5.out.symm)
  have F0 := bel_get (bel_cell hS4 p0)
  have F1 := bel_get (bel_cell hS4 p1)
  have F2 := bel_get (bel_cell hS4 p2)
  have D0 : ∀ W, SW w4 W → W.cell? ⟨b1, o1, none⟩ = some (.string s0) := fun W h => d0 ⟨W, Below.trans (Below.trans hS3a (Below.mono hS4 hS3a.size)) (Below.mono h (Below.trans hS3a (Below.mono hS4 hS3a.size)).size)⟩
  have KC : Hid (∀ W, SW w4 W → Calls Tryz.prog 34 #[.agg #[.string s0, .int .i64 v1, .int .i64 pf, .int .i64 pt, .int .i64 pd, .slice A7 (lgsR ss m).length c7]] W fun e w' => e = .returned (.int .i64 (paE ss)) ∧ Below W.heap.size W w') := Lib.hid (fun W h => by
    have h1 := checkPrint_any ⟨s0, v1, pf, pt, pd, A7, c7, lgsR ss m⟩ W (hr4.more h) (ml_of (Nat.le_trans HS0.out (by omega))) HOKm.out (by show (lgsR ss m).length ≤ 1000000; simp [lgsR]; omega)
    rw [HPP.out] at h1
    exact h1)
  obtain ⟨pe, hpe⟩ : ∃ x, x = paE ss := ⟨_, rfl⟩
  have HPE6 := Lib.hid hpe.symm
  rw [← hpe] at KC
  clear hpe
  have HR4 := Lib.hid hr4
  have HOFF : Hid (∀ b o n c, (Value.slice A7 (lgsR ss m).length c7) = .slice (some ⟨b, o, none⟩) n c → w.heap.size < b) := Lib.hid (fun b o n c e => Nat.lt_of_lt_of_le HLT5.out (Nat.le_trans hSw3.size (hoff b o n c e)))
  have HS4 := Lib.hid hS4
  have HSW4 := Lib.hid hSw
  clear p0 p1 p2 d0 d1 d2 y1 y2 q1 q2 q3 hr4 hS4 hS3 hS2 HPE1 HPE2 HPE3 HPE4
  generalize lgsR ss m = L at *
  go_upto_region 15 with fail
  have hS : (SW w4) _ := SW.drew _
  refine wp_region_held_drew (S := SW w4) (by kernel_rfl) hS (fun _ => ?_)
  refine wpAnyH_take (i := 0) (v := ?vR0) rfl (by kernel_rfl) (by kernel_rfl) (by kernel_rfl) (fun _ _ _ h => h) (Or.inl ⟨by rfl, ?hyR0⟩) hS ?restR0
  case hyR0 =>
    intro w hSw
    first | (go_simp; done) | (go_simp; with_reducible rfl)
  try simp only [Act.put, List.setIfInBounds_toArray, List.set_cons_zero, List.set_cons_succ]
  refine wpAnyH_take (i := 1) (v := ?vR1) rfl (by kernel_rfl) (by kernel_rfl) (by kernel_rfl) (fun _ _ _ h => h) (Or.inl ⟨by rfl, ?hyR1⟩) hS ?restR1
  case hyR1 =>
    intro w hSw
    first | (go_simp; done) | (go_simp; with_reducible rfl)
  try simp only [Act.put, List.setIfInBounds_toArray, List.set_cons_zero, List.set_cons_succ]
  refine wpAnyH_take (i := 2) (v := ?vR2) rfl (by kernel_rfl) (by kernel_rfl) (by kernel_rfl) (fun _ _ _ h => h) (Or.inl ⟨by rfl, ?hyR2⟩) hS ?restR2
  case hyR2 =>
    intro w hSw
    have k0 := D0 w hSw
    first | (go_simp; done) | (go_simp; with_reducible rfl)
  try simp only [Act.put, List.setIfInBounds_toArray, List.set_cons_zero, List.set_cons_succ]
  refine wpAnyH_take (i := 3) (v := ?vR3) rfl (by kernel_rfl) (by kernel_rfl) (by kernel_rfl) (fun _ _ _ h => h) (Or.inl ⟨by rfl, ?hyR3⟩) hS ?restR3
  case hyR3 =>
    intro w hSw
    first | (go_simp; done) | (go_simp; with_reducible rfl)
  try simp only [Act.put, List.setIfInBounds_toArray, List.set_cons_zero, List.set_cons_succ]
  refine wpAnyH_take (i := 4) (v := ?vR4) rfl (by kernel_rfl) (by kernel_rfl) (by kernel_rfl) (fun _ _ _ h => h) (Or.inl ⟨by rfl, ?hyR4⟩) hS ?restR4
  case hyR4 =>
    intro w hSw
    have k0 := F0 w hSw; have k1 := F1 w hSw; have k2 := F2 w hSw
    first | (go_simp; done) | (go_simp; with_reducible rfl)
  try simp only [Act.put, List.setIfInBounds_toArray, List.set_cons_zero, List.set_cons_succ]
  refine wpAnyH_take (i := 5) (v := ?vR5) rfl (by kernel_rfl) (by kernel_rfl) (by kernel_rfl) (fun _ _ _ h => h) (Or.inl ⟨by rfl, ?hyR5⟩) hS ?restR5
  case hyR5 =>
    intro w hSw
    first | (go_simp; done) | (go_simp; with_reducible rfl)
  try simp only [Act.put, List.setIfInBounds_toArray, List.set_cons_zero, List.set_cons_succ]
  refine wpAnyH_take (i := 6) (v := ?vR6) rfl (by kernel_rfl) (by kernel_rfl) (by kernel_rfl) (fun _ _ _ h => h) (Or.inl ⟨by rfl, ?hyR6⟩) hS ?restR6
  case hyR6 =>
    intro w hSw
    first | (go_simp; done) | (go_simp; with_reducible rfl)
  try simp only [Act.put, List.setIfInBounds_toArray, List.set_cons_zero, List.set_cons_succ]
  refine wpAnyH_ready (rs := [7]) (by kernel_rfl) (by simp) ?_
  refine AllReadyH.cons rfl (fun K hK => ?_) AllReadyH.nil
  go_simp
  have hSp := hS
  have hN7 := heap_alloc_new w4.drew (.cells #[.string noB, .int .i64 0, .int .i64 0, .int .i64 0, .int .i64 0, .slice none 0 0] fliT)
  have hS := Below.trans hSp (Below.mono (bel_alloc _ (.cells #[.string noB, .int .i64 0, .int .i64 0, .int .i64 0, .int .i64 0, .slice none 0 0] fliT)) hSp.size)
  refine hK.out _ _ hS (fun _ => ?_)
  clear hK K
  refine wpAnyH_ready (rs := [8]) (by kernel_rfl) (by simp) ?_
  refine AllReadyH.cons rfl (fun K hK => ?_) AllReadyH.nil
  go_simp
  have hS : SW w4 (w4.drew.alloc (.cells #[.string s0, .int .i64 v1, .int .i64 pf, .int .i64 pt, .int .i64 pd, .slice A7 L.length c7] fliT)) := Below.trans (SW.drew _) (Below.mono (bel_alloc w4.drew _) (Nat.le_refl _))
  refine hK.out _ _ hS (fun _ => ?_)
  clear hK K
  refine wpAnyH_done (by kernel_rfl) ?_ _
  try simp only [List.getElem_toArray, List.getElem_cons_succ, List.getElem_cons_zero, List.set_cons_zero, List.set_cons_succ]
  have hb7 := bel_alloc w4 (.cells #[.string s0, .int .i64 v1, .int .i64 pf, .int .i64 pt, .int .i64 pd, .slice A7 L.length c7] 26)
  have hS7 : SW w4 ((w4.alloc (.cells #[.string s0, .int .i64 v1, .int .i64 pf, .int .i64 pt, .int .i64 pd, .slice A7 L.length c7] 26)).drew) := Below.drew hb7
  have r0 : World.cell? ((w4.alloc (.cells #[.string s0, .int .i64 v1, .int .i64 pf, .int .i64 pt, .int .i64 pd, .slice A7 L.length c7] 26)).drew) ⟨w4.heap.size, 0, none⟩ = some (.string s0) := (cells_new w4 #[.string s0, .int .i64 v1, .int .i64 pf, .int .i64 pt, .int .i64 pd, .slice A7 L.length c7] fliT 0).trans (show _ = some (Value.string s0) from rfl)
  have r1 : World.cell? ((w4.alloc (.cells #[.string s0, .int .i64 v1, .int .i64 pf, .int .i64 pt, .int .i64 pd, .slice A7 L.length c7] 26)).drew) ⟨w4.heap.size, 1, none⟩ = some (.int .i64 v1) := (cells_new w4 #[.string s0, .int .i64 v1, .int .i64 pf, .int .i64 pt, .int .i64 pd, .slice A7 L.length c7] fliT 1).trans (show _ = some (Value.int .i64 v1) from rfl)
  have r2 : World.cell? ((w4.alloc (.cells #[.string s0, .int .i64 v1, .int .i64 pf, .int .i64 pt, .int .i64 pd, .slice A7 L.length c7] 26)).drew) ⟨w4.heap.size, 2, none⟩ = some (.int .i64 pf) := (cells_new w4 #[.string s0, .int .i64 v1, .int .i64 pf, .int .i64 pt, .int .i64 pd, .slice A7 L.length c7] fliT 2).trans (show _ = some (Value.int .i64 pf) from rfl)
  have r3 : World.cell? ((w4.alloc (.cells #[.string s0, .int .i64 v1, .int .i64 pf, .int .i64 pt, .int .i64 pd, .slice A7 L.length c7] 26)).drew) ⟨w4.heap.size, 3, none⟩ = some (.int .i64 pt) := (cells_new w4 #[.string s0, .int .i64 v1, .int .i64 pf, .int .i64 pt, .int .i64 pd, .slice A7 L.length c7] fliT 3).trans (show _ = some (Value.int .i64 pt) from rfl)
  have r4 : World.cell? ((w4.alloc (.cells #[.string s0, .int .i64 v1, .int .i64 pf, .int .i64 pt, .int .i64 pd, .slice A7 L.length c7] 26)).drew) ⟨w4.heap.size, 4, none⟩ = some (.int .i64 pd) := (cells_new w4 #[.string s0, .int .i64 v1, .int .i64 pf, .int .i64 pt, .int .i64 pd, .slice A7 L.length c7] fliT 4).trans (show _ = some (Value.int .i64 pd) from rfl)
  have r5 : World.cell? ((w4.alloc (.cells #[.string s0, .int .i64 v1, .int .i64 pf, .int .i64 pt, .int .i64 pd, .slice A7 L.length c7] 26)).drew) ⟨w4.heap.size, 5, none⟩ = some (.slice A7 L.length c7) := (cells_new w4 #[.string s0, .int .i64 v1, .int .i64 pf, .int .i64 pt, .int .i64 pd, .slice A7 L.length c7] fliT 5).trans (show _ = some (Value.slice A7 L.length c7) from rfl)
  generalize hw7 : (w4.alloc (.cells #[.string s0, .int .i64 v1, .int .i64 pf, .int .i64 pt, .int .i64 pd, .slice A7 L.length c7] 26)).drew = w7 at *
  clear hw7 hb7
  go_upto_region 17 with (go_at_call 34; refine (KC.out _ hS7).mono ?_; rintro e w8 ⟨rfl, hb8⟩)
  have hS8 : SW w4 w8 := Below.trans hS7 (Below.mono hb8 hS7.size)
  have hSw : SW w5 w8 := Below.trans HSW4.out (Below.mono hS8 HSW4.out.size)
  have r0 := bel_cell hb8 r0
  have r1 := bel_cell hb8 r1
  have r2 := bel_cell hb8 r2
  have r3 := bel_cell hb8 r3
  have r4 := bel_cell hb8 r4
  have r5 := bel_cell hb8 r5
  have HL8 := Lib.hid (HR4.out.more hS8)
  cases q4 : (pe != 0) with
  | true =>
    have HNE : Hid (pe ≠ 0) := Lib.hid (by simpa using q4)
    have HPE : Hid (paE ss = pe) := Lib.hid HPE6.out
    go_upto_region 18 with fail
    have hx := (hSw.block _ HLT5.out).trans HN.out
    have n0 := (cell_of_row _ _ 0 _ _ (0, 0) hx).trans (show _ = some _ from rfl)
    have n1 := (cell_of_row _ _ 1 _ _ (0, 0) hx).trans (show _ = some _ from rfl)
    have n2 := (cell_of_row _ _ 2 _ _ (0, 0) hx).trans (show _ = some _ from rfl)
    have n3 := (cell_of_row _ _ 3 _ _ (0, 0) hx).trans (show _ = some _ from rfl)
    have n4 := (cell_of_row _ _ 4 _ _ (0, 0) hx).trans (show _ = some _ from rfl)
    have n5 := (cell_of_row _ _ 5 _ _ (0, 0) hx).trans (show _ = some _ from rfl)
    have z0 := frozen_of_row _ _ 0 _ _ hx
    have z1 := frozen_of_row _ _ 1 _ _ hx
    have z2 := frozen_of_row _ _ 2 _ _ hx
    have z3 := frozen_of_row _ _ 3 _ _ hx
    have z4 := frozen_of_row _ _ 4 _ _ hx
    have z5 := frozen_of_row _ _ 5 _ _ hx
    have hwb := HB0.out.trans (Below.mono hSw HB0.out.size)
    have HX2 : Hid (∀ W, W = T6 w8 w.heap.size (.string noB) (.int .i64 0) (.int .i64 0) (.int .i64 0) (.int .i64 0) (.slice none 0 0) → W.heap[w.heap.size]? = some (.cells #[.string noB, .int .i64 0, .int .i64 0, .int .i64 0, .int .i64 0, .slice none 0 0] fliT (0, 0)) ∧ Hid (But w8 W (fun k => k = w.heap.size)) ∧ Below w.heap.size w W) := Lib.hid (fun W h => by rw [h]; exact ⟨T6.heap hx _ _ _ _ _ _, Lib.hid (T6.but _ _ _ _ _ _ _ _), hwb.trans ((T6.but _ _ _ _ _ _ _ _).below hwb.size (fun k hk he => by have : k = w.heap.size := he; omega))⟩)
    clear hx hwb
    go_wp2
    obtain ⟨hxx, HBT, hbb⟩ := HX2.out _ rfl
    unfold T6 at hxx hbb HBT
    generalize hWW : (((((w8.setCell ⟨w.heap.size, 0, none⟩ (.string noB)).setCell ⟨w.heap.size, 1, none⟩ (.int .i64 0)).setCell ⟨w.heap.size, 2, none⟩ (.int .i64 0)).setCell ⟨w.heap.size, 3, none⟩ (.int .i64 0)).setCell ⟨w.heap.size, 4, none⟩ (.int .i64 0)).setCell ⟨w.heap.size, 5, none⟩ (.slice none 0 0) = WW at *
    clear hWW n0 n1 n2 n3 n4 n5 z0 z1 z2 z3 z4 z5
    have c0 := (cell_of_row WW _ 0 _ _ (0, 0) hxx).trans (show _ = some _ from rfl)
    have c1 := (cell_of_row WW _ 1 _ _ (0, 0) hxx).trans (show _ = some _ from rfl)
    have c2 := (cell_of_row WW _ 2 _ _ (0, 0) hxx).trans (show _ = some _ from rfl)
    have c3 := (cell_of_row WW _ 3 _ _ (0, 0) hxx).trans (show _ = some _ from rfl)
    have c4 := (cell_of_row WW _ 4 _ _ (0, 0) hxx).trans (show _ = some _ from rfl)
    have c5 := (cell_of_row WW _ 5 _ _ (0, 0) hxx).trans (show _ = some _ from rfl)
    refine bodyPost_ret (v := .tuple #[encFl fvZ, .int .i64 pe]) ?_ rfl ⟨fvZ, by rw [HPE.out], ⟨fun h => absurd (HPE.out.symm.trans h) HNE.out, fun _ => rfl⟩, ⟨none, 0, rfl, .inl rfl⟩, hbb⟩
    simp [results, Tryz.results13, go_sem, c0, c1, c2, c3, c4, c5, fvZ]
  | false =>
  have HE0 : Hid (paE ss = 0) := Lib.hid (by rw [HPE6.out]; simpa using q4)
  go_upto_region 19 with fail
  have hx := (hSw.block _ HLT5.out).trans HN.out
  have n0 := (cell_of_row _ _ 0 _ _ (0, 0) hx).trans (show _ = some _ from rfl)
  have n1 := (cell_of_row _ _ 1 _ _ (0, 0) hx).trans (show _ = some _ from rfl)
  have n2 := (cell_of_row _ _ 2 _ _ (0, 0) hx).trans (show _ = some _ from rfl)
  have n3 := (cell_of_row _ _ 3 _ _ (0, 0) hx).trans (show _ = some _ from rfl)
  have n4 := (cell_of_row _ _ 4 _ _ (0, 0) hx).trans (show _ = some _ from rfl)
  have n5 := (cell_of_row _ _ 5 _ _ (0, 0) hx).trans (show _ = some _ from rfl)
  have z0 := frozen_of_row _ _ 0 _ _ hx
  have z1 := frozen_of_row _ _ 1 _ _ hx
  have z2 := frozen_of_row _ _ 2 _ _ hx
  have z3 := frozen_of_row _ _ 3 _ _ hx
  have z4 := frozen_of_row _ _ 4 _ _ hx
  have z5 := frozen_of_row _ _ 5 _ _ hx
  have hwb := HB0.out.trans (Below.mono hSw HB0.out.size)
  have HX2 : Hid (∀ W, W = T6 w8 w.heap.size (.string s0) (.int .i64 v1) (.int .i64 pf) (.int .i64 pt) (.int .i64 pd) (.slice A7 L.length c7) → W.heap[w.heap.size]? = some (.cells #[.string s0, .int .i64 v1, .int .i64 pf, .int .i64 pt, .int .i64 pd, .slice A7 L.length c7] fliT (0, 0)) ∧ Hid (But w8 W (fun k => k = w.heap.size)) ∧ Below w.heap.size w W) := Lib.hid (fun W h => by rw [h]; exact ⟨T6.heap hx _ _ _ _ _ _, Lib.hid (T6.but _ _ _ _ _ _ _ _), hwb.trans ((T6.but _ _ _ _ _ _ _ _).below hwb.size (fun k hk he => by have : k = w.heap.size := he; omega))⟩)
  clear hx hwb
  go_wp2
  obtain ⟨hxx, HBT, hbb⟩ := HX2.out _ rfl
  unfold T6 at hxx hbb HBT
  generalize hWW : (((((w8.setCell ⟨w.heap.size, 0, none⟩ (.string s0)).setCell ⟨w.heap.size, 1, none⟩ (.int .i64 v1)).setCell ⟨w.heap.size, 2, none⟩ (.int .i64 pf)).setCell ⟨w.heap.size, 3, none⟩ (.int .i64 pt)).setCell ⟨w.heap.size, 4, none⟩ (.int .i64 pd)).setCell ⟨w.heap.size, 5, none⟩ (.slice A7 L.length c7) = WW at *
  clear hWW n0 n1 n2 n3 n4 n5 z0 z1 z2 z3 z4 z5
  have c0 := (cell_of_row WW _ 0 _ _ (0, 0) hxx).trans (show _ = some _ from rfl)
  have c1 := (cell_of_row WW _ 1 _ _ (0, 0) hxx).trans (show _ = some _ from rfl)
  have c2 := (cell_of_row WW _ 2 _ _ (0, 0) hxx).trans (show _ = some _ from rfl)
  have c3 := (cell_of_row WW _ 3 _ _ (0, 0) hxx).trans (show _ = some _ from rfl)
  have c4 := (cell_of_row WW _ 4 _ _ (0, 0) hxx).trans (show _ = some _ from rfl)
  have c5 := (cell_of_row WW _ 5 _ _ (0, 0) hxx).trans (show _ = some _ from rfl)
  have hLL := LegL.off HL8.out HOFF.out HBT.out
  refine bodyPost_ret (v := .tuple #[.agg #[.string s0, .int .i64 v1, .int .i64 pf, .int .i64 pt, .int .i64 pd, .slice A7 L.length c7], .int .i64 0]) ?_ rfl ⟨⟨s0, v1, pf, pt, pd, A7, c7, L⟩, by rw [HE0.out], ⟨fun _ => HGG.out.symm, fun h => absurd HE0.out h⟩, hLL, hbb⟩
  simp [results, Tryz.results13, go_sem, c0, c1, c2, c3, c4, c5]
set_option maxRecDepth 100000 in
set_option maxHeartbeats 8000000 in
theorem fparse_no (s : ByteArray) (w : World) (hs : s.size ≤ 1000) (h : ∀ l, s.data.toList ≠ joinL l) :
    Calls Tryz.prog 13 #[.string s] w fun e w' => e = .returned (.tuple #[encFl fvZ, .int .i64 3]) ∧ Below w.heap.size w w' := by
  have hb0 := bel_alloc w (.cells #[.string noB, .int .i64 0, .int .i64 0, .int .i64 0, .int .i64 0, .slice none 0 0] fliT)
  have hN := heap_alloc_new w (.cells #[.string noB, .int .i64 0, .int .i64 0, .int .i64 0, .int .i64 0, .slice none 0 0] fliT)
  have KW0 := Lib.hid (fun W => words_no s W (by omega) h)
  have HB0 := Lib.hid hb0
  clear h
  go_enter Tryz.func13, Tryz.ntmps13
  go_upto_region 1 with fail
  generalize hw5 : w.alloc (.cells #[.string noB, .int .i64 0, .int .i64 0, .int .i64 0, .int .i64 0, .slice none 0 0] fliT) = w5 at *
  clear hw5
  have HN := Lib.hid hN
  have HLT5 : Hid (w.heap.size < w5.heap.size) := Lib.hid (lt_heap hN)
  clear hN hb0
  go_upto_region 3 with (go_at_call 45; refine (KW0.out _).mono ?_; rintro e w1 ⟨rfl, hS1⟩)
  have hSw : SW w5 w1 := hS1
  have hx := (hSw.block _ HLT5.out).trans HN.out
  have n0 := (cell_of_row _ _ 0 _ _ (0, 0) hx).trans (show _ = some _ from rfl)
  have n1 := (cell_of_row _ _ 1 _ _ (0, 0) hx).trans (show _ = some _ from rfl)
  have n2 := (cell_of_row _ _ 2 _ _ (0, 0) hx).trans (show _ = some _ from rfl)
  have n3 := (cell_of_row _ _ 3 _ _ (0, 0) hx).trans (show _ = some _ from rfl)
  have n4 := (cell_of_row _ _ 4 _ _ (0, 0) hx).trans (show _ = some _ from rfl)
  have n5 := (cell_of_row _ _ 5 _ _ (0, 0) hx).trans (show _ = some _ from rfl)
  have z0 := frozen_of_row _ _ 0 _ _ hx
  have z1 := frozen_of_row _ _ 1 _ _ hx
  have z2 := frozen_of_row _ _ 2 _ _ hx
  have z3 := frozen_of_row _ _ 3 _ _ hx
  have z4 := frozen_of_row _ _ 4 _ _ hx
  have z5 := frozen_of_row _ _ 5 _ _ hx
  have hwb := HB0.out.trans (Below.mono hSw HB0.out.size)
  have HX2 : Hid (∀ W, W = T6 w1 w.heap.size (.string noB) (.int .i64 0) (.int .i64 0) (.int .i64 0) (.int .i64 0) (.slice none 0 0) → W.heap[w.heap.size]? = some (.cells #[.string noB, .int .i64 0, .int .i64 0, .int .i64 0, .int .i64 0, .slice none 0 0] fliT (0, 0)) ∧ Hid (But w1 W (fun k => k = w.heap.size)) ∧ Below w.heap.size w W) := Lib.hid (fun W h => by rw [h]; exact ⟨T6.heap hx _ _ _ _ _ _, Lib.hid (T6.but _ _ _ _ _ _ _ _), hwb.trans ((T6.but _ _ _ _ _ _ _ _).below hwb.size (fun k hk he => by have : k = w.heap.size := he; omega))⟩)
  clear hx hwb
  go_wp2
  obtain ⟨hxx, HBT, hbb⟩ := HX2.out _ rfl
  unfold T6 at hxx hbb HBT
  generalize hWW : (((((w1.setCell ⟨w.heap.size, 0, none⟩ (.string noB)).setCell ⟨w.heap.size, 1, none⟩ (.int .i64 0)).setCell ⟨w.heap.size, 2, none⟩ (.int .i64 0)).setCell ⟨w.heap.size, 3, none⟩ (.int .i64 0)).setCell ⟨w.heap.size, 4, none⟩ (.int .i64 0)).setCell ⟨w.heap.size, 5, none⟩ (.slice none 0 0) = WW at *
  clear hWW n0 n1 n2 n3 n4 n5 z0 z1 z2 z3 z4 z5
  have c0 := (cell_of_row WW _ 0 _ _ (0, 0) hxx).trans (show _ = some _ from rfl)
  have c1 := (cell_of_row WW _ 1 _ _ (0, 0) hxx).trans (show _ = some _ from rfl)
  have c2 := (cell_of_row WW _ 2 _ _ (0, 0) hxx).trans (show _ = some _ from rfl)
  have c3 := (cell_of_row WW _ 3 _ _ (0, 0) hxx).trans (show _ = some _ from rfl)
  have c4 := (cell_of_row WW _ 4 _ _ (0, 0) hxx).trans (show _ = some _ from rfl)
  have c5 := (cell_of_row WW _ 5 _ _ (0, 0) hxx).trans (show _ = some _ from rfl)
  refine bodyPost_ret (v := .tuple #[encFl fvZ, .int .i64 3]) ?_ rfl ⟨rfl, hbb⟩
  simp [results, Tryz.results13, go_sem, c0, c1, c2, c3, c4, c5, fvZ]

end Go.Proofs.YtmmpalnalogfnaaGreatDoor

/- Walks of the reference: digits, Decimal, Number. -/
namespace Go.Proofs.YtmmpalnalogfnaaGreatDoor.Txt
open Go.RowKit
set_option linter.unusedSimpArgs false
set_option linter.unusedVariables false

def tenA : ByteArray := ⟨#[48, 49, 50, 51, 52, 53, 54, 55, 56, 57]⟩
theorem ten_all : ∀ n : Fin 10, (tenA.extract n.val (n.val + 1)).data.toList = [UInt8.ofNat (48 + n.val)] := by decide +kernel
theorem ten_cut (n m : Nat) (h : n < 10) (hm : m = n + 1) : (⟨#[48, 49, 50, 51, 52, 53, 54, 55, 56, 57]⟩ : ByteArray).extract n m = ⟨[UInt8.ofNat (48 + n)].toArray⟩ := by
  subst hm
  exact WideShapes.bytes_inj (ten_all ⟨n, h⟩)

theorem quiet_ex {P : Program} {f : FuncId} {args : Array Value} {w : World} {n : Nat} {v : Value} (h : ∀ W, Calls P f args W fun e w' => e = .returned v ∧ ∃ m, w' = W.drewN m) :
    Calls P f args (w.drewN n) fun e w'' => e = .returned v ∧ ∃ m, w'' = w.drewN m :=
  (h _).mono fun _ _ ⟨he, m, hm⟩ => ⟨he, n + m, by rw [hm, World.drewN_drewN]⟩
theorem dec_len (u : Nat) (h : u ≤ 9223372036854775807) : (⟨(Lib.decDigits u).toArray⟩ : ByteArray).size ≤ 21 := by
  have h1 := Lib.itoa_length_le (u : Int) (by omega) (by omega)
  have h2 : Lib.itoa (u : Int) = Lib.decDigits u := by
    unfold Lib.itoa
    rw [if_neg (by omega)]
    congr 1
  rw [h2] at h1
  simpa [ByteArray.size] using h1
def U64 (n : Nat) : Prop := n < 18446744073709551616
theorem u64_div (n : Nat) (h : U64 n) : IntKind.u64.wrap ((n : Int) / 10) = (n : Int) / 10 := by rw [IntKind.wrap_u64]; unfold U64 at h; omega

set_option maxRecDepth 100000 in
set_option maxHeartbeats 1000000 in
theorem rdigits_any : ∀ (n : Nat) (w : World), U64 n →
    Calls Tryz.prog 105 #[.int .u64 n] w fun e w' => e = .returned (.string ⟨(Lib.decDigits n).toArray⟩) ∧ ∃ k, w' = w.drewN k
  | n, w, hn => by
    by_cases h : n < 10
    · have HD : Hid (Lib.decDigits n = [UInt8.ofNat (48 + n)]) := Lib.hid (decDigits_small n h)
      have b1 : (n : Int) < 10 := by omega
      have HC := Lib.hid (ten_cut n (n + 1) h rfl)
      go_enter Tryz.func105, Tryz.ntmps105
      go_wp2
      go_ret
      exact ⟨by rw [HD.out, ← HC.out]; rfl, 0, rfl⟩
    · have ih : ∀ w, Calls Tryz.prog 105 #[.int .u64 ((n : Int) / 10)] w fun e w' => e = .returned (.string ⟨(Lib.decDigits (n / 10)).toArray⟩) ∧ ∃ k, w' = w.drewN k := by
        intro w
        rw [show ((n : Int) / 10) = ((n / 10 : Nat) : Int) from by omega]
        exact rdigits_any (n / 10) w (by unfold U64 at hn ⊢; omega)
      have HIH := Lib.hid ih
      have e1 := u64_div n hn
      have e2 : ((n : Int)).tmod 10 = (n : Int) % 10 := Int.tmod_eq_emod_of_nonneg (by omega)
      have e3 : IntKind.u64.wrap ((n : Int) % 10 + 1) = (n : Int) % 10 + 1 := by rw [IntKind.wrap_u64]; omega
      have HF : Hid ((⟨(Lib.decDigits (n / 10)).toArray⟩ : ByteArray) ++ (⟨#[48, 49, 50, 51, 52, 53, 54, 55, 56, 57]⟩ : ByteArray).extract ((n : Int) % 10).toNat ((n : Int) % 10 + 1).toNat = ⟨(Lib.decDigits n).toArray⟩) := Lib.hid (by
        rw [ten_cut ((n : Int) % 10).toNat ((n : Int) % 10 + 1).toNat (by omega) (by omega), decDigits_step n (by omega)]
        apply WideShapes.bytes_inj
        rw [show ((n : Int) % 10).toNat = n % 10 from by omega]
        simp)
      have hadd := fun W => run_string_add_sum (P := Tryz.prog) (w := W) (⟨(Lib.decDigits (n / 10)).toArray⟩ : ByteArray) ((⟨#[48, 49, 50, 51, 52, 53, 54, 55, 56, 57]⟩ : ByteArray).extract ((n : Int) % 10).toNat ((n : Int) % 10 + 1).toNat) (by
        have h1 := dec_len (n / 10) (by unfold U64 at hn; omega)
        have h2 : ((⟨#[48, 49, 50, 51, 52, 53, 54, 55, 56, 57]⟩ : ByteArray).extract ((n : Int) % 10).toNat ((n : Int) % 10 + 1).toNat).size ≤ 10 := by
          rw [ByteArray.size_extract]; show min _ 10 - _ ≤ 10; omega
        omega)
      clear ih hn
      have b1 : ¬ (n : Int) < 10 := by omega
      have c1 : (0 : Int) ≤ (n : Int) % 10 := by omega
      have c2 : (n : Int) % 10 < 10 := by omega
      have hsl := fun W => run_slice_string (P := Tryz.prog) W 9 (⟨#[48, 49, 50, 51, 52, 53, 54, 55, 56, 57]⟩ : ByteArray) .u64 .u64 ((n : Int) % 10) ((n : Int) % 10 + 1) Tryz.underlying9 c1 (by omega) (by show (n : Int) % 10 + 1 ≤ 10; omega)
      go_enter Tryz.func105, Tryz.ntmps105
      go_wp2_with (fail)
      go_quiet ((go_at_call 105; exact quiet_ex HIH.out))
      go_wp2
      go_ret
      exact ⟨by rw [← HF.out]; rfl, _, rfl⟩
termination_by n => n
decreasing_by omega

theorem neg_arg (n : Int) (h0 : -9223372036854775808 ≤ n) (hn : n < 0) : IntKind.u64.wrap (IntKind.u64.wrap (wrap64 (-wrap64 (n + 1))) + 1) = (n.natAbs : Int) := by
  have e1 : wrap64 (n + 1) = n + 1 := by unfold wrap64; omega
  have e2 : wrap64 (-(n + 1)) = -(n + 1) := by unfold wrap64; omega
  rw [e1, e2, IntKind.wrap_u64, IntKind.wrap_u64]
  omega
theorem pos_arg (n : Int) (h1 : n ≤ 9223372036854775807) (hn : ¬ n < 0) : IntKind.u64.wrap n = (n.toNat : Int) := by
  rw [IntKind.wrap_u64]
  omega
set_option maxRecDepth 100000 in
set_option maxHeartbeats 1000000 in
theorem rdecimal_any (n : Int) (w : World) (h0 : -9223372036854775808 ≤ n) (h1 : n ≤ 9223372036854775807) :
    Calls Tryz.prog 39 #[.int .i64 n] w fun e w' => e = .returned (.string ⟨(Lib.itoa n).toArray⟩) ∧ ∃ k, w' = w.drewN k := by
  by_cases hn : n < 0
  · have HC : Hid (∀ w, Calls Tryz.prog 105 #[.int .u64 (IntKind.u64.wrap (IntKind.u64.wrap (wrap64 (-wrap64 (n + 1))) + 1))] w fun e w' => e = .returned (.string ⟨(Lib.decDigits n.natAbs).toArray⟩) ∧ ∃ k, w' = w.drewN k) := Lib.hid (by
      intro w; rw [neg_arg n h0 hn]; exact rdigits_any n.natAbs w (by unfold U64; omega))
    have HF : Hid ((⟨#[45]⟩ : ByteArray) ++ (⟨(Lib.decDigits n.natAbs).toArray⟩ : ByteArray) = ⟨(Lib.itoa n).toArray⟩) := Lib.hid (by
      apply WideShapes.bytes_inj
      unfold Lib.itoa
      rw [if_pos hn]
      simp)
    have hlen : (⟨#[45]⟩ : ByteArray).size + (⟨(Lib.decDigits n.natAbs).toArray⟩ : ByteArray).size ≤ 9223372036854775807 := by
      have h2 := Lib.itoa_length_le n h0 h1
      unfold Lib.itoa at h2
      rw [if_pos hn] at h2
      have h3 : (⟨(Lib.decDigits n.natAbs).toArray⟩ : ByteArray).size = (Lib.decDigits n.natAbs).length := by simp [ByteArray.size]
      have h4 : (⟨#[45]⟩ : ByteArray).size = 1 := rfl
      simp only [List.length_cons] at h2
      omega
    have hadd := fun W => run_string_add_sum (P := Tryz.prog) (w := W) (⟨#[45]⟩ : ByteArray) (⟨(Lib.decDigits n.natAbs).toArray⟩ : ByteArray) hlen
    clear h0 h1 hlen
    go_enter Tryz.func39, Tryz.ntmps39
    go_wp2_with (go_at_call 105; refine (HC.out _).mono ?_; rintro e w' ⟨rfl, k, rfl⟩)
    go_ret
    exact ⟨by rw [← HF.out]; rfl, k, rfl⟩
  · have HC : Hid (∀ w, Calls Tryz.prog 105 #[.int .u64 (IntKind.u64.wrap n)] w fun e w' => e = .returned (.string ⟨(Lib.decDigits n.toNat).toArray⟩) ∧ ∃ k, w' = w.drewN k) := Lib.hid (by
      intro w; rw [pos_arg n h1 hn]; exact rdigits_any n.toNat w (by unfold U64; omega))
    have HF : Hid ((⟨(Lib.decDigits n.toNat).toArray⟩ : ByteArray) = ⟨(Lib.itoa n).toArray⟩) := Lib.hid (by
      unfold Lib.itoa
      rw [if_neg hn])
    clear h0 h1
    go_enter Tryz.func39, Tryz.ntmps39
    go_wp2_with (go_at_call 105; refine (HC.out _).mono ?_; rintro e w' ⟨rfl, k, rfl⟩)
    go_ret
    exact ⟨by rw [← HF.out]; rfl, k, rfl⟩
end Go.Proofs.YtmmpalnalogfnaaGreatDoor.Txt

/- Walks of the reference's Number. -/
namespace Go.Proofs.YtmmpalnalogfnaaGreatDoor.Txt
open Go.RowKit
set_option linter.unusedSimpArgs false
set_option linter.unusedVariables false

theorem num_step (D : ByteArray) (k : Nat) (a : Int) (hlt : k < D.size) (hall : D.data.toList.all dgB = true) (hk : k < 19) (ha : a = (dvF 0 (D.data.toList.take k) : Int)) :
    IntKind.u64.wrap (10 * a) = 10 * a ∧ IntKind.u8.wrap ((D[k].toNat : Int) - 48) = (D[k].toNat : Int) - 48 ∧ IntKind.u64.wrap ((D[k].toNat : Int) - 48) = (D[k].toNat : Int) - 48 ∧
    IntKind.u64.wrap (10 * a + ((D[k].toNat : Int) - 48)) = 10 * a + ((D[k].toNat : Int) - 48) ∧ 10 * a + ((D[k].toNat : Int) - 48) = (dvF 0 (D.data.toList.take (k + 1)) : Int) := by
  have hc : dgB D[k] = true := by
    rw [List.all_eq_true] at hall
    exact hall _ (by rw [show D[k] = D.data.toList[k]'(by simpa using hlt) from rfl]; exact List.getElem_mem _)
  have hcn := dgB_nat _ hc
  have hb : (D.data.toList.take k).all dgB = true := by
    rw [List.all_eq_true] at hall ⊢
    exact fun x hx => hall x (List.mem_of_mem_take hx)
  have hlt2 := dvF_lt (D.data.toList.take k) 0 hb
  have hl : (D.data.toList.take k).length ≤ 18 := by simp; omega
  have hp : (10 : Nat) ^ (D.data.toList.take k).length ≤ 10 ^ 18 := Nat.pow_le_pow_right (by omega) hl
  have e18 : (10 : Nat) ^ 18 = 1000000000000000000 := by decide
  have hs : dvF 0 (D.data.toList.take (k + 1)) = dvF 0 (D.data.toList.take k) * 10 + (D[k].toNat - 48) := by
    rw [List.take_succ_eq_append_getElem (by simpa using hlt), dvF_snoc]; rfl
  simp only [IntKind.wrap_u64, IntKind.wrap_u8]
  rw [hs]
  omega
theorem num_neg (a : Int) (h1 : 1 ≤ a) (h2 : a ≤ 9223372036854775808) : IntKind.u64.wrap (a - 1) = a - 1 ∧ wrap64 (a - 1) = a - 1 ∧ wrap64 (-(a - 1)) = -(a - 1) ∧ wrap64 (-(a - 1) - 1) = -a := by
  rw [IntKind.wrap_u64]
  unfold wrap64
  omega
theorem num_pos (l d : List UInt8) (hf : formB l = true) (hn : negB l = true) (hb : bodyL l = d) (a : Int) (ha : a = (dvF 0 d : Int)) : 1 ≤ a := by
  have h1 := form_body l hf
  rw [hb] at h1
  have hz : headZ d = false := by
    simp only [formB, Bool.and_eq_true, Bool.or_eq_true] at hf
    rcases hf.2 with h | h
    · rw [hb] at h; simpa using h
    · have : l = [48] := by simpa using h
      rw [this] at hn; simp [negB] at hn
  cases d with
  | nil => exact absurd rfl h1.1
  | cons c r =>
    have hc : dgB c = true := by have := h1.2; simp only [List.all_cons, Bool.and_eq_true] at this; exact this.1
    have hcn := dgB_nat c hc
    simp [headZ] at hz
    rw [ha, dvF_cons]
    have := dvF_le r (0 * 10 + (c.toNat - 48))
    omega

set_option maxRecDepth 100000 in
set_option maxHeartbeats 4000000 in
theorem rnumber_any (s : ByteArray) (w : World) (hs : s.size ≤ 40000) :
    Calls Tryz.prog 50 #[.string s] w fun e w' => e = .returned (.tuple #[.int .i64 (numR s.data.toList).1, .int .i64 (numR s.data.toList).2]) ∧ w = w' := by
  by_cases h0 : 0 < s.size
  case neg =>
    have t1 := isEmpty_yes s (by omega)
    have hl : s.data.toList = [] := List.eq_nil_of_length_eq_zero (by simp only [Array.length_toList, ByteArray.size_data]; omega)
    have HR : Hid (numR s.data.toList = (0, 3)) := Lib.hid (by rw [hl]; rfl)
    clear hl
    have h0' : ¬ 0 < (s.size : Int) := by omega
    go_enter Tryz.func50, Tryz.ntmps50
    go_wp2
    go_ret2
    exact ⟨by rw [HR.out]; rfl, rfl⟩
  by_cases h45 : s[0].toNat = 45
  · have c0 : ((s[0].toNat : Int) == 45) = true := by simp; omega
    obtain ⟨D, hD⟩ : ∃ D, s.extract 1 s.size = D := ⟨_, rfl⟩
    have hsz : D.size = s.size - 1 := by rw [← hD, ByteArray.size_extract]; omega
    have hb : bodyL s.data.toList = D.data.toList := by
      rw [← hD, extract_list, List.take_of_length_le (by simp)]
      rw [bytes_cons1 s h0]; simp [bodyL, h45]
    have hng : negB s.data.toList = true := by rw [bytes_cons1 s h0]; simp [negB, h45]
    have hne48 : (s.data.toList == [48]) = false := by
      rw [bytes_cons1 s h0]
      have : ¬ s[0] = 48 := fun e => by rw [e] at h45; exact absurd h45 (by decide)
      simp [this]
    clear h45
    have hDs : D.size ≤ 40000 := by omega
    clear hsz
    by_cases hD0 : 0 < D.size
    case neg =>
      have t1 := isEmpty_yes D (by omega)
      have HR : Hid (numR s.data.toList = (0, 3)) := Lib.hid (by
        have : formB s.data.toList = false := by rw [formB, hb, ← ByteArray.toList_eq, t1]; rfl
        simp [numR, this])
      clear hb hng hne48
      go_enter Tryz.func50, Tryz.ntmps50
      go_wp2
      go_ret2
      exact ⟨by rw [HR.out]; rfl, rfl⟩
    have t1 := isEmpty_no D hD0
    have hE : D.data.toList.isEmpty = false := by rw [← ByteArray.toList_eq]; exact t1
    have hz := headZ_eq D hD0
    have hf : formB s.data.toList = (allFrom dgB D 0 && (!headZ D.data.toList || s.data.toList == [48])) := by rw [formB, hb, hE]; rfl
    by_cases hlead : D[0].toNat = 48 ∧ True
    · have l1 : ((D[0].toNat : Int) == 48) = true := by simp; omega
      have HR : Hid (numR s.data.toList = (0, 3)) := Lib.hid (by
        have : formB s.data.toList = false := by rw [hf, hz, hlead.1, hne48]; simp
        simp [numR, this])
      clear hb hng hE hz hf hlead hne48
      go_enter Tryz.func50, Tryz.ntmps50
      go_wp2
      go_ret2
      exact ⟨by rw [HR.out]; rfl, rfl⟩
    have hz0 : ¬ D[0].toNat = 48 := fun h => hlead ⟨h, trivial⟩
    have hfa : formB s.data.toList = allFrom dgB D 0 := by rw [hf, hz]; simp [hz0]
    have l1 : ((D[0].toNat : Int) == 48) = false := by simp; omega
    have HFA := Lib.hid hfa
    have HB := Lib.hid hb
    have HNG := Lib.hid hng
    clear hb hng hE hz hf hlead hfa hne48 hz0
    go_enter Tryz.func50, Tryz.ntmps50
    go_wp2
    all_goals
      go_loop [6] (fun i => ∃ k : Nat, k ≤ D.size ∧ i = .int .i64 k ∧ allFrom dgB D 0 = allFrom dgB D k) (fun i => D.size - (intOf i).toNat)
      case atStart => exact ⟨0, Nat.zero_le _, rfl, rfl⟩
      case round =>
        obtain ⟨k, hk, rfl, he⟩ := hrel
        have He := Lib.hid he
        clear he
        by_cases hlt : k < D.size
        · have Hc := Lib.hid (allFrom_step dgB D k hlt)
          cases hc : dgB D[k]
          · have HR : Hid (numR s.data.toList = (0, 3)) := Lib.hid (by
              have : formB s.data.toList = false := by rw [HFA.out, He.out, Hc.out, hc]; rfl
              simp [numR, this])
            go_wp2_with (go_at_call 109; refine (digit_any _ _).mono ?_; rintro e w' ⟨rfl, rfl⟩)
            go_ret2
            exact ⟨by rw [HR.out]; rfl, rfl⟩
          · go_wp2_with (go_at_call 109; refine (digit_any _ _).mono ?_; rintro e w' ⟨rfl, rfl⟩)
            go_round
            case rel => exact ⟨k + 1, by omega, by go_num, by rw [He.out, Hc.out, hc]; rfl⟩
            case measure => simp [intOf]; omega
        · have hform : formB s.data.toList = true := by rw [HFA.out, He.out, allFrom_end dgB D k (by omega)]
          by_cases h19 : 19 < (D.size : Int)
          · have HR : Hid (numR s.data.toList = (0, 4)) := Lib.hid (by
              have : fitB s.data.toList = false := long_unfit _ hform (by rw [HB.out]; simp; omega)
              simp [numR, hform, this])
            clear hform
            go_wp2
            go_ret2
            exact ⟨by rw [HR.out]; rfl, rfl⟩
          · have hsm := short_small _ hform (by rw [HB.out]; simp; omega)
            rw [HB.out] at hsm
            have hall := (form_body _ hform).2
            rw [HB.out] at hall
            have HALL := Lib.hid hall
            have HFO := Lib.hid hform
            have HSM := Lib.hid hsm
            clear hform hsm hall
            go_wp2
            go_loop [7, 8] (fun n i => ∃ (k : Nat) (a : Int), k ≤ D.size ∧ i = .int .i64 k ∧ n = .int .u64 a ∧ Hid (a = (dvF 0 (D.data.toList.take k) : Int))) (fun _ i => D.size - (intOf i).toNat)
            case atStart => exact ⟨0, 0, Nat.zero_le _, rfl, rfl, Lib.hid rfl⟩
            case round =>
              obtain ⟨k, a, hk, rfl, rfl, HA⟩ := hrel
              by_cases hlt : k < D.size
              · obtain ⟨e1, e2, e3, e4, e5⟩ := num_step D k a hlt HALL.out (by omega) HA.out
                have HE5 := Lib.hid e5
                clear e5
                go_wp2
                go_round
                case rel => exact ⟨k + 1, _, by omega, by go_num, rfl, HE5⟩
                case measure => simp [intOf]; omega
              · have hka : a = (dvF 0 D.data.toList : Int) := by
                  have := HA.out
                  rw [List.take_of_length_le (by simp; omega)] at this
                  exact this
                by_cases hfit : a ≤ 9223372036854775808
                · have HR : Hid (numR s.data.toList = (-a, 0)) := Lib.hid (by
                    have h1 : fitB s.data.toList = true := by rw [fitB, HNG.out, HB.out]; simp; omega
                    rw [numR, HFO.out, h1, valI, HNG.out, HB.out, hka]; rfl)
                  have ha1 : 1 ≤ a := num_pos s.data.toList D.data.toList HFO.out HNG.out HB.out a hka
                  obtain ⟨e1, e2, e3, e4⟩ := num_neg a ha1 hfit
                  clear hka
                  go_wp2
                  go_ret2
                  refine ⟨?_, rfl⟩
                  rw [HR.out]
                  show Ending.returned (.tuple #[.int .i64 (-(a - 1) - 1), .int .i64 0]) = _
                  rw [show -(a - 1) - 1 = -a from by omega]
                · have HR : Hid (numR s.data.toList = (0, 4)) := Lib.hid (by
                    have h1 : fitB s.data.toList = false := by rw [fitB, HNG.out, HB.out]; simp; omega
                    rw [numR, HFO.out, h1]; rfl)
                  clear hka
                  go_wp2
                  go_ret2
                  exact ⟨by rw [HR.out]; rfl, rfl⟩
  · have c0 : ((s[0].toNat : Int) == 45) = false := by simp; omega
    have hb : bodyL s.data.toList = s.data.toList := by rw [bytes_cons1 s h0]; simp [bodyL, h45]
    have hng : negB s.data.toList = false := by rw [bytes_cons1 s h0]; simp [negB, h45]
    clear h45
    have hD0 := h0
    have hDs := hs
    have t1 := isEmpty_no s hD0
    have hE : s.data.toList.isEmpty = false := by rw [← ByteArray.toList_eq]; exact t1
    have hz := headZ_eq s hD0
    have h48 : (s.data.toList == [48]) = (decide (s.size = 1) && headZ s.data.toList) := by
      rw [hz, bytes_cons1 s h0]
      by_cases h1 : s.size = 1
      · have : s.data.toList.drop 1 = [] := List.drop_eq_nil_of_le (by simp; omega)
        rw [this]
        by_cases h2 : s[0].toNat = 48
        · have : s[0] = 48 := UInt8.toNat_inj.1 h2
          simp [h1, this]
        · have : ¬ s[0] = 48 := fun e => h2 (by rw [e]; rfl)
          simp [h1, h2, this]
      · have : s.data.toList.drop 1 ≠ [] := fun e => by have := congrArg List.length e; simp at this; omega
        rw [List.drop_one] at this
        simp [h1, this]
    have hf : formB s.data.toList = (allFrom dgB s 0 && (!headZ s.data.toList || s.data.toList == [48])) := by rw [formB, hb, hE]; rfl
    by_cases hlead : s[0].toNat = 48 ∧ 1 < s.size
    · have l1 : ((s[0].toNat : Int) == 48) = true := by simp; omega
      have HR : Hid (numR s.data.toList = (0, 3)) := Lib.hid (by
        have : formB s.data.toList = false := by rw [hf, h48, hz, hlead.1]; simp; intro _; omega
        simp [numR, this])
      have l2 : 1 < (s.size : Int) := by omega
      clear hb hng hE hz hf hlead h48
      go_enter Tryz.func50, Tryz.ntmps50
      go_wp2
      go_ret2
      exact ⟨by rw [HR.out]; rfl, rfl⟩
    have hfa : formB s.data.toList = allFrom dgB s 0 := by
      rw [hf, h48, hz]
      by_cases h1 : s[0].toNat = 48
      · have : s.size = 1 := by have : ¬ 1 < s.size := fun h => hlead ⟨h1, h⟩; omega
        simp [h1, this]
      · simp [h1]
    have l1 : ¬ (1 < (s.size : Int)) ∨ ((s[0].toNat : Int) == 48) = false := by
      by_cases h1 : s[0].toNat = 48
      · left; intro h; exact hlead ⟨h1, by omega⟩
      · right; simp; omega
    have HFA := Lib.hid hfa
    have HB := Lib.hid hb
    have HNG := Lib.hid hng
    clear hb hng hE hz hf hlead hfa h48
    rcases l1 with l1 | l1
    all_goals
      go_enter Tryz.func50, Tryz.ntmps50
      go_wp2
      all_goals
        go_loop [6] (fun i => ∃ k : Nat, k ≤ s.size ∧ i = .int .i64 k ∧ allFrom dgB s 0 = allFrom dgB s k) (fun i => s.size - (intOf i).toNat)
        case atStart => exact ⟨0, Nat.zero_le _, rfl, rfl⟩
        case round =>
          obtain ⟨k, hk, rfl, he⟩ := hrel
          have He := Lib.hid he
          clear he
          by_cases hlt : k < s.size
          · have Hc := Lib.hid (allFrom_step dgB s k hlt)
            cases hc : dgB s[k]
            · have HR : Hid (numR s.data.toList = (0, 3)) := Lib.hid (by
                have : formB s.data.toList = false := by rw [HFA.out, He.out, Hc.out, hc]; rfl
                simp [numR, this])
              go_wp2_with (go_at_call 109; refine (digit_any _ _).mono ?_; rintro e w' ⟨rfl, rfl⟩)
              go_ret2
              exact ⟨by rw [HR.out]; rfl, rfl⟩
            · go_wp2_with (go_at_call 109; refine (digit_any _ _).mono ?_; rintro e w' ⟨rfl, rfl⟩)
              go_round
              case rel => exact ⟨k + 1, by omega, by go_num, by rw [He.out, Hc.out, hc]; rfl⟩
              case measure => simp [intOf]; omega
          · have hform : formB s.data.toList = true := by rw [HFA.out, He.out, allFrom_end dgB s k (by omega)]
            by_cases h19 : 19 < (s.size : Int)
            · have HR : Hid (numR s.data.toList = (0, 4)) := Lib.hid (by
                have : fitB s.data.toList = false := long_unfit _ hform (by rw [HB.out]; simp; omega)
                simp [numR, hform, this])
              clear hform
              go_wp2
              go_ret2
              exact ⟨by rw [HR.out]; rfl, rfl⟩
            · have hsm := short_small _ hform (by rw [HB.out]; simp; omega)
              rw [HB.out] at hsm
              have hall := (form_body _ hform).2
              rw [HB.out] at hall
              have HALL := Lib.hid hall
              have HFO := Lib.hid hform
              have HSM := Lib.hid hsm
              clear hform hsm hall
              go_wp2
              go_loop [7, 8] (fun n i => ∃ (k : Nat) (a : Int), k ≤ s.size ∧ i = .int .i64 k ∧ n = .int .u64 a ∧ Hid (a = (dvF 0 (s.data.toList.take k) : Int))) (fun _ i => s.size - (intOf i).toNat)
              case atStart => exact ⟨0, 0, Nat.zero_le _, rfl, rfl, Lib.hid rfl⟩
              case round =>
                obtain ⟨k, a, hk, rfl, rfl, HA⟩ := hrel
                by_cases hlt : k < s.size
                · obtain ⟨e1, e2, e3, e4, e5⟩ := num_step s k a hlt HALL.out (by omega) HA.out
                  have HE5 := Lib.hid e5
                  clear e5
                  go_wp2
                  go_round
                  case rel => exact ⟨k + 1, _, by omega, by go_num, rfl, HE5⟩
                  case measure => simp [intOf]; omega
                · have hka : a = (dvF 0 s.data.toList : Int) := by
                    have := HA.out
                    rw [List.take_of_length_le (by simp; omega)] at this
                    exact this
                  by_cases hfit : 9223372036854775808 ≤ a
                  · have HR : Hid (numR s.data.toList = (0, 4)) := Lib.hid (by
                      have h1 : fitB s.data.toList = false := by rw [fitB, HNG.out, HB.out]; simp; omega
                      rw [numR, HFO.out, h1]; rfl)
                    clear hka
                    go_wp2
                    go_ret2
                    exact ⟨by rw [HR.out]; rfl, rfl⟩
                  · have HR : Hid (numR s.data.toList = (a, 0)) := Lib.hid (by
                      have h1 : fitB s.data.toList = true := by rw [fitB, HNG.out, HB.out]; simp; omega
                      rw [numR, HFO.out, h1, valI, HNG.out, HB.out, hka]; rfl)
                    have e1 : wrap64 a = a := by have : 0 ≤ a := by omega
                                                 unfold wrap64; omega
                    clear hka
                    go_wp2
                    go_ret2
                    exact ⟨by rw [HR.out]; simp only [e1]; rfl, rfl⟩
end Go.Proofs.YtmmpalnalogfnaaGreatDoor.Txt

/- Walks of the reference's end and Words. -/
namespace Go.Proofs.YtmmpalnalogfnaaGreatDoor.Txt
open Go.RowKit
set_option linter.unusedSimpArgs false
set_option linter.unusedVariables false

/-- a number between two others -/
def SomeEnd (i n : Nat) (e : Ending) : Prop := ∃ k : Nat, i ≤ k ∧ k ≤ n ∧ e = .returned (.int .i64 k)

set_option maxRecDepth 100000 in
set_option maxHeartbeats 2000000 in
theorem end_any (s : ByteArray) (i : Nat) (w : World) (hs : s.size ≤ 40000) (hi : i < s.size) :
    Calls Tryz.prog 119 #[.string s, .int .i64 i] w fun e w' => SomeEnd i s.size e ∧ w = w' := by
  have hi' : (i : Int) < (s.size : Int) := by omega
  by_cases h34 : s[i].toNat = 34
  · have t34 : ((s[i].toNat : Int) == 34) = true := by simp; omega
    clear h34
    go_enter Tryz.func119, Tryz.ntmps119
    go_wp2
    go_loop [5] (fun q => ∃ k : Nat, i < k ∧ k ≤ s.size + 1 ∧ q = .int .i64 k) (fun q => s.size + 1 - (intOf q).toNat)
    case atStart => exact ⟨i + 1, by omega, by omega, by go_num⟩
    case round =>
      obtain ⟨k, hk1, hk2, rfl⟩ := hrel
      by_cases hlt : k < s.size
      · by_cases hq : s[k].toNat = 34
        · have tq : ((s[k].toNat : Int) != 34) = false := by simp; omega
          clear hq
          go_wp2
          go_ret
          exact ⟨⟨k + 1, by omega, by omega, by go_num⟩, rfl⟩
        · have tq : ((s[k].toNat : Int) != 34) = true := by simp; omega
          by_cases hb : s[k].toNat = 92
          · have tb : ((s[k].toNat : Int) == 92) = true := by simp; omega
            clear hq hb
            go_wp2
            go_round
            case rel => exact ⟨k + 2, by omega, by omega, by go_num⟩
            case measure => simp [intOf]; omega
          · have tb : ((s[k].toNat : Int) == 92) = false := by simp; omega
            clear hq hb
            go_wp2
            go_round
            case rel => exact ⟨k + 1, by omega, by omega, by go_num⟩
            case measure => simp [intOf]; omega
      · have hlt' : ¬ (k : Int) < (s.size : Int) := by omega
        go_wp2
        go_ret
        exact ⟨⟨s.size, by omega, by omega, rfl⟩, rfl⟩
  · have t34 : ((s[i].toNat : Int) == 34) = false := by simp; omega
    clear h34
    go_enter Tryz.func119, Tryz.ntmps119
    go_wp2
    go_loop [5] (fun q => ∃ k : Nat, i ≤ k ∧ k ≤ s.size ∧ q = .int .i64 k) (fun q => s.size - (intOf q).toNat)
    case atStart => exact ⟨i, by omega, by omega, by go_num⟩
    case round =>
      obtain ⟨k, hk1, hk2, rfl⟩ := hrel
      by_cases hlt : k < s.size
      · by_cases hq : s[k].toNat = 32
        · have tq : ((s[k].toNat : Int) != 32) = false := by simp; omega
          clear hq
          go_wp2
          go_ret
          exact ⟨⟨k, by omega, by omega, rfl⟩, rfl⟩
        · have tq : ((s[k].toNat : Int) != 32) = true := by simp; omega
          clear hq
          go_wp2
          go_round
          case rel => exact ⟨k + 1, by omega, by omega, by go_num⟩
          case measure => simp [intOf]; omega
      · have hlt' : ¬ (k : Int) < (s.size : Int) := by omega
        go_wp2
        go_ret
        exact ⟨⟨k, by omega, by omega, rfl⟩, rfl⟩

set_option maxRecDepth 100000 in
set_option maxHeartbeats 2000000 in
theorem end_plain (s : ByteArray) (i : Nat) (t rest : List UInt8) (w : World) (hs : s.size ≤ 40000) (hp : plainL t = true) (hd : s.data.toList.drop i = t ++ rest) (hr : rest = [] ∨ ∃ r, rest = 32 :: r) :
    Calls Tryz.prog 119 #[.string s, .int .i64 i] w fun e w' => e = .returned (.int .i64 ((i + t.length : Nat) : Int)) ∧ w = w' := by
  have hne := plain_ne t hp
  have hall : t.all okB = true := by simp [plainL] at hp; simpa using hp.2
  have hhead : ∃ hi : i < s.size, s[i].toNat ≠ 34 := by
    cases t with
    | nil => exact absurd rfl hne
    | cons c r =>
      obtain ⟨hk, e0, _⟩ := drop_head hd
      refine ⟨hk, ?_⟩
      simp only [List.all_cons, Bool.and_eq_true] at hall
      have := hall.1
      simp [okB] at this
      rw [e0]; omega
  obtain ⟨hi, h34⟩ := hhead
  have hi' : (i : Int) < (s.size : Int) := by omega
  have t34 : ((s[i].toNat : Int) == 34) = false := by simp; omega
  have hsz : s.size = i + t.length + rest.length := by
    have := congrArg List.length hd
    simp only [List.length_drop, List.length_append, Array.length_toList, ByteArray.size_data] at this
    omega
  have HD := Lib.hid hd
  have HALL := Lib.hid hall
  have HR := Lib.hid hr
  have HSZ := Lib.hid hsz
  have hle : i + t.length ≤ s.size := by omega
  clear hd hall hne h34 hp hr hsz
  go_enter Tryz.func119, Tryz.ntmps119
  go_wp2
  go_loop [5] (fun q => ∃ j : Nat, j ≤ t.length ∧ q = .int .i64 ((i + j : Nat) : Int)) (fun q => s.size - (intOf q).toNat)
  case atStart => exact ⟨0, by omega, by go_num⟩
  case round =>
    obtain ⟨j, hj, rfl⟩ := hrel
    have hdj : s.data.toList.drop (i + j) = t.drop j ++ rest := by
      rw [← List.drop_drop, HD.out, List.drop_append_of_le_length hj]
    by_cases hlt : j < t.length
    · rw [List.drop_eq_getElem_cons hlt] at hdj
      obtain ⟨hk, e0, _⟩ := drop_head hdj
      have hok : okB t[j] = true := by
        have := HALL.out
        rw [List.all_eq_true] at this
        exact this _ (List.getElem_mem hlt)
      simp [okB] at hok
      have tq : ((s[i + j].toNat : Int) != 32) = true := by rw [e0]; simp; omega
      have hlt' : ((i + j : Nat) : Int) < (s.size : Int) := by omega
      obtain ⟨k, hke⟩ : ∃ k, k = i + j := ⟨_, rfl⟩
      rw [← hke] at hlt' ⊢
      have tq' : ∀ h : k < s.size, ((s[k].toNat : Int) != 32) = true := by subst hke; intro _; exact tq
      have hk' : k < s.size := by omega
      have tq2 := tq' hk'
      have HKE := Lib.hid hke
      clear hdj e0 hok tq tq' hke hk
      go_wp2
      go_round
      case rel => exact ⟨j + 1, by omega, by rw [← Nat.add_assoc, ← HKE.out]; go_num⟩
      case measure => simp [intOf]; omega
    · have hjt : j = t.length := by omega
      rw [hjt, List.drop_length, List.nil_append] at hdj
      rw [hjt]
      obtain ⟨k, hke⟩ : ∃ k, k = i + t.length := ⟨_, rfl⟩
      rw [← hke] at hdj ⊢
      have HKE := Lib.hid hke
      rcases HR.out with hr | ⟨r, hr⟩
      · have hlt' : ¬ (k : Int) < (s.size : Int) := by have := HSZ.out; rw [hr] at this; simp at this; omega
        clear hdj hr hke hjt
        go_wp2
        go_ret
        exact ⟨ret_int (by have := HKE.out; omega), rfl⟩
      · rw [hr] at hdj
        obtain ⟨hk, e0, _⟩ := drop_head hdj
        have tq : ((s[k].toNat : Int) != 32) = false := by rw [e0]; rfl
        clear hdj hr hke hjt e0
        go_wp2
        go_ret
        exact ⟨ret_int (by have := HKE.out; omega), rfl⟩

set_option maxRecDepth 100000 in
set_option maxHeartbeats 2000000 in
theorem end_quote (s : ByteArray) (i : Nat) (t rest : List UInt8) (w : World) (hs : s.size ≤ 40000) (hd : s.data.toList.drop i = quoteL t ++ rest) :
    Calls Tryz.prog 119 #[.string s, .int .i64 i] w fun e w' => e = .returned (.int .i64 ((i + (quoteL t).length : Nat) : Int)) ∧ w = w' := by
  have hd' : s.data.toList.drop i = 34 :: (t.flatMap qb ++ 34 :: rest) := by rw [hd]; simp [quoteL]
  obtain ⟨hi, e0, hd1⟩ := drop_head hd'
  have hi' : (i : Int) < (s.size : Int) := by omega
  have t34 : ((s[i].toNat : Int) == 34) = true := by rw [e0]; rfl
  have hsz : s.size = i + (quoteL t).length + rest.length := by
    have := congrArg List.length hd
    simp only [List.length_drop, List.length_append, Array.length_toList, ByteArray.size_data] at this
    omega
  have HD1 := Lib.hid hd1
  have HSZ := Lib.hid hsz
  clear hd hd' hd1 e0 hsz
  go_enter Tryz.func119, Tryz.ntmps119
  go_wp2
  go_loop [5] (fun q => ∃ (k : Nat) (xs : List UInt8), q = .int .i64 k ∧ Hid (s.data.toList.drop k = xs ++ 34 :: rest ∧ esc xs = true)) (fun q => s.size + 1 - (intOf q).toNat)
  case atStart => exact ⟨i + 1, _, by go_num, Lib.hid ⟨HD1.out, esc_flat t⟩⟩
  case round =>
    obtain ⟨k, xs, rfl, HX⟩ := hrel
    rcases esc_step xs rest _ HX.out.2 HX.out.1 with ⟨_, hS⟩ | ⟨c, d, xs', hc, hS, hx⟩ | ⟨c, xs', hc, hc2, hS, hx⟩
    · have hk1 : k + 1 = i + (quoteL t).length := by
        have h1 := congrArg List.length hS
        have h2 := HSZ.out
        simp only [List.length_drop, List.length_cons, Array.length_toList, ByteArray.size_data] at h1
        omega
      obtain ⟨hk, e0, _⟩ := drop_head hS
      have tq : ((s[k].toNat : Int) != 34) = false := by rw [e0]; rfl
      have HK1 := Lib.hid hk1
      clear e0 hS hk1
      go_wp2
      go_ret
      exact ⟨ret_int (by have := HK1.out; omega), rfl⟩
    · obtain ⟨hk, e0, hS1⟩ := drop_head hS
      obtain ⟨hk2, e1, hS2⟩ := drop_head hS1
      have tq : ((s[k].toNat : Int) != 34) = true := by rw [e0]; simp; omega
      have tb : ((s[k].toNat : Int) == 92) = true := by rw [e0]; simp; omega
      have HS2 := Lib.hid hS2
      have HXX := Lib.hid hx
      clear e0 e1 hS hS1 hS2 hc hx
      go_wp2
      go_round
      case rel => exact ⟨k + 2, xs', by go_num, Lib.hid ⟨HS2.out, HXX.out⟩⟩
      case measure => simp [intOf]; omega
    · obtain ⟨hk, e0, hS1⟩ := drop_head hS
      have tq : ((s[k].toNat : Int) != 34) = true := by rw [e0]; simp; omega
      have tb : ((s[k].toNat : Int) == 92) = false := by rw [e0]; simp; omega
      have HS1 := Lib.hid hS1
      have HXX := Lib.hid hx
      clear e0 hS hS1 hc hc2 hx
      go_wp2
      go_round
      case rel => exact ⟨k + 1, xs', by go_num, Lib.hid ⟨HS1.out, HXX.out⟩⟩
      case measure => simp [intOf]; omega

theorem extract_drop (s : ByteArray) (i k : Nat) (t rest : List UInt8) (hd : s.data.toList.drop i = t ++ rest) (hk : k = i + t.length) : (s.extract i k).data.toList = t := by
  rw [extract_list, List.drop_take, hd, hk, show i + t.length - i = t.length from by omega, List.take_left]

/-- what is left of a line, by its words -/
theorem join_rest (w : List UInt8) (r : List (List UInt8)) : joinL (w :: r) = encW w ++ (r.flatMap fun x => 32 :: encW x) := rfl
theorem rest_head (r : List (List UInt8)) : (r.flatMap fun x => 32 :: encW x) = [] ∨ ∃ q, (r.flatMap fun x => 32 :: encW x) = 32 :: q := by
  cases r with
  | nil => exact .inl rfl
  | cons x r => exact .inr ⟨_, rfl⟩
theorem rest_next (r : List (List UInt8)) (h : r ≠ []) : (r.flatMap fun x => 32 :: encW x) = 32 :: joinL r := by
  cases r with
  | nil => exact absurd rfl h
  | cons x r => rfl

set_option maxRecDepth 100000 in
set_option maxHeartbeats 4000000 in
theorem rwords_yes (s : ByteArray) (l : List (List UInt8)) (w : World) (hs : s.size ≤ 1000) (h : s.data.toList = joinL l) :
    Calls Tryz.prog 49 #[.string s] w fun e w' => (∃ v ss, e = .returned (.tuple #[v, .int .i64 0]) ∧ StrL w' v ss ∧ bytesOf ss = l) ∧ Below w.heap.size w w' := by
  have HJ := Lib.hid h
  have hll : l.length ≤ s.size + 1 ∧ (l.map List.length).sum ≤ s.size := by
    have h1 : s.size = (joinL l).length := by rw [← h]; simp
    have h2 : ∀ r : List (List UInt8), r.length + (r.map List.length).sum ≤ (r.flatMap fun x => 32 :: encW x).length := by
      intro r
      induction r with
      | nil => simp
      | cons x r ih =>
        have : x.length ≤ (encW x).length := by
          unfold encW
          split
          · omega
          · have := quoteL_ge x; omega
        simp only [List.flatMap_cons, List.length_append, List.length_cons, List.map_cons, List.sum_cons]
        omega
    cases l with
    | nil => simp
    | cons x r =>
      have h3 := h2 r
      have : x.length ≤ (encW x).length := by
        unfold encW
        split
        · omega
        · have := quoteL_ge x; omega
      rw [join_rest, List.length_append] at h1
      simp only [List.map_cons, List.sum_cons, List.length_cons]
      omega
  obtain ⟨hl1, hl2⟩ := hll
  clear h
  go_enter Tryz.func49, Tryz.ntmps49
  go_wp2
  have hO0 : SOwn 9 w.heap.size w (.slice none 0 0) [] := SOwn.nil (Nat.le_refl _)
  go_loopw [4, 5] (fun v q wr => ∃ (i m : Nat) (ss : List ByteArray), q = .int .i64 i ∧ i ≤ s.size + 1 ∧ SOwn 9 w.heap.size wr v ss ∧ Below w.heap.size w wr ∧ m ≤ l.length ∧ Hid (bytesOf ss = l.take m) ∧
      Hid ((m < l.length ∧ s.data.toList.drop i = joinL (l.drop m)) ∨ (m = l.length ∧ s.size ≤ i)))
    (fun _ q _ => s.size + 1 - (intOf q).toNat)
  case atStart =>
    refine ⟨0, 0, [], rfl, by omega, hO0, Below.refl _ _, by omega, Lib.hid rfl, Lib.hid ?_⟩
    rcases Nat.eq_zero_or_pos l.length with h0 | h0
    · right
      have : l = [] := List.eq_nil_of_length_eq_zero h0
      have h1 := HJ.out
      rw [this] at h1
      have := congrArg List.length h1
      simp [joinL] at this
      exact ⟨by omega, by simp [this]⟩
    · exact .inl ⟨h0, HJ.out⟩
  case round =>
    obtain ⟨i, m, ss, rfl, hi, hO, hB, hm, HE, HD⟩ := hrel
    have hssl : ss.length ≤ 2000 := by
      have := congrArg List.length HE.out
      rw [bytesOf_len] at this
      simp at this; omega
    rcases HD.out with ⟨hml, hd⟩ | ⟨hml, hsi⟩
    · have hdm := List.drop_eq_getElem_cons hml
      have htm : l.take (m + 1) = l.take m ++ [l[m]] := List.take_succ_eq_append_getElem hml
      generalize l[m] = t at hdm htm
      generalize hr : l.drop (m + 1) = r at hdm
      rw [hdm, join_rest] at hd
      have hsz : s.size - i = (encW t).length + (r.flatMap fun x => 32 :: encW x).length := by
        have := congrArg List.length hd
        simp only [List.length_drop, List.length_append, Array.length_toList, ByteArray.size_data] at this
        omega
      have hpos : 0 < (encW t).length := List.length_pos_iff.2 (encW_ne t)
      have hi1 : (i : Int) < (s.size : Int) := by omega
      have hnext : ((m + 1 < l.length ∧ s.data.toList.drop (i + (encW t).length + 1) = joinL (l.drop (m + 1))) ∨ (m + 1 = l.length ∧ s.size ≤ i + (encW t).length + 1)) := by
        have e1 : s.data.toList.drop (i + (encW t).length) = r.flatMap fun x => 32 :: encW x := by
          rw [← List.drop_drop, hd, List.drop_left]
        rw [hr]
        by_cases hrn : r = []
        · right
          subst hrn
          have h3 := congrArg List.length hr
          simp only [List.length_drop, List.length_nil] at h3
          simp only [List.flatMap_nil, List.length_nil] at hsz
          omega
        · left
          have h3 := congrArg List.length hr
          have h4 := List.length_pos_iff.2 hrn
          simp only [List.length_drop] at h3
          refine ⟨by omega, ?_⟩
          rw [rest_next r hrn] at e1
          rw [← List.drop_drop, e1]
          rfl
      obtain ⟨k, hke⟩ : ∃ k, k = i + (encW t).length := ⟨_, rfl⟩
      rw [← hke] at hnext
      have hik : i < k := by omega
      have hks : k ≤ s.size := by omega
      have HX := Lib.hid (extract_drop s i k _ _ hd hke)
      have hxs : (s.extract i k).size = k - i := by simp [ByteArray.size_extract]; omega
      have hxp : 0 < (s.extract i k).size := by omega
      have hx4 : (s.extract i k).size ≤ 40000 := by omega
      have HN := Lib.hid hnext
      have HT := Lib.hid htm
      have HSZ := Lib.hid hsz
      cases hp : plainL t
      · have henc := encW_quote t hp
        have hend : ∀ w, Calls Tryz.prog 119 #[.string s, .int .i64 i] w fun e w' => e = .returned (.int .i64 (k : Int)) ∧ w = w' := by
          intro w
          rw [hke, henc]
          exact end_quote s i t _ w (by omega) (by rw [← henc]; exact hd)
        have HEND := Lib.hid hend
        have hX2 : (s.extract i k).data.toList = quoteL t := by rw [HX.out, henc]
        have hf : (((s.extract i k)[0]).toNat : Int) = 34 := by
          obtain ⟨_, h0, _⟩ := quoted_ends hX2
          omega
        have tf : ((((s.extract i k)[0]).toNat : Int) == 34) = true := by rw [hf]; rfl
        have hU := fun w => runquote_yes (s.extract i k) t w hx4 hX2
        have HU := Lib.hid hU
        have HSS : Hid (bytesOf (ss ++ [⟨t.toArray⟩]) = l.take (m + 1)) := Lib.hid (by rw [bytesOf_snoc, HE.out, HT.out])
        clear hd hdm htm hsz hnext hke hend hX2 hU hf henc hp hxs hr hpos
        generalize hXe : s.extract i k = X at *
        go_wp2_with (first
          | (go_at_call 119; refine (HEND.out _).mono ?_; rintro e w' ⟨rfl, rfl⟩)
          | (go_at_call 120; refine (HU.out _).mono ?_; rintro e w2 ⟨rfl, hb2⟩; have hO2 := hO.more hb2; have hB2 := hB.trans (hb2.mono hB.size))
          | (at_builtin; refine wpList_sapp strT rfl _ _ rfl _ ss rfl (hO2.alloc _) _ ⟨t.toArray⟩ _ rfl (heap_alloc_new _ _) (by omega) ?_; intro v' w3 hO4 hb4))
        have hB4 : Below w.heap.size w w3 := (hB2.alloc hB2.size _).trans (hb4.mono (Nat.le_refl _))
        go_roundw
        case rel => exact ⟨k + 1, m + 1, _, by go_num, by omega, hO4, hB4, by omega, HSS, HN⟩
        case measure => simp [intOf]; omega
      · have henc := encW_plain t hp
        have hend : ∀ w, Calls Tryz.prog 119 #[.string s, .int .i64 i] w fun e w' => e = .returned (.int .i64 (k : Int)) ∧ w = w' := by
          intro w
          rw [hke, henc]
          exact end_plain s i t _ w (by omega) hp (by rw [← henc]; exact hd) (rest_head r)
        have HEND := Lib.hid hend
        have hX2 : (s.extract i k).data.toList = t := by rw [HX.out, henc]
        have tf : ((((s.extract i k)[0]).toNat : Int) == 34) = false := by
          have h1 := bytes_cons1 (s.extract i k) hxp
          rw [hX2] at h1
          rw [h1] at hp
          simp only [plainL, List.all_cons, Bool.and_eq_true] at hp
          have := hp.2.1
          simp [okB] at this
          simp only [beq_eq_false_iff_ne]
          omega
        have HSS : Hid (bytesOf (ss ++ [s.extract i k]) = l.take (m + 1)) := Lib.hid (by
          have : bytesOf (ss ++ [s.extract i k]) = bytesOf ss ++ [(s.extract i k).data.toList] := by simp [bytesOf]
          rw [this, hX2, HE.out, HT.out])
        clear hd hdm htm hsz hnext hke hend hX2 henc hp hxs hr hpos
        generalize hXe : s.extract i k = X at *
        go_wp2_with (first
          | (go_at_call 119; refine (HEND.out _).mono ?_; rintro e w' ⟨rfl, rfl⟩)
          | (at_builtin; refine wpList_sapp strT rfl _ _ rfl _ ss rfl (hO.alloc _) _ X _ rfl (heap_alloc_new _ _) (by omega) ?_; intro v' w3 hO4 hb4))
        have hB4 : Below w.heap.size w w3 := (hB.alloc hB.size _).trans (hb4.mono (Nat.le_refl _))
        go_roundw
        case rel => exact ⟨k + 1, m + 1, _, by go_num, by omega, hO4, hB4, by omega, HSS, HN⟩
        case measure => simp [intOf]; omega
    · have hi1 : ¬ (i : Int) < (s.size : Int) := by omega
      have HL2 : Hid (bytesOf ss = l) := Lib.hid (by rw [HE.out, List.take_of_length_le (by omega)])
      have hsum : ((bytesOf ss).map List.length).sum ≤ 2000 := by rw [HL2.out]; omega
      have hj := rjoin_any _ ss wr hO.strL hssl hsum
      rw [HL2.out, ← HJ.out, Lib.mk_data] at hj
      have HJJ := Lib.hid hj
      clear hj hml hsi hsum
      have hr1 : (s.toList == s.toList) = true := by simp
      go_wp2_with (go_at_call 44; refine HJJ.out.mono ?_; rintro e w2 ⟨rfl, hb2⟩)
      go_ret2
      exact ⟨⟨_, ss, rfl, hO.strL.more hb2, HL2.out⟩, hB.trans (hb2.mono hB.size)⟩

set_option maxRecDepth 100000 in
set_option maxHeartbeats 4000000 in
theorem rwords_no (s : ByteArray) (w : World) (hs : s.size ≤ 1000) (h : ∀ l, s.data.toList ≠ joinL l) :
    Calls Tryz.prog 49 #[.string s] w fun e w' => e = .returned (.tuple #[.slice none 0 0, .int .i64 3]) ∧ Below w.heap.size w w' := by
  have HJ := Lib.hid h
  clear h
  go_enter Tryz.func49, Tryz.ntmps49
  go_wp2
  have hO0 : SOwn 9 w.heap.size w (.slice none 0 0) [] := SOwn.nil (Nat.le_refl _)
  go_loopw [4, 5] (fun v q wr => ∃ (i : Nat) (ss : List ByteArray), q = .int .i64 i ∧ i ≤ s.size + 1 ∧ SOwn 9 w.heap.size wr v ss ∧ Below w.heap.size w wr ∧ ss.length ≤ i ∧ ((bytesOf ss).map List.length).sum ≤ i)
    (fun _ q _ => s.size + 1 - (intOf q).toNat)
  case atStart => exact ⟨0, [], rfl, by omega, hO0, Below.refl _ _, by simp, by simp [bytesOf]⟩
  case round =>
    obtain ⟨i, ss, rfl, hi, hO, hB, hl1, hl2⟩ := hrel
    by_cases hlt : i < s.size
    · have hi1 : (i : Int) < (s.size : Int) := by omega
      have hend := fun w => end_any s i w (by omega) hlt
      have HEND := Lib.hid hend
      clear hend
      go_wp2_with (go_at_call 119; refine (HEND.out _).mono ?_; rintro e w' ⟨⟨k, hk1, hk2, rfl⟩, rfl⟩; refine Hid.out ?_)
      refine Lib.hid ?_
      have hxs : (s.extract i k).size = k - i := by simp [ByteArray.size_extract]; omega
      have hx4 : (s.extract i k).size ≤ 40000 := by omega
      have hbs : ∀ x : ByteArray, ((bytesOf (ss ++ [x])).map List.length).sum = ((bytesOf ss).map List.length).sum + x.size := by
        intro x
        simp only [bytesOf, List.map_append, List.map_cons, List.map_nil, List.sum_append, List.sum_cons, List.sum_nil, Array.length_toList, ByteArray.size_data, Nat.add_zero]
      have HBS := Lib.hid hbs
      clear hbs
      by_cases hki : i < k
      · have hxp : 0 < (s.extract i k).size := by omega
        by_cases hf : (s.extract i k)[0].toNat = 34
        · have tf : ((((s.extract i k)[0]).toNat : Int) == 34) = true := by simp only [beq_iff_eq]; omega
          clear hf
          by_cases hu : ∃ t, (s.extract i k).data.toList = quoteL t
          · obtain ⟨t, ht⟩ := hu
            have hU := fun w => runquote_yes (s.extract i k) t w hx4 ht
            have HU := Lib.hid hU
            have htl : t.length ≤ k - i := by
              have h1 := congrArg List.length ht
              have h2 := quoteL_ge t
              simp only [Array.length_toList, ByteArray.size_data] at h1
              omega
            have hsu : ((bytesOf (ss ++ [⟨t.toArray⟩])).map List.length).sum ≤ k := by
              rw [HBS.out]
              have : (⟨t.toArray⟩ : ByteArray).size = t.length := by simp [ByteArray.size]
              omega
            clear hU ht hxs
            generalize hXe : s.extract i k = X at *
            go_wp2_with (first
              | (go_at_call 120; refine (HU.out _).mono ?_; rintro e w2 ⟨rfl, hb2⟩; have hO2 := hO.more hb2; have hB2 := hB.trans (hb2.mono hB.size))
              | (at_builtin; refine wpList_sapp strT rfl _ _ rfl _ ss rfl (hO2.alloc _) _ ⟨t.toArray⟩ _ rfl (heap_alloc_new _ _) (by omega) ?_; intro v' w3 hO4 hb4))
            have hB4 : Below w.heap.size w w3 := (hB2.alloc hB2.size _).trans (hb4.mono (Nat.le_refl _))
            go_roundw
            case rel => exact ⟨k + 1, _, by go_num, by omega, hO4, hB4, by simp; omega, by omega⟩
            case measure => simp [intOf]; omega
          · have hU := fun w => runquote_no (s.extract i k) w hx4 (fun t ht => hu ⟨t, ht⟩)
            have HU := Lib.hid hU
            clear hU hu hxs
            generalize hXe : s.extract i k = X at *
            go_wp2_with (go_at_call 120; refine (HU.out _).mono ?_; rintro e w2 ⟨rfl, hb2⟩)
            go_ret2
            exact ⟨rfl, hB.trans (hb2.mono hB.size)⟩
        · have tf : ((((s.extract i k)[0]).toNat : Int) == 34) = false := by simp only [beq_eq_false_iff_ne]; omega
          have hsu : ((bytesOf (ss ++ [s.extract i k])).map List.length).sum ≤ k := by rw [HBS.out]; omega
          clear hf hxs
          generalize hXe : s.extract i k = X at *
          go_wp2_with (at_builtin; refine wpList_sapp strT rfl _ _ rfl _ ss rfl (hO.alloc _) _ X _ rfl (heap_alloc_new _ _) (by omega) ?_; intro v' w3 hO4 hb4)
          have hB4 : Below w.heap.size w w3 := (hB.alloc hB.size _).trans (hb4.mono (Nat.le_refl _))
          go_roundw
          case rel => exact ⟨k + 1, _, by go_num, by omega, hO4, hB4, by simp; omega, by omega⟩
          case measure => simp [intOf]; omega
      · have hsu : ((bytesOf (ss ++ [s.extract i k])).map List.length).sum ≤ k := by rw [HBS.out]; omega
        have hz : ¬ 0 < ((s.extract i k).size : Int) := by omega
        clear hxs
        generalize hXe : s.extract i k = X at *
        go_wp2_with (at_builtin; refine wpList_sapp strT rfl _ _ rfl _ ss rfl (hO.alloc _) _ X _ rfl (heap_alloc_new _ _) (by omega) ?_; intro v' w3 hO4 hb4)
        have hB4 : Below w.heap.size w w3 := (hB.alloc hB.size _).trans (hb4.mono (Nat.le_refl _))
        go_roundw
        case rel => exact ⟨k + 1, _, by go_num, by omega, hO4, hB4, by simp; omega, by omega⟩
        case measure => simp [intOf]; omega
    · have hi1 : ¬ (i : Int) < (s.size : Int) := by omega
      have hj := rjoin_any _ ss wr hO.strL (by omega) (by omega)
      have HJJ := Lib.hid hj
      clear hj
      have hr1 : (joinL (bytesOf ss) == s.toList) = false := by
        rw [beq_eq_false_iff_ne, ByteArray.toList_eq]
        intro e
        exact HJ.out _ e.symm
      go_wp2_with (go_at_call 44; refine HJJ.out.mono ?_; rintro e w2 ⟨rfl, hb2⟩)
      go_ret2
      exact ⟨rfl, hB.trans (hb2.mono hB.size)⟩
end Go.Proofs.YtmmpalnalogfnaaGreatDoor.Txt

/- Walks of the reference's digits, Parse and Minute. -/
namespace Go.Proofs.YtmmpalnalogfnaaGreatDoor.Per
open Go.RowKit
set_option linter.unusedSimpArgs false
set_option linter.unusedVariables false

set_option maxRecDepth 100000 in
set_option maxHeartbeats 1000000 in
theorem digits_any (s : ByteArray) (a n : Nat) (w : World) (hs : s.size ≤ 1000) (h : a + n ≤ s.size) (hn : n ≤ 9) :
    Calls Tryz.prog 173 #[.string s, .int .i64 (a : Int), .int .i64 (n : Int)] w fun e w' => e = .returned (.int .i64 (digR s.data.toList a n)) ∧ w = w' := by
  go_enter Tryz.func173, Tryz.ntmps173
  go_wp2
  go_loop [7, 8] (fun vx vi => ∃ (k : Nat) (acc : Int), k ≤ n ∧ vi = .int .i64 ((a + k : Nat) : Int) ∧ vx = .int .i64 acc ∧ 0 ≤ acc ∧ acc < 10 ^ k ∧ Hid (((s.data.toList.drop a).take k).all digB = true) ∧ Hid (acc = numL 0 ((s.data.toList.drop a).take k))) (fun _ i => a + n - (intOf i).toNat)
  case atStart => exact ⟨0, 0, by omega, rfl, rfl, by omega, by decide, Lib.hid (by simp), Lib.hid (by simp [numL])⟩
  case round =>
    obtain ⟨k, acc, hk, rfl, rfl, a0, a1, HA, HK⟩ := hrel
    by_cases hlt : k < n
    · obtain ⟨j, hj⟩ : ∃ j : Nat, j = a + k := ⟨_, rfl⟩
      have hin : j < s.size := by omega
      have i1 : (j : Int) < (s.size : Int) := by omega
      have i2 : (j : Int) < (a : Int) + (n : Int) := by omega
      have hbad : Hid (digB s[j] = false → digR s.data.toList a n = -1) := Lib.hid (by
        subst hj
        exact fun h => part_bad _ a k n hlt (by simpa using hin) h)
      have hnum : Hid (numL 0 ((s.data.toList.drop a).take (k + 1)) = 10 * acc + ((s[j].toNat : Int) - 48)) := Lib.hid (by
        subst hj
        rw [part_num _ a k (by simpa using hin), ← HK.out]; rfl)
      have hall : Hid (digB s[j] = true → ((s.data.toList.drop a).take (k + 1)).all digB = true) := Lib.hid (by
        subst hj
        exact fun h => part_all _ a k (by simpa using hin) HA.out h)
      have hcl : Hid (digB s[j] = decide (48 ≤ (s[j].toNat : Int) ∧ (s[j].toNat : Int) ≤ 57)) := Lib.hid rfl
      by_cases c1 : (s[j].toNat : Int) < 48
      · have HR : Hid (digR s.data.toList a n = -1) := Lib.hid (hbad.out (by rw [hcl.out, decide_eq_false_iff_not]; omega))
        simp only [← hj]
        clear a1 hj
        go_wp2
        go_ret
        exact ⟨by rw [HR.out]; rfl, rfl⟩
      by_cases c2 : 57 < (s[j].toNat : Int)
      · have HR : Hid (digR s.data.toList a n = -1) := Lib.hid (hbad.out (by rw [hcl.out, decide_eq_false_iff_not]; omega))
        simp only [← hj]
        clear a1 hj
        go_wp2
        go_ret
        exact ⟨by rw [HR.out]; rfl, rfl⟩
      · have HA2 : Hid (((s.data.toList.drop a).take (k + 1)).all digB = true) := Lib.hid (hall.out (by rw [hcl.out, decide_eq_true_iff]; omega))
        have hp : (10 : Int) ^ k ≤ 1000000000 := by
          have : k = 0 ∨ k = 1 ∨ k = 2 ∨ k = 3 ∨ k = 4 ∨ k = 5 ∨ k = 6 ∨ k = 7 ∨ k = 8 ∨ k = 9 := by omega
          rcases this with rfl | rfl | rfl | rfl | rfl | rfl | rfl | rfl | rfl | rfl <;> decide
        have hq : (10 : Int) ^ (k + 1) = 10 * 10 ^ k := by rw [Int.pow_succ, Int.mul_comm]
        have HP : Hid (10 * acc + ((s[j].toNat : Int) - 48) < 10 ^ (k + 1)) := Lib.hid (by rw [hq]; omega)
        have hacc : acc < 1000000000 := by omega
        have HJ := Lib.hid hj
        simp only [← hj]
        clear hp hq a1 hj
        go_wp2
        go_round
        case rel => exact ⟨k + 1, 10 * acc + ((s[j].toNat : Int) - 48), by omega, by rw [show ((a + (k + 1) : Nat) : Int) = (j : Int) + 1 by rw [HJ.out]; omega], rfl, by omega, HP.out, HA2, Lib.hid hnum.out.symm⟩
        case measure => simp [intOf]; have := HJ.out; omega
    · have e : k = n := by omega
      subst e
      have i2 : ¬ ((a + k : Nat) : Int) < (a : Int) + (k : Int) := by omega
      have HE : Hid (digR s.data.toList a k = acc) := Lib.hid (by rw [digR, if_pos HA.out, HK.out])
      clear a1
      go_wp2
      go_ret
      exact ⟨by rw [HE.out]; rfl, rfl⟩

end Go.Proofs.YtmmpalnalogfnaaGreatDoor.Per

/- Walks of the reference's Parse and Minute. -/
namespace Go.Proofs.YtmmpalnalogfnaaGreatDoor.Per
open Go.RowKit
set_option linter.unusedSimpArgs false
set_option linter.unusedVariables false

theorem dig_same (s : ByteArray) (a n : Nat) (hs : s.size ≤ 1000) (h : a + n ≤ s.size) (hn : n ≤ 9) (w : World) :
    Calls Tryz.prog 173 #[.string s, .int .i64 (a : Int), .int .i64 (n : Int)] w fun e w' => e = .returned (.int .i64 (digR s.data.toList a n)) ∧ w' = w :=
  (digits_any s a n w hs h hn).mono (by rintro e w' ⟨rfl, rfl⟩; exact ⟨rfl, rfl⟩)
theorem ne_byte {c : UInt8} {k : Nat} (hk : k < 256) : (((c.toNat : Int) != (k : Int)) = true) ↔ c ≠ UInt8.ofNat k := by
  rw [bne_iff_ne]
  constructor
  · intro h e; subst e; apply h; rw [UInt8.toNat_ofNat']; omega
  · intro h e; apply h; apply UInt8.toNat_inj.1; rw [UInt8.toNat_ofNat']; omega

set_option maxHeartbeats 1000000 in
theorem rparse_any (s : ByteArray) (w : World) (hs : s.size ≤ 1000) : Calls Tryz.prog 122 #[.string s] w fun e w' => e = .returned (.tuple #[.int .i64 (parseP s.data.toList).1, .int .i64 (parseP s.data.toList).2]) ∧ Below w.heap.size w w' := by
  have hll : s.data.toList.length = s.size := by simp
  by_cases hl : s.size = 10
  case neg =>
    have HR : Hid (parseP s.data.toList = (0, 3)) := Lib.hid (rparse_len (by rw [hll]; exact hl))
    have h1 : ((s.size : Int) != 10) = true := by rw [bne_iff_ne]; omega
    clear hl
    go_enter Tryz.func122, Tryz.ntmps122
    go_wp2
    go_ret2
    exact ⟨by rw [HR.out]; rfl, Below.refl _ _⟩
  have h1 : ((s.size : Int) != 10) = false := by rw [hl]; rfl
  have i4 : 4 < s.size := by omega
  have i7 : 7 < s.size := by omega
  have hl2 : s.data.toList.length = 10 := by rw [hll]; exact hl
  by_cases c4 : s[4] = 45
  case neg =>
    have HR : Hid (parseP s.data.toList = (0, 3)) := Lib.hid (rparse_hy hl2 (.inl c4))
    have q1 : ((s[4].toNat : Int) != 45) = true := (ne_byte (k := 45) (by decide)).2 c4
    clear c4 hl hl2 hll
    go_enter Tryz.func122, Tryz.ntmps122
    go_wp2
    go_ret2
    exact ⟨by rw [HR.out]; rfl, Below.refl _ _⟩
  have q1 : ((s[4].toNat : Int) != 45) = false := by rw [c4]; rfl
  by_cases c7 : s[7] = 45
  case neg =>
    have HR : Hid (parseP s.data.toList = (0, 3)) := Lib.hid (rparse_hy hl2 (.inr c7))
    have q2 : ((s[7].toNat : Int) != 45) = true := (ne_byte (k := 45) (by decide)).2 c7
    clear c4 c7 hl hl2 hll
    go_enter Tryz.func122, Tryz.ntmps122
    go_wp2
    go_ret2
    exact ⟨by rw [HR.out]; rfl, Below.refl _ _⟩
  have q2 : ((s[7].toNat : Int) != 45) = false := by rw [c7]; rfl
  have HN : Hid (digR s.data.toList 0 4 < 0 ∨ digR s.data.toList 5 2 < 0 ∨ digR s.data.toList 8 2 < 0 → parseP s.data.toList = (0, 3)) := Lib.hid (rparse_neg hl2)
  have HY : Hid (¬ digR s.data.toList 0 4 < 0 → ¬ digR s.data.toList 5 2 < 0 → ¬ digR s.data.toList 8 2 < 0 → parseP s.data.toList = dayR (digR s.data.toList 0 4) (digR s.data.toList 5 2) (digR s.data.toList 8 2)) := Lib.hid (rparse_ok hl2 c4 c7)
  have K1 : Hid (∀ w, Calls Tryz.prog 173 #[.string s, .int .i64 0, .int .i64 4] w fun e w' => e = .returned (.int .i64 (digR s.data.toList 0 4)) ∧ w' = w) := Lib.hid (dig_same s 0 4 hs (by omega) (by omega))
  have K2 : Hid (∀ w, Calls Tryz.prog 173 #[.string s, .int .i64 5, .int .i64 2] w fun e w' => e = .returned (.int .i64 (digR s.data.toList 5 2)) ∧ w' = w) := Lib.hid (dig_same s 5 2 hs (by omega) (by omega))
  have K3 : Hid (∀ w, Calls Tryz.prog 173 #[.string s, .int .i64 8, .int .i64 2] w fun e w' => e = .returned (.int .i64 (digR s.data.toList 8 2)) ∧ w' = w) := Lib.hid (dig_same s 8 2 hs (by omega) (by omega))
  clear c4 c7 hl hl2 hll
  generalize digR s.data.toList 0 4 = y at *
  generalize digR s.data.toList 5 2 = m at *
  generalize digR s.data.toList 8 2 = d at *
  by_cases hy : y < 0
  · have HR : Hid (parseP s.data.toList = (0, 3)) := Lib.hid (HN.out (.inl hy))
    go_enter Tryz.func122, Tryz.ntmps122
    go_wp2_with (go_at_call 173; first | (with_reducible refine (K1.out _).mono ?_; rintro e w' ⟨rfl, rfl⟩) | (with_reducible refine (K2.out _).mono ?_; rintro e w' ⟨rfl, rfl⟩) | (with_reducible refine (K3.out _).mono ?_; rintro e w' ⟨rfl, rfl⟩))
    go_ret2
    exact ⟨by rw [HR.out]; rfl, Below.refl _ _⟩
  by_cases hm : m < 0
  · have HR : Hid (parseP s.data.toList = (0, 3)) := Lib.hid (HN.out (.inr (.inl hm)))
    go_enter Tryz.func122, Tryz.ntmps122
    go_wp2_with (go_at_call 173; first | (with_reducible refine (K1.out _).mono ?_; rintro e w' ⟨rfl, rfl⟩) | (with_reducible refine (K2.out _).mono ?_; rintro e w' ⟨rfl, rfl⟩) | (with_reducible refine (K3.out _).mono ?_; rintro e w' ⟨rfl, rfl⟩))
    go_ret2
    exact ⟨by rw [HR.out]; rfl, Below.refl _ _⟩
  by_cases hd : d < 0
  · have HR : Hid (parseP s.data.toList = (0, 3)) := Lib.hid (HN.out (.inr (.inr hd)))
    go_enter Tryz.func122, Tryz.ntmps122
    go_wp2_with (go_at_call 173; first | (with_reducible refine (K1.out _).mono ?_; rintro e w' ⟨rfl, rfl⟩) | (with_reducible refine (K2.out _).mono ?_; rintro e w' ⟨rfl, rfl⟩) | (with_reducible refine (K3.out _).mono ?_; rintro e w' ⟨rfl, rfl⟩))
    go_ret2
    exact ⟨by rw [HR.out]; rfl, Below.refl _ _⟩
  · have HR : Hid (parseP s.data.toList = dayR y m d) := Lib.hid (HY.out hy hm hd)
    go_enter Tryz.func122, Tryz.ntmps122
    go_wp2_with (first | (go_at_call 173; first | (with_reducible refine (K1.out _).mono ?_; rintro e w' ⟨rfl, rfl⟩) | (with_reducible refine (K2.out _).mono ?_; rintro e w' ⟨rfl, rfl⟩) | (with_reducible refine (K3.out _).mono ?_; rintro e w' ⟨rfl, rfl⟩)) | (go_at_call 174; refine (rday_any _ _ _ _).mono ?_; rintro e w' ⟨rfl, rfl⟩))
    go_ret2
    exact ⟨by rw [HR.out]; rfl, Below.refl _ _⟩

end Go.Proofs.YtmmpalnalogfnaaGreatDoor.Per
