/- Walk of newSearch. -/
import Derived.Test.YtkcdifanhdakhaaDoorConS
import Derived.Deep.RegionHeld3
import Derived.Deep.CutRange
import Derived.Deep.CutBlock
import Derived.Deep.Onto
namespace Go.Proofs.YtkcdifanhdakhaaDoor.Con
open Go.RowKit Go.Shelf
set_option linter.unusedSimpArgs false
set_option linter.unusedVariables false

/-- what a search that was made tells: the rows and the maps of rows -/
structure SQ (w : World) (m1 m2 : Nat) (V : Ky → Value) (L : Ky → List Nat) : Prop where
  rows : ∀ k, NmL w (V k) (L k)
  map1 : ∃ n g, MapS w m1 n g ∧ ∀ c, (g c).getD nilS = V (.f c)
  map2 : ∃ n g, MapS w m2 n g ∧ ∀ c, (g c).getD nilS = V (.t c)
theorem sq_more {w w' : World} {m1 m2 : Nat} {V : Ky → Value} {L : Ky → List Nat} (h : SQ w m1 m2 V L) (hb : Below w.heap.size w w') : SQ w' m1 m2 V L := by
  obtain ⟨n1, g1, h1, e1⟩ := h.map1
  obtain ⟨n2, g2, h2, e2⟩ := h.map2
  exact ⟨fun k => (h.rows k).more hb, ⟨n1, g1, h1.more hb, e1⟩, ⟨n2, g2, h2.more hb, e2⟩⟩
theorem sq_of {w : World} {lo B m1 m2 n : Nat} {vl vs : Value} {V : Ky → Value} {L : Ky → List Nat} (h : SR w lo B m1 m2 n vl vs V L) : SQ w m1 m2 V L := by
  obtain ⟨g1, h1, e1⟩ := h.map1
  obtain ⟨g2, h2, e2⟩ := h.map2
  exact ⟨fun k => (sr_rown h k).rowL rtN.len, ⟨_, g1, h1, e1⟩, ⟨_, g2, h2, e2⟩⟩
theorem sq_look1 {w : World} {m1 m2 : Nat} {V : Ky → Value} {L : Ky → List Nat} (h : SQ w m1 m2 V L) (c : ByteArray) (hc : c.size ≤ maxLen) : (Instr.lookup 61 (.map (some m1)) (.string c) false).run Tryd.prog w = .ok (V (.f c)) w := by
  obtain ⟨n, g, h1, e⟩ := h.map1
  rw [lookI h1 c hc, e]
theorem sq_look2 {w : World} {m1 m2 : Nat} {V : Ky → Value} {L : Ky → List Nat} (h : SQ w m1 m2 V L) (c : ByteArray) (hc : c.size ≤ maxLen) : (Instr.lookup 61 (.map (some m2)) (.string c) false).run Tryd.prog w = .ok (V (.t c)) w := by
  obtain ⟨n, g, h1, e⟩ := h.map2
  rw [lookI h1 c hc, e]
theorem kyL_succ (S : List Sg) (fr dn : ByteArray) (n : Nat) (k : Ky) : kyL S fr dn (n + 1) k = kyL S fr dn n k ++ (if kyP fr dn k (sA S n) then [n] else []) := ix_succ _ _ _










theorem kyL_0 {S : List Sg} {fr dn : ByteArray} {n : Nat} (h : kd fr dn (sA S n) = 0) (k : Ky) : kyL S fr dn (n + 1) k = kyL S fr dn n k := by
  rw [kyL_succ]
  cases k <;> simp [kyP, h]
theorem kyL_1 {S : List Sg} {fr dn : ByteArray} {n : Nat} (h : kd fr dn (sA S n) = 1) (k : Ky) : kyL S fr dn (n + 1) k = upd (kyL S fr dn n) .o (kyL S fr dn n .o ++ [n]) k := by
  rw [kyL_succ]
  cases k <;> simp [kyP, h, upd]
theorem kyL_4 {S : List Sg} {fr dn : ByteArray} {n : Nat} (h : kd fr dn (sA S n) = 4) (k : Ky) : kyL S fr dn (n + 1) k = upd (kyL S fr dn n) .m (kyL S fr dn n .m ++ [n]) k := by
  rw [kyL_succ]
  cases k <;> simp [kyP, h, upd]
theorem kyL_2 {S : List Sg} {fr dn : ByteArray} {n : Nat} (h : kd fr dn (sA S n) = 2) (k : Ky) : kyL S fr dn (n + 1) k = upd (kyL S fr dn n) (.f (sA S n).t) (kyL S fr dn n (.f (sA S n).t) ++ [n]) k := by
  rw [kyL_succ]
  cases k with
  | f c =>
    by_cases e : c = (sA S n).t
    · subst e; rw [upd_same]; simp [kyP, h, eqS_self]
    · rw [upd_other _ _ (by intro q; cases q; exact e rfl)]
      have : eqS (sA S n).t c = false := by
        cases q : eqS (sA S n).t c
        · rfl
        · exact absurd ((eqS_iff _ _).1 q).symm e
      simp [kyP, h, this]
  | _ => rw [upd_other _ _ (by intro q; cases q)]; simp [kyP, h]
theorem kyL_3 {S : List Sg} {fr dn : ByteArray} {n : Nat} (h : kd fr dn (sA S n) = 3) (k : Ky) : kyL S fr dn (n + 1) k = upd (upd (kyL S fr dn n) .l (kyL S fr dn n .l ++ [n])) (.t (sA S n).f) (upd (kyL S fr dn n) .l (kyL S fr dn n .l ++ [n]) (.t (sA S n).f) ++ [n]) k := by
  rw [kyL_succ, upd_other (kyL S fr dn n) _ (show Ky.t (sA S n).f ≠ .l by intro q; cases q)]
  cases k with
  | t c =>
    by_cases e : c = (sA S n).f
    · subst e; rw [upd_same]; simp [kyP, h, eqS_self]
    · rw [upd_other _ _ (by intro q; cases q; exact e rfl), upd_other _ _ (by intro q; cases q)]
      have : eqS (sA S n).f c = false := by
        cases q : eqS (sA S n).f c
        · rfl
        · exact absurd ((eqS_iff _ _).1 q).symm e
      simp [kyP, h, this]
  | l => rw [upd_other _ _ (by intro q; cases q), upd_same]; simp [kyP, h]
  | _ => rw [upd_other _ _ (by intro q; cases q), upd_other _ _ (by intro q; cases q)]; simp [kyP, h]
theorem kyL_len (S : List Sg) (fr dn : ByteArray) (n : Nat) (k : Ky) : (kyL S fr dn n k).length ≤ n := ix_len _ _ _


/-- seven stores into a block of seven cells -/
def S7 (w : World) (N : Nat) (v0 v1 v2 v3 v4 v5 v6 : Value) : World := ((((((w.setCell ⟨N, 0, none⟩ v0).setCell ⟨N, 1, none⟩ v1).setCell ⟨N, 2, none⟩ v2).setCell ⟨N, 3, none⟩ v3).setCell ⟨N, 4, none⟩ v4).setCell ⟨N, 5, none⟩ v5).setCell ⟨N, 6, none⟩ v6
theorem s7_heap {w : World} {N : Nat} {t : TypeId} {a0 a1 a2 a3 a4 a5 a6 : Value} (h : w.heap[N]? = some (.cells #[a0, a1, a2, a3, a4, a5, a6] t (0, 0))) (v0 v1 v2 v3 v4 v5 v6 : Value) : (S7 w N v0 v1 v2 v3 v4 v5 v6).heap[N]? = some (.cells #[v0, v1, v2, v3, v4, v5, v6] t (0, 0)) := by
  have e1 : (w.setCell ⟨N, 0, none⟩ v0).heap[N]? = some (.cells #[v0, a1, a2, a3, a4, a5, a6] t (0, 0)) := heap_setCell_same w N 0 _ t v0 h
  have e2 : ((w.setCell ⟨N, 0, none⟩ v0).setCell ⟨N, 1, none⟩ v1).heap[N]? = some (.cells #[v0, v1, a2, a3, a4, a5, a6] t (0, 0)) := heap_setCell_same _ N 1 _ t v1 e1
  have e3 : (((w.setCell ⟨N, 0, none⟩ v0).setCell ⟨N, 1, none⟩ v1).setCell ⟨N, 2, none⟩ v2).heap[N]? = some (.cells #[v0, v1, v2, a3, a4, a5, a6] t (0, 0)) := heap_setCell_same _ N 2 _ t v2 e2
  have e4 : ((((w.setCell ⟨N, 0, none⟩ v0).setCell ⟨N, 1, none⟩ v1).setCell ⟨N, 2, none⟩ v2).setCell ⟨N, 3, none⟩ v3).heap[N]? = some (.cells #[v0, v1, v2, v3, a4, a5, a6] t (0, 0)) := heap_setCell_same _ N 3 _ t v3 e3
  have e5 : (((((w.setCell ⟨N, 0, none⟩ v0).setCell ⟨N, 1, none⟩ v1).setCell ⟨N, 2, none⟩ v2).setCell ⟨N, 3, none⟩ v3).setCell ⟨N, 4, none⟩ v4).heap[N]? = some (.cells #[v0, v1, v2, v3, v4, a5, a6] t (0, 0)) := heap_setCell_same _ N 4 _ t v4 e4
  have e6 : ((((((w.setCell ⟨N, 0, none⟩ v0).setCell ⟨N, 1, none⟩ v1).setCell ⟨N, 2, none⟩ v2).setCell ⟨N, 3, none⟩ v3).setCell ⟨N, 4, none⟩ v4).setCell ⟨N, 5, none⟩ v5).heap[N]? = some (.cells #[v0, v1, v2, v3, v4, v5, a6] t (0, 0)) := heap_setCell_same _ N 5 _ t v5 e5
  exact heap_setCell_same _ N 6 _ t v6 e6
theorem s7_but (w : World) (N : Nat) (v0 v1 v2 v3 v4 v5 v6 : Value) : But w (S7 w N v0 v1 v2 v3 v4 v5 v6) (fun k => k = N) :=
  ((((((But.setCell w N 0 v0).trans (But.setCell _ N 1 v1) (fun _ _ h => h)).trans (But.setCell _ N 2 v2) (fun _ _ h => h)).trans (But.setCell _ N 3 v3) (fun _ _ h => h)).trans (But.setCell _ N 4 v4) (fun _ _ h => h)).trans (But.setCell _ N 5 v5) (fun _ _ h => h)).trans (But.setCell _ N 6 v6) (fun _ _ h => h)
theorem sr_but {w w' : World} {lo B m1 m2 n : Nat} {vl vs : Value} {V : Ky → Value} {L : Ky → List Nat} (h : SR w lo B m1 m2 n vl vs V L) {z : Nat} (hb : But w w' (fun k => k = z)) (h0 : z < lo) (h1 : z ≠ B) (h2 : z ≠ m1) (h3 : z ≠ m2) : SR w' lo B m1 m2 n vl vs V L := by
  obtain ⟨g1, p1, e1⟩ := h.map1
  obtain ⟨g2, p2, e2⟩ := h.map2
  have hl := h.hlo
  have hg : w.grownBy w' (some z) := ⟨hb.os, hb.tape, hb.output, hb.size, fun k hk hne => hb.block k hk (fun e => hne (by rw [e]))⟩
  exact { h with
    box := (hb.block B (Nat.lt_of_lt_of_le h.ltB hl) (fun e => h1 e.symm)).trans h.box
    map1 := ⟨g1, p1.grown hg (fun e => h2 (Option.some.inj e).symm), e1⟩
    map2 := ⟨g2, p2.grown hg (fun e => h3 (Option.some.inj e).symm), e2⟩
    own := fun k => (h.own k).kept hg (.inr (fun e => by have := (sr_off h k e).1; omega))
    hlo := Nat.le_trans hl hb.size }
theorem own_slice {W : World} {B : Nat} {e : TypeId} {sz : Nat} {v : Value} {k : Nat} {xs : List Value} (h : W.ownsRow B e sz v k xs) : ∃ A n c, v = .slice A n c := by
  rcases h.2 with ⟨rfl, _⟩ | ⟨g, cap, cur, rfl, _⟩
  · exact ⟨_, _, _, rfl⟩
  · exact ⟨_, _, _, rfl⟩
/-- where the rows and the maps lie -/
def NSP (w w' : World) (m1 m2 : Nat) (V : Ky → Value) (L : Ky → List Nat) : Prop :=
  ∃ lo, (∀ k, w'.ownsRow lo inT 1 (V k) (L k).length (cellsR encN (L k))) ∧ (w.heap.size ≤ lo ∧ w.heap.size ≤ m1 ∧ w.heap.size ≤ m2 ∧ m1 < w'.heap.size ∧ m2 < w'.heap.size)
abbrev zS : Obj := .cells #[nilS, nilS, nilS, .map none, nilS, nilS, .map none] srT

set_option maxRecDepth 100000 in
set_option maxHeartbeats 16000000 in
theorem newSearch_any (Al : Option Addr) (nl cl : Nat) (As : Option Addr) (cs : Nat) (S : List Sg) (fr dn : ByteArray) (w : World) (hv : SgL w (.slice As S.length cs) S) (hn : S.length ≤ 200) (hz : ∀ s ∈ S, s.f.size ≤ maxLen ∧ s.t.size ≤ maxLen) :
    Calls Tryd.prog 16 #[.slice Al nl cl, .slice As S.length cs, .string fr, .string dn] w fun e w' => ∃ m1 m2 V, e = .returned (.agg #[.slice Al nl cl, .slice As S.length cs, V .o, .map (some m1), V .m, V .l, .map (some m2)]) ∧ SQ w' m1 m2 V (kyL S fr dn S.length) ∧ NSP w w' m1 m2 V (kyL S fr dn S.length) ∧ Below w.heap.size w w' := by
  have hmm := @run_makeMap Tryd.prog
  have HV := Lib.hid hv
  have HZ := Lib.hid hz
  obtain ⟨sz, hsz⟩ : ∃ sz, sz = w.heap.size := ⟨_, rfl⟩
  have HSZ := Lib.hid hsz
  -- the memory as it is laid
  have n0 := heap_alloc_new w zS
  have n1 := heap_alloc_new (w.alloc zS) (.map #[] 0)
  have n2 := heap_alloc_new ((w.alloc zS).alloc (.map #[] 0)) (.map #[] 0)
  have n3 := heap_alloc_new (((w.alloc zS).alloc (.map #[] 0)).alloc (.map #[] 0)) (.cells #[.slice Al nl cl, .slice As S.length cs, nilS, .map (some (sz + 1)), nilS, nilS, .map (some (sz + 1 + 1))] srT)
  have k1 := MapK.made (w.alloc zS) Tryd.prog 9 Value.string
  have k2 := MapK.made ((w.alloc zS).alloc (.map #[] 0)) Tryd.prog 9 Value.string
  simp only [World.size_alloc, ← hsz] at n0 n1 n2 n3 k1 k2
  have b1 := bel_alloc (w.alloc zS) (.map #[] 0)
  have b2 := bel_alloc ((w.alloc zS).alloc (.map #[] 0)) (.map #[] 0)
  have b3 := bel_alloc (((w.alloc zS).alloc (.map #[] 0)).alloc (.map #[] 0)) (.cells #[.slice Al nl cl, .slice As S.length cs, nilS, .map (some (sz + 1)), nilS, nilS, .map (some (sz + 1 + 1))] srT)
  have b0 := bel_alloc w zS
  have c3 := b0.trans ((b1.trans ((b2.trans (b3.mono b2.size)).mono b1.size)).mono b0.size)
  have c23 := b2.trans (b3.mono b2.size)
  have c13 := b1.trans (c23.mono b1.size)
  go_enter Tryd.func16, Tryd.ntmps16
  go_wp2
  simp only [← hsz]
  obtain ⟨W0, hW0⟩ : ∃ W0, W0 = ((((w.alloc zS).alloc (.map #[] 0)).alloc (.map #[] 0)).alloc (.cells #[.slice Al nl cl, .slice As S.length cs, nilS, .map (some (sz + 1)), nilS, nilS, .map (some (sz + 1 + 1))] srT)) := ⟨_, rfl⟩
  have hs0 : W0.heap.size = sz + 1 + 1 + 1 + 1 := by rw [hW0]; simp only [World.size_alloc, ← hsz]
  rw [← hW0] at n3 b3 c3 c13 c23
  have HR0 : Hid (SR W0 (sz + 1 + 1 + 1 + 1) (sz + 1 + 1 + 1) (sz + 1) (sz + 1 + 1) 0 (.slice Al nl cl) (.slice As S.length cs) (fun _ => nilS) (fun _ => [])) := Lib.hid
    (sr_made n3 ⟨_, k1.more c23, fun _ => rfl⟩ ⟨_, k2.more b3, fun _ => rfl⟩ (by omega) (by omega) (by omega) (by omega) (by omega) (by omega) (by omega))
  have HZ0 : Hid (W0.heap[sz]? = some zS) := Lib.hid ((c13.block sz (by simp only [World.size_alloc, ← hsz]; omega)).trans n0)
  rw [show ((((w.alloc (.cells #[.slice none 0 0, .slice none 0 0, .slice none 0 0, .map none, .slice none 0 0, .slice none 0 0, .map none] srT)).alloc (.map #[] 0)).alloc (.map #[] 0)).alloc (.cells #[.slice Al nl cl, .slice As S.length cs, .slice none 0 0, .map (some (sz + 1)), .slice none 0 0, .slice none 0 0, .map (some (sz + 1 + 1))] srT)) = W0 from hW0.symm]
  have HB0 := Lib.hid c3
  clear n0 n1 n2 n3 k1 k2 b0 b1 b2 b3 c3 c13 c23 hW0 hv hz hsz hs0 hmm
  obtain ⟨B, hB⟩ : ∃ B, B = sz + 1 + 1 + 1 := ⟨_, rfl⟩
  obtain ⟨m1, hm1⟩ : ∃ m1, m1 = sz + 1 := ⟨_, rfl⟩
  obtain ⟨m2, hm2⟩ : ∃ m2, m2 = sz + 1 + 1 := ⟨_, rfl⟩
  obtain ⟨lo, hlo⟩ : ∃ lo, lo = sz + 1 + 1 + 1 + 1 := ⟨_, rfl⟩
  rw [← hlo, ← hB, ← hm2, ← hm1] at HR0
  rw [← hB, ← hm2, ← hm1]
  have HL : Hid (sz < lo ∧ sz < B ∧ sz < m1 ∧ sz < m2 ∧ B < lo) := Lib.hid (by omega)
  clear hB hm1 hm2 hlo
  obtain ⟨vl, hvl⟩ : ∃ vl, vl = Value.slice Al nl cl := ⟨_, rfl⟩
  obtain ⟨vs, hvs⟩ : ∃ vs, vs = Value.slice As S.length cs := ⟨_, rfl⟩
  rw [← hvl, ← hvs] at HR0
  have HVL := Lib.hid hvl
  have HVS := Lib.hid hvs
  clear hvl hvs
  go_loopw [19] (fun vi wr => ∃ (k n : Nat) (V : Ky → Value), k ≤ S.length ∧ vi = .int .i64 k ∧ Hid (n ≤ k ∧ SR wr lo B m1 m2 n vl vs V (kyL S fr dn k)) ∧ Hid (wr.heap[sz]? = some zS ∧ Below sz w wr)) (fun vi _ => S.length - (intOf vi).toNat)
  case atStart => exact ⟨0, 0, _, Nat.zero_le _, rfl, Lib.hid ⟨Nat.le_refl _, HR0.out⟩, Lib.hid ⟨HZ0.out, by have h := HB0.out; rwa [← HSZ.out] at h⟩⟩
  case round =>
    obtain ⟨k, n, V, hk, rfl, HN, HQ⟩ := hrel
    clear HR0 HZ0 HB0
    by_cases hlt : k < S.length
    · have hx := sA_get hlt
      obtain ⟨bb, off, e1, hbl, hc⟩ := row_get (HV.out.more (w' := wr) (by have h := HQ.out.2; rwa [HSZ.out] at h)) hx
      cases e1
      have i2 : (k : Int) < (S.length : Int) := by omega
      have d0 := hc 0 _ rfl
      have d1 := hc 1 _ rfl
      have d2 := hc 2 _ rfl
      have d3 := hc 3 _ rfl
      have d4 := hc 4 _ rfl
      have d5 := hc 5 _ rfl
      have d6 := hc 6 _ rfl
      rw [Nat.add_zero] at d0
      have HSZ2 := Lib.hid (HZ.out _ (List.mem_of_getElem? hx))
      have HK0 := Lib.hid (fun h => kyL_0 (S := S) (fr := fr) (dn := dn) (n := k) h)
      have HK1 := Lib.hid (fun h => kyL_1 (S := S) (fr := fr) (dn := dn) (n := k) h)
      have HK2 := Lib.hid (fun h => kyL_2 (S := S) (fr := fr) (dn := dn) (n := k) h)
      have HK3 := Lib.hid (fun h => kyL_3 (S := S) (fr := fr) (dn := dn) (n := k) h)
      have HK4 := Lib.hid (fun h => kyL_4 (S := S) (fr := fr) (dn := dn) (n := k) h)
      have HKN := Lib.hid (fun q => kyL_len S fr dn k q)
      generalize sA S k = s at *
      obtain ⟨car, num, day, sf, st, dep, arr⟩ := s
      dsimp only at d0 d1 d2 d3 d4 d5 d6 HSZ2
      have hbl2 := bel_alloc wr (.cells #[.string car, .int .i64 num, .int .i64 day, .string sf, .string st, .int .i64 dep, .int .i64 arr] sgT)
      have q3 := (cells_new wr #[.string car, .int .i64 num, .int .i64 day, .string sf, .string st, .int .i64 dep, .int .i64 arr] sgT 3).trans (show _ = some (Value.string sf) from rfl)
      have q4 := (cells_new wr #[.string car, .int .i64 num, .int .i64 day, .string sf, .string st, .int .i64 dep, .int .i64 arr] sgT 4).trans (show _ = some (Value.string st) from rfl)
      obtain ⟨Bs, hBs⟩ : ∃ Bs, Bs = wr.heap.size := ⟨_, rfl⟩
      have HBS : Hid (Bs < (wr.alloc (.cells #[.string car, .int .i64 num, .int .i64 day, .string sf, .string st, .int .i64 dep, .int .i64 arr] sgT)).heap.size ∧ lo ≤ Bs ∧ (∀ k b, (V k).ownBlock = some b → b < Bs)) := Lib.hid ⟨by rw [World.size_alloc]; omega, by have := HN.out.2.hlo; omega, fun k b h => by have := (sr_off HN.out.2 k h).2; omega⟩
      have HN5 : Hid (SR (wr.alloc (.cells #[.string car, .int .i64 num, .int .i64 day, .string sf, .string st, .int .i64 dep, .int .i64 arr] sgT)) lo B m1 m2 n vl vs V (kyL S fr dn k)) := Lib.hid (sr_more HN.out.2 hbl2)
      have HQ5 : Hid ((wr.alloc (.cells #[.string car, .int .i64 num, .int .i64 day, .string sf, .string st, .int .i64 dep, .int .i64 arr] sgT)).heap[sz]? = some zS ∧ Below sz w (wr.alloc (.cells #[.string car, .int .i64 num, .int .i64 day, .string sf, .string st, .int .i64 dep, .int .i64 arr] sgT))) := Lib.hid ⟨(hbl2.block sz (by have := HN.out.2.hlo; have := HL.out; omega)).trans HQ.out.1, HQ.out.2.trans (hbl2.mono (by have := HN.out.2.hlo; have := HL.out; omega))⟩
      have hnk := HN.out.1
      clear hx hc hbl HN HQ hbl2
      go_upto_region 6 with fail
      rw [← hBs] at q3 q4 ⊢
      generalize wr.alloc (.cells #[.string car, .int .i64 num, .int .i64 day, .string sf, .string st, .int .i64 dep, .int .i64 arr] sgT) = w5 at *
      clear hBs d0 d1 d2 d3 d4 d5 d6
      have HKD : Hid (kd fr dn ⟨car, num, day, sf, st, dep, arr⟩ = if (st.toList == fr.toList) || (sf.toList == dn.toList) || (sf.toList == st.toList) then 0 else if (sf.toList == fr.toList) && (st.toList == dn.toList) then 1 else if (sf.toList == fr.toList) then 2 else if (st.toList == dn.toList) then 3 else 4) := Lib.hid rfl

      cases h1 : (st.toList == fr.toList) with
      | true =>
        have HE := Lib.hid (HK0.out (by rw [HKD.out, h1]; rfl))
        clear HK0 HK1 HK2 HK3 HK4
        go_wp2
        go_roundw
        case rel => exact ⟨k + 1, n, V, by omega, by go_num, Lib.hid ⟨by omega, sr_same HN5.out HE.out⟩, HQ5⟩
        case measure => simp [intOf]; omega
      | false =>
      cases h2 : (sf.toList == dn.toList) with
      | true =>
        have HE := Lib.hid (HK0.out (by rw [HKD.out, h1, h2]; rfl))
        clear HK0 HK1 HK2 HK3 HK4
        go_wp2
        go_roundw
        case rel => exact ⟨k + 1, n, V, by omega, by go_num, Lib.hid ⟨by omega, sr_same HN5.out HE.out⟩, HQ5⟩
        case measure => simp [intOf]; omega
      | false =>
      cases h3 : (sf.toList == st.toList) with
      | true =>
        have HE := Lib.hid (HK0.out (by rw [HKD.out, h1, h2, h3]; rfl))
        clear HK0 HK1 HK2 HK3 HK4
        go_wp2
        go_roundw
        case rel => exact ⟨k + 1, n, V, by omega, by go_num, Lib.hid ⟨by omega, sr_same HN5.out HE.out⟩, HQ5⟩
        case measure => simp [intOf]; omega
      | false =>
      cases h4 : (sf.toList == fr.toList) with
      | true =>
        cases h5 : (st.toList == dn.toList) with
        | true =>
        have HE := Lib.hid (HK1.out (by rw [HKD.out, h1, h2, h3, h4, h5]; rfl))
        clear HK0 HK1 HK2 HK3 HK4
        have p2 := (sr_cells HN5.out)
        have c2 := p2.2.2.1
        clear p2
        have HVK := Lib.hid (sr_rown HN5.out .o)
        have HAP := Lib.hid (fun w1 v' hO hC => sr_app HN5.out .o k (w1 := w1) (v' := v') hO hC)
        have HLN : Hid ((kyL S fr dn k .o).length ≤ 1000) := Lib.hid (Nat.le_trans (HKN.out _) (by omega))
        go_wp2_with (at_builtin; refine wpList_rapp rtN rfl _ _ rfl HVK.out rfl (bel_alloc _ _) _ k _ rfl (cs := #[.int .i64 (k : Int)]) rfl (heap_alloc_new _ _) (Nat.le_trans HLN.out (by omega)) ?_; intro v8 w8 hO hC; have HA := Lib.hid (HAP.out _ _ hO hC); have x8 := cell_of_row _ _ 2 _ _ (0, 0) HA.out.box; have z8 := frozen_of_row _ _ 2 _ _ HA.out.box; obtain ⟨g8, c8, hv8, _, _⟩ := hO.own.form (by simp [cellsR, encN]); simp only [List.length_append, List.length_cons, List.length_nil, Nat.zero_add] at hv8; subst hv8)
        have HS8 := Lib.hid (sra_store HA.out 2 (.inl ⟨rfl, rfl⟩))
        have HQ8 : Hid ((w8.setCell ⟨B, 2, none⟩ (.slice (some ⟨g8, 0, none⟩) ((kyL S fr dn k .o).length + 1) c8)).heap[sz]? = some zS ∧ Below sz w (w8.setCell ⟨B, 2, none⟩ (.slice (some ⟨g8, 0, none⟩) ((kyL S fr dn k .o).length + 1) c8))) := Lib.hid (by
          have h1 := HL.out
          have h2 := HA.out
          have hlt : sz < lo := h1.1
          have e0 := h2.keep sz (by have := h2.old.hlo; omega) (fun e => by have := (sr_off HN5.out _ e).1; omega)
          exact ⟨((But.setCell w8 B 2 _).block sz (by have := h2.hlo; omega) (by omega)).trans (e0.trans HQ5.out.1), (HQ5.out.2.trans (h2.bel.mono (by omega))).setCell (p := ⟨B, 2, none⟩) (by simp; omega) _⟩)
        go_roundw
        case rel => exact ⟨k + 1, n, _, by omega, by go_num, Lib.hid ⟨by omega, sr_same HS8.out HE.out⟩, HQ8⟩
        case measure => simp [intOf]; omega
        | false =>
        have HE := Lib.hid (HK2.out (by rw [HKD.out, h1, h2, h3, h4, h5]; rfl))
        clear HK0 HK1 HK2 HK3 HK4
        go_upto_region 10 with fail
        clear h1 h2 h3 h4 h5
        have HLL : Hid ((kyL S fr dn k (.f st)).length ≤ 1000) := Lib.hid (Nat.le_trans (HKN.out _) (by omega))
        have HRO := Lib.hid (sr_rown HN5.out (.f st))
        have lk1 := sr_look1 (sr_more HN5.out ((Below.refl _ w5).drew)) st HSZ2.out.2
        have lk2 := sr_look1 (sr_more HN5.out ((bel_alloc w5 (.cells #[.int .i64 (k : Int)] inT)).drew)) st HSZ2.out.2
        have HAA : Hid (∀ v' w1, ROwn inT 1 encN lo w1 v' (kyL S fr dn k (.f st) ++ [k]) → Chg w5 w1 (V (.f st)) v' → ∃ w2, (Instr.mapUpdate 61 (.map (some m1)) (.string st) v').run Tryd.prog w1 = .ok () w2 ∧ ((∃ V', SR w2 lo B m1 m2 (n + 1) vl vs V' (kyL S fr dn (k + 1))) ∧ (w2.heap[sz]? = some zS ∧ Below sz w w2)) ∧
            (w1.cell? ⟨B, 3, none⟩ = some (.map (some m1)) ∧ w1.cell? ⟨Bs, 4, none⟩ = some (.string st)) ∧ w2.cell? ⟨B, 3, none⟩ = some (.map (some m1)) ∧ w2.cell? ⟨Bs, 4, none⟩ = some (.string st)) := Lib.hid (fun v' w1 hO hC => by
          have h0 := HN5.out
          have h1 := sr_app h0 (.f st) k hO hC
          obtain ⟨w2, hrun, h2, hg⟩ := sra_put1 h1 HSZ2.out.2 (by omega)
          have hL := HL.out
          have hB := HBS.out
          have e0 := h1.keep sz (by have := h0.hlo; omega) (fun e => by have := (sr_off h0 _ e).1; omega)
          have e1 := h1.keep Bs hB.1 (fun e => by have := hB.2.2 _ _ e; omega)
          have hlo1 := h1.hlo
          have l1 := h0.lt1
          have l2 := h0.lt2
          have f0 := hg.block sz (by omega) (by intro e; cases e; omega)
          have f1 := hg.block Bs (Nat.lt_of_lt_of_le hB.1 h1.size) (by intro e; cases e; omega)
          have c1 : w1.cell? ⟨Bs, 4, none⟩ = some (.string st) := (World.cell?_of_block (a := ⟨Bs, 4, none⟩) e1).trans q4
          exact ⟨w2, hrun, ⟨⟨_, sr_same h2 HE.out⟩, f0.trans (e0.trans HQ5.out.1), ((HQ5.out.2.trans (h1.bel.mono (by omega))).grown hg (by omega) (fun b e => by cases e; omega))⟩, ⟨cell_of_row _ _ 3 _ _ (0, 0) h1.box, c1⟩, (sr_cells h2).2.2.2.1, (World.cell?_of_block (a := ⟨Bs, 4, none⟩) f1).trans c1⟩)
        have cB := (sr_cells HN5.out).2.2.2.1
        generalize hvv : V (.f st) = vv at HRO lk1 lk2 HAA
        generalize hLL : kyL S fr dn k (.f st) = LL at HLL HRO HAA
        clear hvv hLL
        go_region_held3 (fun W => W.cell? ⟨B, 3, none⟩ = some (.map (some m1)) ∧ W.cell? ⟨Bs, 4, none⟩ = some (.string st)) (first | exact ⟨by assumption, by assumption⟩ | go_keep) ((refine step_rapp rtN rfl _ _ rfl HRO.out rfl (bel_alloc w5 _).drew _ k _ rfl (cs := #[.int .i64 (k : Int)]) rfl (heap_alloc_new w5 _) (Nat.le_trans HLL.out (by omega)) ?_; intro v1 w1A hO1 hC1; obtain ⟨w2A, hrunA, hfinA, ⟨x1A, x2A⟩, y1A, y2A⟩ := HAA.out _ _ hO1 hC1))
        all_goals
          have HF := Lib.hid hfinA
          clear hfinA hrunA hO1 hC1 lk1 lk2 x1A x2A y1A y2A HAA
          go_wp2
          go_roundw
          case rel =>
            obtain ⟨⟨V', h1⟩, h2⟩ := HF.out
            exact ⟨k + 1, n + 1, V', by omega, by go_num, Lib.hid ⟨by omega, h1⟩, Lib.hid h2⟩
          case measure => simp [intOf]; omega
      | false =>
        cases h5 : (st.toList == dn.toList) with
        | true =>
        have HE := Lib.hid (HK3.out (by rw [HKD.out, h1, h2, h3, h4, h5]; rfl))
        clear HK0 HK1 HK2 HK3 HK4
        have p5 := (sr_cells HN5.out)
        have c5 := p5.2.2.2.2.2.1
        clear p5
        have HVK := Lib.hid (sr_rown HN5.out .l)
        have HAP := Lib.hid (fun w1 v' hO hC => sr_app HN5.out .l k (w1 := w1) (v' := v') hO hC)
        have HLN : Hid ((kyL S fr dn k .l).length ≤ 1000) := Lib.hid (Nat.le_trans (HKN.out _) (by omega))
        go_upto_region 13 with (at_builtin; refine wpList_rapp rtN rfl _ _ rfl HVK.out rfl (bel_alloc _ _) _ k _ rfl (cs := #[.int .i64 (k : Int)]) rfl (heap_alloc_new _ _) (Nat.le_trans HLN.out (by omega)) ?_; intro v8 w8 hO hC; have HA := Lib.hid (HAP.out _ _ hO hC); have x8 := cell_of_row _ _ 5 _ _ (0, 0) HA.out.box; have z8 := frozen_of_row _ _ 5 _ _ HA.out.box; obtain ⟨g8, c8, hv8, _, _⟩ := hO.own.form (by simp [cellsR, encN]); simp only [List.length_append, List.length_cons, List.length_nil, Nat.zero_add] at hv8; subst hv8)
        have HS8 := Lib.hid (sra_store HA.out 5 (.inr (.inr ⟨rfl, rfl⟩)))
        have HQ8 : Hid ((w8.setCell ⟨B, 5, none⟩ (.slice (some ⟨g8, 0, none⟩) ((kyL S fr dn k .l).length + 1) c8)).heap[sz]? = some zS ∧ Below sz w (w8.setCell ⟨B, 5, none⟩ (.slice (some ⟨g8, 0, none⟩) ((kyL S fr dn k .l).length + 1) c8))) := Lib.hid (by
          have h1 := HL.out
          have h2 := HA.out
          have hlt : sz < lo := h1.1
          have e0 := h2.keep sz (by have := h2.old.hlo; omega) (fun e => by have := (sr_off HN5.out _ e).1; omega)
          exact ⟨((But.setCell w8 B 5 _).block sz (by have := h2.hlo; omega) (by omega)).trans (e0.trans HQ5.out.1), (HQ5.out.2.trans (h2.bel.mono (by omega))).setCell (p := ⟨B, 5, none⟩) (by simp; omega) _⟩)
        have HBS8 : Hid (Bs < (w8.setCell ⟨B, 5, none⟩ (.slice (some ⟨g8, 0, none⟩) ((kyL S fr dn k .l).length + 1) c8)).heap.size ∧ lo ≤ Bs ∧ (∀ q b, (upd V .l (.slice (some ⟨g8, 0, none⟩) ((kyL S fr dn k .l).length + 1) c8) (.t q)).ownBlock = some b → b < Bs)) := Lib.hid (by
          have hB := HBS.out
          have h2 := HA.out
          refine ⟨by have := (But.setCell w8 B 5 (.slice (some ⟨g8, 0, none⟩) ((kyL S fr dn k .l).length + 1) c8)).size; have := h2.size; omega, hB.2.1, fun q b hq => ?_⟩
          rw [upd_other _ _ (by intro e; cases e)] at hq
          exact hB.2.2 _ _ hq)
        have hq3 : (w8.setCell ⟨B, 5, none⟩ (.slice (some ⟨g8, 0, none⟩) ((kyL S fr dn k .l).length + 1) c8)).cell? ⟨Bs, 3, none⟩ = some (.string sf) := by
          have hB := HBS.out
          have h2 := HA.out
          have hL := HL.out
          have e1 := h2.keep Bs hB.1 (fun e => by have := hB.2.2 _ _ e; omega)
          exact (World.cell?_of_block (a := ⟨Bs, 3, none⟩) ((But.setCell w8 B 5 _).block Bs (by have := h2.size; omega) (by omega))).trans ((World.cell?_of_block (a := ⟨Bs, 3, none⟩) e1).trans q3)
        generalize hV8 : upd V .l (.slice (some ⟨g8, 0, none⟩) ((kyL S fr dn k .l).length + 1) c8) = V8 at HS8 HBS8
        generalize w8.setCell ⟨B, 5, none⟩ (.slice (some ⟨g8, 0, none⟩) ((kyL S fr dn k .l).length + 1) c8) = w6 at *
        clear q3 q4 HN5 HQ5 HBS HA HAP HVK x8 z8 c5 hO hC hV8 h1 h2 h3 h4 h5
        have q3 := hq3
        clear hq3
        have HLL : Hid ((upd (kyL S fr dn k) .l (kyL S fr dn k .l ++ [k]) (.t sf)).length ≤ 1000) := Lib.hid (by rw [upd_other _ _ (by intro q; cases q)]; exact Nat.le_trans (HKN.out _) (by omega))
        have HRO := Lib.hid (sr_rown HS8.out (.t sf))
        have lk1 := sr_look2 (sr_more HS8.out ((Below.refl _ w6).drew)) sf HSZ2.out.1
        have lk2 := sr_look2 (sr_more HS8.out ((bel_alloc w6 (.cells #[.int .i64 (k : Int)] inT)).drew)) sf HSZ2.out.1
        have HAA : Hid (∀ v' w1, ROwn inT 1 encN lo w1 v' (upd (kyL S fr dn k) .l (kyL S fr dn k .l ++ [k]) (.t sf) ++ [k]) → Chg w6 w1 (V8 (.t sf)) v' → ∃ w2, (Instr.mapUpdate 61 (.map (some m2)) (.string sf) v').run Tryd.prog w1 = .ok () w2 ∧ ((∃ V', SR w2 lo B m1 m2 (n + 1) vl vs V' (kyL S fr dn (k + 1))) ∧ (w2.heap[sz]? = some zS ∧ Below sz w w2)) ∧
            (w1.cell? ⟨B, 6, none⟩ = some (.map (some m2)) ∧ w1.cell? ⟨Bs, 3, none⟩ = some (.string sf)) ∧ w2.cell? ⟨B, 6, none⟩ = some (.map (some m2)) ∧ w2.cell? ⟨Bs, 3, none⟩ = some (.string sf)) := Lib.hid (fun v' w1 hO hC => by
          have h0 := HS8.out
          have h1 := sr_app h0 (.t sf) k hO hC
          obtain ⟨w2, hrun, h2, hg⟩ := sra_put2 h1 HSZ2.out.1 (by omega)
          have hL := HL.out
          have hB := (show Bs < w6.heap.size ∧ lo ≤ Bs ∧ (∀ q b, (V8 (.t q)).ownBlock = some b → b < Bs) from HBS8.out)
          have e0 := h1.keep sz (by have := h0.hlo; omega) (fun e => by have := (sr_off h0 _ e).1; omega)
          have e1 := h1.keep Bs hB.1 (fun e => by have := hB.2.2 _ _ e; omega)
          have hlo1 := h1.hlo
          have l1 := h0.lt1
          have l2 := h0.lt2
          have f0 := hg.block sz (by omega) (by intro e; cases e; omega)
          have f1 := hg.block Bs (Nat.lt_of_lt_of_le hB.1 h1.size) (by intro e; cases e; omega)
          have c1 : w1.cell? ⟨Bs, 3, none⟩ = some (.string sf) := (World.cell?_of_block (a := ⟨Bs, 3, none⟩) e1).trans q3
          exact ⟨w2, hrun, ⟨⟨_, sr_same h2 HE.out⟩, f0.trans (e0.trans HQ8.out.1), ((HQ8.out.2.trans (h1.bel.mono (by omega))).grown hg (by omega) (fun b e => by cases e; omega))⟩, ⟨cell_of_row _ _ 6 _ _ (0, 0) h1.box, c1⟩, (sr_cells h2).2.2.2.2.2.2, (World.cell?_of_block (a := ⟨Bs, 3, none⟩) f1).trans c1⟩)
        have cB := (sr_cells HS8.out).2.2.2.2.2.2
        generalize hvv : V8 (.t sf) = vv at HRO lk1 lk2 HAA
        generalize hLL : upd (kyL S fr dn k) .l (kyL S fr dn k .l ++ [k]) (.t sf) = LL at HLL HRO HAA
        clear hvv hLL
        go_region_held3 (fun W => W.cell? ⟨B, 6, none⟩ = some (.map (some m2)) ∧ W.cell? ⟨Bs, 3, none⟩ = some (.string sf)) (first | exact ⟨by assumption, by assumption⟩ | go_keep) ((refine step_rapp rtN rfl _ _ rfl HRO.out rfl (bel_alloc w6 _).drew _ k _ rfl (cs := #[.int .i64 (k : Int)]) rfl (heap_alloc_new w6 _) (Nat.le_trans HLL.out (by omega)) ?_; intro v1 w1A hO1 hC1; obtain ⟨w2A, hrunA, hfinA, ⟨x1A, x2A⟩, y1A, y2A⟩ := HAA.out _ _ hO1 hC1))
        all_goals
          have HF := Lib.hid hfinA
          clear hfinA hrunA hO1 hC1 lk1 lk2 x1A x2A y1A y2A HAA
          go_wp2
          go_roundw
          case rel =>
            obtain ⟨⟨V', h1⟩, h2⟩ := HF.out
            exact ⟨k + 1, n + 1, V', by omega, by go_num, Lib.hid ⟨by omega, h1⟩, Lib.hid h2⟩
          case measure => simp [intOf]; omega
        | false =>
        have HE := Lib.hid (HK4.out (by rw [HKD.out, h1, h2, h3, h4, h5]; rfl))
        clear HK0 HK1 HK2 HK3 HK4
        have p4 := (sr_cells HN5.out)
        have c4 := p4.2.2.2.2.1
        clear p4
        have HVK := Lib.hid (sr_rown HN5.out .m)
        have HAP := Lib.hid (fun w1 v' hO hC => sr_app HN5.out .m k (w1 := w1) (v' := v') hO hC)
        have HLN : Hid ((kyL S fr dn k .m).length ≤ 1000) := Lib.hid (Nat.le_trans (HKN.out _) (by omega))
        go_wp2_with (at_builtin; refine wpList_rapp rtN rfl _ _ rfl HVK.out rfl (bel_alloc _ _) _ k _ rfl (cs := #[.int .i64 (k : Int)]) rfl (heap_alloc_new _ _) (Nat.le_trans HLN.out (by omega)) ?_; intro v8 w8 hO hC; have HA := Lib.hid (HAP.out _ _ hO hC); have x8 := cell_of_row _ _ 4 _ _ (0, 0) HA.out.box; have z8 := frozen_of_row _ _ 4 _ _ HA.out.box; obtain ⟨g8, c8, hv8, _, _⟩ := hO.own.form (by simp [cellsR, encN]); simp only [List.length_append, List.length_cons, List.length_nil, Nat.zero_add] at hv8; subst hv8)
        have HS8 := Lib.hid (sra_store HA.out 4 (.inr (.inl ⟨rfl, rfl⟩)))
        have HQ8 : Hid ((w8.setCell ⟨B, 4, none⟩ (.slice (some ⟨g8, 0, none⟩) ((kyL S fr dn k .m).length + 1) c8)).heap[sz]? = some zS ∧ Below sz w (w8.setCell ⟨B, 4, none⟩ (.slice (some ⟨g8, 0, none⟩) ((kyL S fr dn k .m).length + 1) c8))) := Lib.hid (by
          have h1 := HL.out
          have h2 := HA.out
          have hlt : sz < lo := h1.1
          have e0 := h2.keep sz (by have := h2.old.hlo; omega) (fun e => by have := (sr_off HN5.out _ e).1; omega)
          exact ⟨((But.setCell w8 B 4 _).block sz (by have := h2.hlo; omega) (by omega)).trans (e0.trans HQ5.out.1), (HQ5.out.2.trans (h2.bel.mono (by omega))).setCell (p := ⟨B, 4, none⟩) (by simp; omega) _⟩)
        go_roundw
        case rel => exact ⟨k + 1, n, _, by omega, by go_num, Lib.hid ⟨by omega, sr_same HS8.out HE.out⟩, HQ8⟩
        case measure => simp [intOf]; omega
    · have e : k = S.length := by omega
      subst e
      have i2 : ¬ (S.length : Int) < (S.length : Int) := by omega
      obtain ⟨ao, no, co, eo⟩ := own_slice (HN.out.2.own .o)
      obtain ⟨am, nm, cm, em⟩ := own_slice (HN.out.2.own .m)
      obtain ⟨al, nl', cl', el⟩ := own_slice (HN.out.2.own .l)
      have hx := HN.out.2.box
      have hm := HQ.out.1
      rw [HVL.out, HVS.out, eo, em, el] at hx
      have c0 := (cell_of_row _ _ 0 _ _ (0, 0) hx).trans (show _ = some _ from rfl)
      have c1 := (cell_of_row _ _ 1 _ _ (0, 0) hx).trans (show _ = some _ from rfl)
      have c2 := (cell_of_row _ _ 2 _ _ (0, 0) hx).trans (show _ = some _ from rfl)
      have c3 := (cell_of_row _ _ 3 _ _ (0, 0) hx).trans (show _ = some _ from rfl)
      have c4 := (cell_of_row _ _ 4 _ _ (0, 0) hx).trans (show _ = some _ from rfl)
      have c5 := (cell_of_row _ _ 5 _ _ (0, 0) hx).trans (show _ = some _ from rfl)
      have c6 := (cell_of_row _ _ 6 _ _ (0, 0) hx).trans (show _ = some _ from rfl)
      have n0 := (cell_of_row _ _ 0 _ _ (0, 0) hm).trans (show _ = some _ from rfl)
      have n1 := (cell_of_row _ _ 1 _ _ (0, 0) hm).trans (show _ = some _ from rfl)
      have n2 := (cell_of_row _ _ 2 _ _ (0, 0) hm).trans (show _ = some _ from rfl)
      have n3 := (cell_of_row _ _ 3 _ _ (0, 0) hm).trans (show _ = some _ from rfl)
      have n4 := (cell_of_row _ _ 4 _ _ (0, 0) hm).trans (show _ = some _ from rfl)
      have n5 := (cell_of_row _ _ 5 _ _ (0, 0) hm).trans (show _ = some _ from rfl)
      have n6 := (cell_of_row _ _ 6 _ _ (0, 0) hm).trans (show _ = some _ from rfl)
      have z0 := frozen_of_row _ _ 0 _ _ hm
      have z1 := frozen_of_row _ _ 1 _ _ hm
      have z2 := frozen_of_row _ _ 2 _ _ hm
      have z3 := frozen_of_row _ _ 3 _ _ hm
      have z4 := frozen_of_row _ _ 4 _ _ hm
      have z5 := frozen_of_row _ _ 5 _ _ hm
      have z6 := frozen_of_row _ _ 6 _ _ hm
      have HX2 : Hid (∀ U, U = S7 wr sz (.slice Al nl cl) (.slice As S.length cs) (.slice ao no co) (.map (some m1)) (.slice am nm cm) (.slice al nl' cl') (.map (some m2)) → U.heap[sz]? = some (.cells #[.slice Al nl cl, .slice As S.length cs, .slice ao no co, .map (some m1), .slice am nm cm, .slice al nl' cl', .map (some m2)] srT (0, 0)) ∧ SR U lo B m1 m2 n vl vs V (kyL S fr dn S.length) ∧ Below w.heap.size w U) := Lib.hid (fun U h => by
        have hL := HL.out
        have hsr := HN.out.2
        rw [h]
        refine ⟨s7_heap hm _ _ _ _ _ _ _, sr_but hsr (s7_but wr sz _ _ _ _ _ _ _) hL.1 (by omega) (by omega) (by omega), ?_⟩
        have hbq := HQ.out.2
        rw [HSZ.out] at hbq
        exact hbq.trans ((s7_but wr sz _ _ _ _ _ _ _).below hbq.size (fun q hq => by have := HSZ.out; omega)))
      have HEV : Hid (Value.agg #[.slice Al nl cl, .slice As S.length cs, .slice ao no co, .map (some m1), .slice am nm cm, .slice al nl' cl', .map (some m2)] = .agg #[.slice Al nl cl, .slice As S.length cs, V .o, .map (some m1), V .m, V .l, .map (some m2)]) := Lib.hid (by rw [eo, em, el])
      clear hx hm HN HQ eo em el
      go_wp2
      obtain ⟨hxx, hsq, hbb⟩ := HX2.out _ rfl
      unfold S7 at hxx hsq hbb
      clear HX2
      generalize hWW : ((((((wr.setCell ⟨sz, 0, none⟩ (.slice Al nl cl)).setCell ⟨sz, 1, none⟩ (.slice As S.length cs)).setCell ⟨sz, 2, none⟩ (.slice ao no co)).setCell ⟨sz, 3, none⟩ (.map (some m1))).setCell ⟨sz, 4, none⟩ (.slice am nm cm)).setCell ⟨sz, 5, none⟩ (.slice al nl' cl')).setCell ⟨sz, 6, none⟩ (.map (some m2)) = WW at *
      clear hWW c0 c1 c2 c3 c4 c5 c6 n0 n1 n2 n3 n4 n5 n6 z0 z1 z2 z3 z4 z5 z6
      have e0 := (cell_of_row WW _ 0 _ _ (0, 0) hxx).trans (show _ = some _ from rfl)
      have e1 := (cell_of_row WW _ 1 _ _ (0, 0) hxx).trans (show _ = some _ from rfl)
      have e2 := (cell_of_row WW _ 2 _ _ (0, 0) hxx).trans (show _ = some _ from rfl)
      have e3 := (cell_of_row WW _ 3 _ _ (0, 0) hxx).trans (show _ = some _ from rfl)
      have e4 := (cell_of_row WW _ 4 _ _ (0, 0) hxx).trans (show _ = some _ from rfl)
      have e5 := (cell_of_row WW _ 5 _ _ (0, 0) hxx).trans (show _ = some _ from rfl)
      have e6 := (cell_of_row WW _ 6 _ _ (0, 0) hxx).trans (show _ = some _ from rfl)
      refine bodyPost_ret (v := .agg #[.slice Al nl cl, .slice As S.length cs, .slice ao no co, .map (some m1), .slice am nm cm, .slice al nl' cl', .map (some m2)]) ?_ rfl ⟨m1, m2, V, by rw [HEV.out], sq_of hsq, ⟨lo, hsq.own, by have h1 := HL.out; have h2 := HSZ.out; have h3 := hsq.hlo; have h4 := hsq.lt1; have h5 := hsq.lt2; omega⟩, hbb⟩
      simp [results, Tryd.results16, go_sem, e0, e1, e2, e3, e4, e5, e6]

end Go.Proofs.YtkcdifanhdakhaaDoor.Con
