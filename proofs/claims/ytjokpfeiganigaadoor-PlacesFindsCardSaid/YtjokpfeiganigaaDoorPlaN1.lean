/- Walks of the law's SameFaults and sameAirport. -/
import Derived.Test.YtjokpfeiganigaaDoorFltA
import Derived.Test.YtjokpfeiganigaaDoorPlaZ
namespace Go.Proofs.YtjokpfeiganigaaDoor
open Go.RowKit Go.Shelf
set_option linter.unusedSimpArgs false
set_option linter.unusedVariables false

set_option maxRecDepth 100000 in
set_option maxHeartbeats 4000000 in
/-- equal lists are found equal -/
theorem sameF_any (u v : Value) (l : List Flt) (w : World) (hu : FltL w u l) (hv : FltL w v l) (hl : l.length ≤ 1000000) :
    Calls Tryd.prog 12 #[u, v] w fun e w' => e = .returned (.bool true) ∧ Below w.heap.size w w' := by
  obtain ⟨A, c, rfl, hA⟩ := hu
  obtain ⟨A', c', rfl, hA'⟩ := hv
  have HA : Hid (∀ k, k < l.length → ∃ b o x, A = some ⟨b, o, none⟩ ∧ l[k]? = some x ∧ w.cell? ⟨b, o + k * 2, none⟩ = some (.int .i64 x.1) ∧ w.cell? ⟨b, o + k * 2 + 1, none⟩ = some (.string x.2)) := Lib.hid (fun k hk => by
    rcases hA with h | ⟨b, o, h1, h2, h3⟩
    · rw [h] at hk; simp at hk
    · exact ⟨b, o, l[k], h1, List.getElem?_eq_getElem hk, h3 k _ 0 _ (List.getElem?_eq_getElem hk) rfl, h3 k _ 1 _ (List.getElem?_eq_getElem hk) rfl⟩)
  have HA' : Hid (∀ k, k < l.length → ∃ b o x, A' = some ⟨b, o, none⟩ ∧ l[k]? = some x ∧ w.cell? ⟨b, o + k * 2, none⟩ = some (.int .i64 x.1) ∧ w.cell? ⟨b, o + k * 2 + 1, none⟩ = some (.string x.2)) := Lib.hid (fun k hk => by
    rcases hA' with h | ⟨b, o, h1, h2, h3⟩
    · rw [h] at hk; simp at hk
    · exact ⟨b, o, l[k], h1, List.getElem?_eq_getElem hk, h3 k _ 0 _ (List.getElem?_eq_getElem hk) rfl, h3 k _ 1 _ (List.getElem?_eq_getElem hk) rfl⟩)
  clear hA hA'
  go_enter Tryd.func12, Tryd.ntmps12
  go_wp2
  go_loopw [5] (fun vi wr => ∃ k : Nat, k ≤ l.length ∧ vi = .int .i64 k ∧ SW w wr) (fun vi _ => l.length - (intOf vi).toNat)
  case atStart => exact ⟨0, Nat.zero_le _, rfl, Below.refl _ _⟩
  case round =>
    obtain ⟨k, hk, rfl, hS⟩ := hrel
    by_cases hlt : k < l.length
    · obtain ⟨b, o, x, rfl, hx, c0, c1⟩ := HA.out k hlt
      obtain ⟨b', o', x', rfl, hx', d0, d1⟩ := HA'.out k hlt
      rw [hx] at hx'
      obtain rfl := Option.some.inj hx'
      have i2 : (k : Int) < (l.length : Int) := by omega
      have f0 := SW.cell (bel_cell hS c0)
      have f1 := SW.cell (bel_cell hS c1)
      have f2 := SW.cell (bel_cell hS d0)
      have f3 := SW.cell (bel_cell hS d1)
      clear hx hx' c0 c1 d0 d1
      go_wp2
      have hNe : Nonempty (Wd (SW wr)) := ⟨⟨_, SW.drew _⟩⟩
      refine quietS (S := SW wr) (by kernel_rfl) (by kernel_rfl) (SW.drew _) ?_
      repeat (first | go_big_quiet_skip | (go_big_quiet_want; go_big_quiet_op; first | go_big_quiet_on | go_big_quiet_call ((fail))))
      refine wpQuiet_nil ?_
      rintro W ⟨⟨_, hW⟩, rfl⟩
      go_wp2
      go_roundw
      case rel => exact ⟨k + 1, by omega, by go_num, Below.trans hS (Below.mono hW hS.size)⟩
      case measure => simp [intOf]; omega
    · go_wp2
      go_ret
      exact ⟨rfl, hS⟩

set_option maxRecDepth 100000 in
set_option maxHeartbeats 4000000 in
/-- airports that are alike but for where their shifts lie -/
theorem sameA_any (a : Air) (A' : Option Addr) (c' : Nat) (w : World) (h : ShL w a.A a.shs) (h' : ShL w A' a.shs) (hl : a.shs.length ≤ 40) :
    Calls Tryd.prog 17 #[.agg #[.string a.code, .string a.city, .string a.land, .int .i64 a.off, .slice A' a.shs.length c'], encA a] w fun e w' => e = .returned (.bool true) ∧ Below w.heap.size w w' := by
  obtain ⟨s1, s2, s3, x, A, c, l⟩ := a
  dsimp only at *
  have hb1 := bel_alloc w (.cells #[.string s1, .string s2, .string s3, .int .i64 x, .slice A' l.length c'] airT)
  have hb2 := bel_alloc (w.alloc (.cells #[.string s1, .string s2, .string s3, .int .i64 x, .slice A' l.length c'] airT)) (.cells #[.string s1, .string s2, .string s3, .int .i64 x, .slice A l.length c] airT)
  have p0 := bel_cell hb2 ((cells_new w #[.string s1, .string s2, .string s3, .int .i64 x, .slice A' l.length c'] airT 0).trans (show _ = some _ from rfl))
  have p1 := bel_cell hb2 ((cells_new w #[.string s1, .string s2, .string s3, .int .i64 x, .slice A' l.length c'] airT 1).trans (show _ = some _ from rfl))
  have p2 := bel_cell hb2 ((cells_new w #[.string s1, .string s2, .string s3, .int .i64 x, .slice A' l.length c'] airT 2).trans (show _ = some _ from rfl))
  have p3 := bel_cell hb2 ((cells_new w #[.string s1, .string s2, .string s3, .int .i64 x, .slice A' l.length c'] airT 3).trans (show _ = some _ from rfl))
  have p4 := bel_cell hb2 ((cells_new w #[.string s1, .string s2, .string s3, .int .i64 x, .slice A' l.length c'] airT 4).trans (show _ = some _ from rfl))
  have q0 := (cells_new (w.alloc (.cells #[.string s1, .string s2, .string s3, .int .i64 x, .slice A' l.length c'] airT)) #[.string s1, .string s2, .string s3, .int .i64 x, .slice A l.length c] airT 0).trans (show _ = some _ from rfl)
  have q1 := (cells_new (w.alloc (.cells #[.string s1, .string s2, .string s3, .int .i64 x, .slice A' l.length c'] airT)) #[.string s1, .string s2, .string s3, .int .i64 x, .slice A l.length c] airT 1).trans (show _ = some _ from rfl)
  have q2 := (cells_new (w.alloc (.cells #[.string s1, .string s2, .string s3, .int .i64 x, .slice A' l.length c'] airT)) #[.string s1, .string s2, .string s3, .int .i64 x, .slice A l.length c] airT 2).trans (show _ = some _ from rfl)
  have q3 := (cells_new (w.alloc (.cells #[.string s1, .string s2, .string s3, .int .i64 x, .slice A' l.length c'] airT)) #[.string s1, .string s2, .string s3, .int .i64 x, .slice A l.length c] airT 3).trans (show _ = some _ from rfl)
  have q4 := (cells_new (w.alloc (.cells #[.string s1, .string s2, .string s3, .int .i64 x, .slice A' l.length c'] airT)) #[.string s1, .string s2, .string s3, .int .i64 x, .slice A l.length c] airT 4).trans (show _ = some _ from rfl)
  rw [World.size_alloc] at q0 q1 q2 q3 q4
  have hb0 := hb1.trans (hb2.mono hb1.size)
  have h5 := h.more hb0
  have h5' := h'.more hb0
  go_enter Tryd.func17, Tryd.ntmps17
  go_wp2
  generalize (w.alloc (.cells #[.string s1, .string s2, .string s3, .int .i64 x, .slice A' l.length c'] airT)).alloc (.cells #[.string s1, .string s2, .string s3, .int .i64 x, .slice A l.length c] airT) = w5 at *
  go_loopw [5] (fun vi wr => ∃ k : Nat, k ≤ l.length ∧ vi = .int .i64 k ∧ SW w5 wr) (fun vi _ => l.length - (intOf vi).toNat)
  case atStart => exact ⟨0, Nat.zero_le _, rfl, Below.refl _ _⟩
  case round =>
    obtain ⟨k, hk, rfl, hS⟩ := hrel
    have r4 := bel_cell hS p4
    have t4 := bel_cell hS q4
    by_cases hlt : k < l.length
    · obtain ⟨b, o, rfl, hlb, hc⟩ := (h5.more hS).at hlt
      obtain ⟨b', o', rfl, hlb', hc'⟩ := (h5'.more hS).at hlt
      obtain ⟨c0, c1⟩ := hc k hlt
      obtain ⟨d0, d1⟩ := hc' k hlt
      have i2 : (k : Int) < (l.length : Int) := by omega
      have f0 := SW.cell c0
      have f1 := SW.cell c1
      have f2 := SW.cell d0
      have f3 := SW.cell d1
      have f4 := SW.cell r4
      have f5 := SW.cell t4
      clear c0 c1 d0 d1
      go_wp2
      have hNe : Nonempty (Wd (SW wr)) := ⟨⟨_, SW.drew _⟩⟩
      refine quietS (S := SW wr) (by kernel_rfl) (by kernel_rfl) (SW.drew _) ?_
      repeat (first | go_big_quiet_skip | (go_big_quiet_want; go_big_quiet_op; first | go_big_quiet_on | go_big_quiet_call ((fail))))
      refine wpQuiet_nil ?_
      rintro W ⟨⟨_, hW⟩, rfl⟩
      go_wp2
      go_roundw
      case rel => exact ⟨k + 1, by omega, by go_num, Below.trans hS (Below.mono hW hS.size)⟩
      case measure => simp [intOf]; omega
    · go_wp2
      go_ret
      exact ⟨rfl, hb0.trans (Below.mono hS hb0.size)⟩

end Go.Proofs.YtjokpfeiganigaaDoor
