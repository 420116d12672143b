/- Words and walks that the laws below ask: TextB, TextC, Build, TextD, FliM, PlaF, PlaG, FliX. -/
import Derived.Deep.AppendLies
import Derived.Lib.UnsafeStr
import Derived.Lib.BufferWrite
import Derived.BigQuiet
import Derived.Deep.QuietTactic
import Derived.Deep.RegionLaw
import Derived.Test.YtldillnjnjkkgaaGreatDoorChecked
import Derived.Lib.Strings
import Derived.Lib.Slices
import Derived.Lib.Walk
import Derived.Lib.Builder
import Derived.Lib.AppendStr
import Derived.Laws.Externs
import Derived.Test.YtldillnjnjkkgaaGreatDoorPk1
import Derived.Test.YtldillnjnjkkgaaGreatDoorPk2
import Derived.Test.YtldillnjnjkkgaaGreatDoorPk3
import Derived.Test.YtldillnjnjkkgaaGreatDoorPk8
import Derived.Test.YtldillnjnjkkgaaGreatDoorPk10
/- Walks of Quote, of its reference, and of their parts. -/
namespace Go.Proofs.YtldillnjnjkkgaaGreatDoor
open Go.RowKit
set_option linter.unusedSimpArgs false
set_option linter.unusedVariables false

set_option maxHeartbeats 400000 in
theorem needsHex_any (c : UInt8) (w : World) : Calls Tryz.prog 195 #[.int .u8 c.toNat] w fun e w' => e = .returned (.bool (hxB c)) ∧ w = w' := by
  by_cases h1 : (c.toNat : Int) < 32
  · go_enter Tryz.func195, Tryz.ntmps195
    go_wp2
    go_ret
    exact ⟨ret_bool (by simp [hxB]; omega), rfl⟩
  · go_enter Tryz.func195, Tryz.ntmps195
    go_wp2
    go_ret
    exact ⟨ret_bool (by simp [hxB]; omega), rfl⟩
set_option maxHeartbeats 400000 in
theorem needsBackslash_any (c : UInt8) (w : World) : Calls Tryz.prog 196 #[.int .u8 c.toNat] w fun e w' => e = .returned (.bool (bsB c)) ∧ w = w' := by
  by_cases h1 : c.toNat = 34
  · have h : ((c.toNat : Int) == 34) = true := by simp; omega
    have H1 := Lib.hid h1
    clear h1
    go_enter Tryz.func196, Tryz.ntmps196
    go_wp2
    go_ret
    exact ⟨ret_bool (by simp [bsB, H1.out]), rfl⟩
  · have h : ((c.toNat : Int) == 34) = false := by simp; omega
    have H1 := Lib.hid h1
    clear h1
    by_cases h2 : c.toNat = 92
    · have h' : ((c.toNat : Int) == 92) = true := by simp; omega
      have H2 := Lib.hid h2
      clear h2
      go_enter Tryz.func196, Tryz.ntmps196
      go_wp2
      go_ret
      exact ⟨ret_bool (by simp [bsB, H1.out, H2.out]), rfl⟩
    · have h' : ((c.toNat : Int) == 92) = false := by simp; omega
      have H2 := Lib.hid h2
      clear h2
      go_enter Tryz.func196, Tryz.ntmps196
      go_wp2
      go_ret
      exact ⟨ret_bool (by simp [bsB, H1.out, H2.out]), rfl⟩

theorem byteT : ByteT Tryz.prog 169 5 := ⟨Tryz.underlying169, Tryz.underlying5, by kernel_rfl⟩
def hexA : ByteArray := ⟨#[48, 49, 50, 51, 52, 53, 54, 55, 56, 57, 97, 98, 99, 100, 101, 102]⟩
theorem hexAtF : ∀ n : Fin 16, (hexA[n.val]'(n.isLt)) = hexd n.val := by decide +kernel
theorem hexAt (n : Nat) (h : n < 16) : (hexA[n]'h) = hexd n := hexAtF ⟨n, h⟩
theorem hexAt_eq (i n : Nat) (e : i = n) (h : i < (⟨#[48, 49, 50, 51, 52, 53, 54, 55, 56, 57, 97, 98, 99, 100, 101, 102]⟩ : ByteArray).size) :
    (⟨#[48, 49, 50, 51, 52, 53, 54, 55, 56, 57, 97, 98, 99, 100, 101, 102]⟩ : ByteArray)[i] = hexd n := by
  subst e; exact hexAt i h
theorem hex_lo : ∀ n : Nat, n < 256 → bits .and .u8 (n : Int) 15 = (n : Int) % 16 := by decide +kernel

set_option maxRecDepth 100000 in
set_option maxHeartbeats 1000000 in
theorem quote_any (s : ByteArray) (w : World) (hs : s.size ≤ 40000) :
    Calls Tryz.prog 134 #[.string s] w fun e w' => e = .returned (.string ⟨(quoteL s.data.toList).toArray⟩) ∧ Below w.heap.size w w' := by
  obtain ⟨i0, hi, hz0, hz1, hz2⟩ := info_parts byteT.info
  have HI := Lib.hid hi
  have HZ0 := Lib.hid hz0
  have HZ1 := Lib.hid hz1
  have HZ2 := Lib.hid hz2
  clear hi hz0 hz1 hz2
  go_enter Tryz.func134, Tryz.ntmps134
  go_wp2_with (first
    | (at_make; refine wpList_make_own _ rfl _ _ 169 rfl w.heap.size 5 i0 (.int .u8 0) 1 Tryz.underlying169 HI.out HZ0.out HZ1.out _ _ _ (s.size + 2) rfl rfl (by omega) (by rw [HZ2.out]; omega) (by unfold maxLen; omega) (by simp) ?_; intro w1 hown hgrow; have hbuf := Buf.of_make (Below.refl _ _) (Nat.le_refl _) hown hgrow; clear hown hgrow)
    | (at_builtin; refine wpList_app byteT rfl _ _ rfl _ [] rfl (hbuf.alloc _) _ [34] 1 _ rfl rfl (by omega) rfl (heap_alloc_new _ _) (by simp) ?_; clear hbuf; intro v' w1 hbuf))
  have hl := flatMap_qb_le s.data.toList
  simp only [Array.length_toList, ByteArray.size_data] at hl
  simp only [List.nil_append] at hbuf
  go_loopw [3, 15] (fun v i wr => ∃ (k : Nat) (l : List UInt8), k ≤ s.size ∧ i = .int .i64 k ∧ Buf 5 w.heap.size w wr v l ∧ l ≠ [] ∧ Hid (quoteL s.data.toList = l ++ ((s.data.toList.drop k).flatMap qb ++ [34]))) (fun _ i _ => s.size - (intOf i).toNat)
  case atStart => exact ⟨0, [34], Nat.zero_le _, rfl, hbuf, by simp, Lib.hid rfl⟩
  case round =>
    obtain ⟨k, l, hk, rfl, hB, hne, HE⟩ := hrel
    have hl2 : l.length ≤ 200000 := by
      have e := congrArg List.length HE.out
      simp only [quoteL, List.length_cons, List.length_append, List.length_nil] at e
      omega
    by_cases hlt : k < s.size
    · have HS : Hid ((s.data.toList.drop k).flatMap qb = qb s[k] ++ (s.data.toList.drop (k + 1)).flatMap qb) := by
        have e : s.data.toList.drop k = s[k] :: s.data.toList.drop (k + 1) := by
          rw [List.drop_eq_getElem_cons (by simpa using hlt)]; rfl
        rw [e]; exact Lib.hid rfl
      cases hx : hxB s[k]
      · cases hb : bsB s[k]
        · have HQ : Hid (qb s[k] = [s[k]]) := by rw [qb, hx, hb]; exact Lib.hid rfl
          go_wp2_with (first
            | (go_at_call 195; refine (needsHex_any _ _).mono ?_; rintro e w' ⟨rfl, rfl⟩)
            | (go_at_call 196; refine (needsBackslash_any _ _).mono ?_; rintro e w' ⟨rfl, rfl⟩)
            | (at_builtin; refine wpList_app byteT rfl _ _ rfl _ l rfl (hB.alloc _) _ [s[k]] 1 _ rfl rfl (by omega) rfl (heap_alloc_new _ _) (by omega) ?_; intro v' w1 hbuf'))
          go_roundw
          case rel => exact ⟨k + 1, _, by omega, by go_num, hbuf', by simp, Lib.hid (by rw [HE.out, HS.out, HQ.out]; simp only [List.append_assoc])⟩
          case measure => simp [intOf]; omega
        · have HQ : Hid (qb s[k] = [92, s[k]]) := by rw [qb, hx, hb]; exact Lib.hid rfl
          go_wp2_with (first
            | (go_at_call 195; refine (needsHex_any _ _).mono ?_; rintro e w' ⟨rfl, rfl⟩)
            | (go_at_call 196; refine (needsBackslash_any _ _).mono ?_; rintro e w' ⟨rfl, rfl⟩)
            | (at_builtin; refine wpList_app byteT rfl _ _ rfl _ l rfl (hB.alloc _) _ [92, s[k]] 2 _ rfl rfl (by omega) rfl (heap_alloc_new _ _) (by omega) ?_; intro v' w1 hbuf'))
          go_roundw
          case rel => exact ⟨k + 1, _, by omega, by go_num, hbuf', by simp, Lib.hid (by rw [HE.out, HS.out, HQ.out]; simp only [List.append_assoc])⟩
          case measure => simp [intOf]; omega
      · have HQ : Hid (qb s[k] = [92, 120, hexd (s[k].toNat / 16), hexd (s[k].toNat % 16)]) := by rw [qb, hx]; exact Lib.hid rfl
        go_wp2_with (first
            | (go_at_call 195; refine (needsHex_any _ _).mono ?_; rintro e w' ⟨rfl, rfl⟩)
            | (go_at_call 196; refine (needsBackslash_any _ _).mono ?_; rintro e w' ⟨rfl, rfl⟩))
        have hlo := Lib.hid (hex_lo s[k].toNat s[k].toNat_lt)
        have b1 : (0 : Int) ≤ (s[k].toNat : Int) / 16 := by omega
        have b2 : (s[k].toNat : Int) / 16 < 16 := by have := s[k].toNat_lt; omega
        have b3 : (0 : Int) ≤ (s[k].toNat : Int) % 16 := by omega
        have b4 : (s[k].toNat : Int) % 16 < 16 := by omega
        have hlo' := hlo.out
        have e1 := hexAt_eq ((s[k].toNat : Int) / 16).toNat (s[k].toNat / 16) (by omega)
        have e2 := hexAt_eq ((s[k].toNat : Int) % 16).toNat (s[k].toNat % 16) (by omega)
        go_region_law ((refine step_app byteT rfl _ _ rfl _ l rfl ((hB.alloc _).drew) _ [92, 120, hexd (s[k].toNat / 16), hexd (s[k].toNat % 16)] 4 _ rfl rfl (by omega) rfl (heap_alloc_new _ _) (by omega) ?_; intro v' w1 hbuf'))
        all_goals go_wp2
        all_goals
          go_roundw
          case rel => exact ⟨k + 1, _, by omega, by go_num, hbuf', by simp, Lib.hid (by rw [HE.out, HS.out, HQ.out]; simp only [List.append_assoc])⟩
          case measure => simp [intOf]; omega
    · have HD : Hid (s.data.toList.drop k = []) := Lib.hid (List.drop_eq_nil_of_le (by simpa using hlt))
      go_wp2_with (at_builtin; refine wpList_app byteT rfl _ _ rfl _ l rfl (hB.alloc _) _ [34] 1 _ rfl rfl (by omega) rfl (heap_alloc_new _ _) (by omega) ?_; intro v' w1 hbuf'; obtain ⟨L, hL⟩ : ∃ L, L = l ++ [34] := ⟨_, rfl⟩; rw [← hL] at hbuf'; have hLn : L ≠ [] := (by rw [hL]; simp); have HL := Lib.hid hL; clear hL; obtain ⟨g, cap, rfl, _, _⟩ := hbuf'.form hLn; have hconv := run_convert_bytes_back (P := Tryz.prog) w1 169 9 5 ⟨g, 0, none⟩ cap L byteT.ht byteT.he Tryz.underlying9 hbuf'.cells)
      go_ret
      refine ⟨ret_str ?_, hbuf'.bel⟩
      rw [HL.out, HE.out, HD.out]; rfl

end Go.Proofs.YtldillnjnjkkgaaGreatDoor

/- Walks of Unquote, of its reference, and of their parts. -/
namespace Go.Proofs.YtldillnjnjkkgaaGreatDoor
open Go.RowKit
set_option linter.unusedSimpArgs false
set_option linter.unusedVariables false

def lenOf : Value → Nat
  | .string r => r.size
  | _ => 0

end Go.Proofs.YtldillnjnjkkgaaGreatDoor

/- strings.Builder's WriteByte and WriteString at this translation (the shelf's contracts for them do not lie here: one branch of copyCheck is refused by the loader). The walks follow the shelf's own. -/
namespace Go.Proofs.YtldillnjnjkkgaaGreatDoor
open Go.RowKit
set_option linter.unusedSimpArgs false
set_option linter.unusedVariables false

theorem builderSize : (Tryz.prog.info? 171).map (·.size) = some 2 := by kernel_rfl
theorem builderLies : liesAt Tryz.prog Tryz.prog.depth 171 (2 / Tryz.prog.cellsOf 171) 0 171 1 = true := by kernel_rfl
theorem builderByte : (Tryz.prog.info? 5).map (fun i => (i.zero, i.size, i.bytes)) = some (some (.int .u8 0), 1, 1) := by kernel_rfl
theorem builderNe : 171 ≠ 5 := by decide

set_option maxHeartbeats 1000000 in
set_option maxRecDepth 100000 in
theorem builder_used (b : Nat) (w : World) (h0 : w.cell? ⟨b, 0, none⟩ = some (.pointer (some ⟨b, 0, none⟩))) :
    Calls Tryz.prog 192 #[.pointer (some ⟨b, 0, none⟩)] w fun e w' => e = .returned (.tuple #[]) ∧ w' = w := by
  obtain ⟨j, hj, _⟩ := Option.map_eq_some_iff.1 builderSize
  go_enter Tryz.func192, Tryz.ntmps192
  go_wp2
  rw [Lib.run_neq_ptr_same w _ Tryz.underlying168 hj]
  go_wp2
  go_end0
  exact ⟨rfl, rfl⟩

set_option maxHeartbeats 1000000 in
set_option maxRecDepth 100000 in
theorem builder_fresh (b : Nat) (w : World) (h0 : w.cell? ⟨b, 0, none⟩ = some (.pointer none)) (hsh : w.shape? b = some (171, 2)) (hfz : w.frozen? ⟨b, 0, none⟩ = false) :
    Calls Tryz.prog 192 #[.pointer (some ⟨b, 0, none⟩)] w fun e w' => e = .returned (.tuple #[]) ∧ w' = w.setCell ⟨b, 0, none⟩ (.pointer (some ⟨b, 0, none⟩)) := by
  obtain ⟨j, hj, hjs⟩ := Option.map_eq_some_iff.1 builderSize
  go_enter Tryz.func192, Tryz.ntmps192
  go_wp2
  rw [Lib.run_to_unsafe w ⟨b, 0, none⟩ Tryz.underlying168 Tryz.underlying261 hj (by rw [hjs]; decide) hsh (Nat.zero_lt_succ 1)]
  simp only [Result.andThen]
  rw [Oper.upon_value]
  go_wp2
  rw [run_callFunc_extern Tryz.func240 (by kernel_rfl) (by kernel_rfl) (by kernel_rfl) (e := Extern.AbiNoEscape.same) (by kernel_rfl)]
  rw [Lib.run_noEscape]
  simp only [Result.andThen]
  rw [Oper.upon_value]
  go_wp2
  rw [Lib.run_from_unsafe w ⟨b, 0, none⟩ Tryz.underlying261 Tryz.underlying168 hj hsh builderLies]
  simp only [Result.andThen]
  rw [Oper.upon_value]
  go_wp2
  go_end0
  exact ⟨rfl, rfl⟩

theorem builder_check (B b : Nat) (bs : List Value) (w : World) (h : Lib.IsBuilder 171 5 B b bs w) :
    Calls Tryz.prog 192 #[.pointer (some ⟨b, 0, none⟩)] w fun e w' => e = .returned (.tuple #[]) ∧ (Lib.BuilderAt 171 5 B b (.pointer (some ⟨b, 0, none⟩)) bs w' ∧ Below B w w') := by
  rcases h with h | h
  · refine (builder_fresh b w h.cell0 h.shape h.frozen0).mono ?_
    rintro e w' ⟨rfl, rfl⟩
    exact ⟨rfl, h.used _, (Below.refl B w).setCell (p := ⟨b, 0, none⟩) h.1 _⟩
  · refine (builder_used b w h.cell0).mono ?_
    rintro e w' ⟨rfl, rfl⟩
    exact ⟨rfl, h, Below.refl B _⟩

set_option maxHeartbeats 2000000 in
set_option maxRecDepth 100000 in
theorem builder_byte (B b : Nat) (bs : List Value) (c : Int) (w : World) (h : Lib.IsBuilder 171 5 B b bs w) (hlen : bs.length + 1 ≤ 140737488355328) (hBw : B ≤ w.heap.size) :
    Calls Tryz.prog 131 #[.pointer (some ⟨b, 0, none⟩), .int .u8 c] w fun e w' => e = .returned .nilIface ∧ (Lib.BuilderAt 171 5 B b (.pointer (some ⟨b, 0, none⟩)) (bs ++ [.int .u8 c]) w' ∧ Below B w w') := by
  obtain ⟨i0, hi, hz0, hz1, hz2⟩ := info_parts builderByte
  have HI := Lib.hid hi
  have HZ0 := Lib.hid hz0
  have HZ1 := Lib.hid hz1
  have HZ2 := Lib.hid hz2
  clear hi hz0 hz1 hz2
  go_enter Tryz.func131, Tryz.ntmps131
  go_wp2_with (go_at_call 192; refine (builder_check B b bs _ h).mono ?_)
  rintro e w1 ⟨rfl, h1, hb1⟩
  obtain ⟨hB, v, hbk, hown, hne⟩ := h1
  have c0 : w1.cell? ⟨b, 0, none⟩ = some (.pointer (some ⟨b, 0, none⟩)) := by rw [Lib.cell_of_heap hbk]; rfl
  have c1 : w1.cell? ⟨b, 1, none⟩ = some v := by rw [Lib.cell_of_heap hbk]; rfl
  go_wp2_with (at_builtin; refine wpList_append_own _ rfl _ _ 169 rfl B 5 i0 (.int .u8 0) 1 1 Tryz.underlying169 HI.out HZ0.out HZ1.out HZ2.out rfl (by decide) _ _ _ rfl (hown.alloc _) ⟨w1.heap.size, 0, none⟩ 1 1 [.int .u8 c] rfl rfl ?c1 ?c2 ?c3 ?c4 ?c5 ?_)
  case c1 =>
    intro j u hj
    match j, hj with
    | 0, hj => simp at hj; subst hj; simp [Addr.add]
  case c2 => intro u hu; simp at hu; subst hu; rfl
  case c3 => unfold maxLen; omega
  case c4 => omega
  case c5 => have := hb1.size; simp; omega
  intro v' w2 hown' hgrow _
  have hlt : b < w1.heap.size := by
    rcases Nat.lt_or_ge b w1.heap.size with h' | h'
    · exact h'
    · simp [Array.getElem?_eq_none h'] at hbk
  have hb2 : w2.heap[b]? = some (.cells #[.pointer (some ⟨b, 0, none⟩), v] 171 (0, 0)) := by
    rw [hgrow.block b (by simp; omega) (fun e => hne e.symm), Lib.alloc_old w1 _ b hlt]
    exact hbk
  have d0 : w2.cell? ⟨b, 0, none⟩ = some (.pointer (some ⟨b, 0, none⟩)) := by rw [Lib.cell_of_heap hb2]; rfl
  have d1 : w2.cell? ⟨b, 1, none⟩ = some v := by rw [Lib.cell_of_heap hb2]; rfl
  have f1 : w2.frozen? ⟨b, 1, none⟩ = false := Lib.frozen_of_heap hb2 1
  obtain ⟨g, cap, rfl⟩ : ∃ g cap, v' = .slice (some ⟨g, 0, none⟩) (bs.length + 1) cap := by
    rcases hown'.2 with ⟨_, h0⟩ | ⟨g, cap, cur, hv, _⟩
    · omega
    · exact ⟨g, cap, hv⟩
  go_wp2
  go_ret
  refine ⟨rfl, ?_, ?_⟩
  · exact Lib.BuilderAt.put (T := 171) (e := 5) hB hb2 (bs' := bs ++ [.int .u8 c]) (by simpa using hown') builderNe
  · exact ((hb1.alloc (by have := hb1.size; omega) _).grown hgrow (by have := hb1.size; simp; omega) (fun k hk => (hown.lt k hk).1)).setCell (p := ⟨b, 1, none⟩) hB _

set_option maxHeartbeats 2000000 in
set_option maxRecDepth 100000 in
theorem builder_string (B b : Nat) (bs : List Value) (s : ByteArray) (w : World) (h : Lib.IsBuilder 171 5 B b bs w) (hlen : bs.length + s.size ≤ 140737488355328) (hBw : B ≤ w.heap.size) :
    Calls Tryz.prog 133 #[.pointer (some ⟨b, 0, none⟩), .string s] w fun e w' => e = .returned (.tuple #[.int .i64 s.size, .nilIface]) ∧ (Lib.BuilderAt 171 5 B b (.pointer (some ⟨b, 0, none⟩)) (bs ++ Lib.strCells s) w' ∧ Below B w w') := by
  obtain ⟨i0, hi, hz0, hz1, hz2⟩ := info_parts builderByte
  have HI := Lib.hid hi
  have HZ0 := Lib.hid hz0
  have HZ1 := Lib.hid hz1
  have HZ2 := Lib.hid hz2
  clear hi hz0 hz1 hz2
  go_enter Tryz.func133, Tryz.ntmps133
  go_wp2_with (go_at_call 192; refine (builder_check B b bs _ h).mono ?_)
  rintro e w1 ⟨rfl, h1, hb1⟩
  obtain ⟨hB, v, hbk, hown, hne⟩ := h1
  have c0 : w1.cell? ⟨b, 0, none⟩ = some (.pointer (some ⟨b, 0, none⟩)) := by rw [Lib.cell_of_heap hbk]; rfl
  have c1 : w1.cell? ⟨b, 1, none⟩ = some v := by rw [Lib.cell_of_heap hbk]; rfl
  go_wp2_with (at_builtin; refine Lib.wpList_append_own_string _ rfl _ _ 169 9 rfl B 5 i0 Tryz.underlying169 Tryz.underlying9 HI.out HZ0.out HZ1.out HZ2.out _ _ _ rfl hown s rfl ?c3 ?c4 ?c5 ?_)
  case c3 => unfold maxLen; omega
  case c4 => omega
  case c5 => have := hb1.size; omega
  intro v' w2 hown' hgrow _
  have hlt : b < w1.heap.size := by
    rcases Nat.lt_or_ge b w1.heap.size with h' | h'
    · exact h'
    · simp [Array.getElem?_eq_none h'] at hbk
  have hb2 : w2.heap[b]? = some (.cells #[.pointer (some ⟨b, 0, none⟩), v] 171 (0, 0)) := by
    rw [hgrow.block b hlt (fun e => hne e.symm)]
    exact hbk
  have d0 : w2.cell? ⟨b, 0, none⟩ = some (.pointer (some ⟨b, 0, none⟩)) := by rw [Lib.cell_of_heap hb2]; rfl
  have d1 : w2.cell? ⟨b, 1, none⟩ = some v := by rw [Lib.cell_of_heap hb2]; rfl
  have f1 : w2.frozen? ⟨b, 1, none⟩ = false := Lib.frozen_of_heap hb2 1
  obtain ⟨ao, n', cap, rfl⟩ : ∃ ao n' cap, v' = .slice ao n' cap := by
    rcases hown'.2 with ⟨hv, _⟩ | ⟨g, cap, cur, hv, _⟩
    · exact ⟨_, _, _, hv⟩
    · exact ⟨_, _, _, hv⟩
  go_wp2
  go_ret2
  refine ⟨rfl, ?_, ?_⟩
  · exact Lib.BuilderAt.put (T := 171) (e := 5) hB hb2 (bs' := bs ++ Lib.strCells s) (by simpa [Lib.strCells_length] using hown') builderNe
  · exact (hb1.grown hgrow (by have := hb1.size; omega) (fun k hk => (hown.lt k hk).1)).setCell (p := ⟨b, 1, none⟩) hB _
theorem builderAt_more {T e : TypeId} {B b : Nat} {p : Value} {bs : List Value} {w w' : World} (h : Lib.BuilderAt T e B b p bs w) (hb : Below w.heap.size w w') : Lib.BuilderAt T e B b p bs w' := by
  have hlt := h.lt
  obtain ⟨hB, v, hk, hown, hne⟩ := h
  exact ⟨hB, v, (hb.block b hlt).trans hk, own_more hown hb, hne⟩
theorem builder_more {T e : TypeId} {B b : Nat} {bs : List Value} {w w' : World} (h : Lib.IsBuilder T e B b bs w) (hb : Below w.heap.size w w') : Lib.IsBuilder T e B b bs w' := by
  rcases h with h | h
  · exact .inl (builderAt_more h hb)
  · exact .inr (builderAt_more h hb)
end Go.Proofs.YtldillnjnjkkgaaGreatDoor

/- Walks of isPlain, word, Join. -/
namespace Go.Proofs.YtldillnjnjkkgaaGreatDoor
open Go.RowKit
set_option linter.unusedSimpArgs false
set_option linter.unusedVariables false

/-- a rune that no plain word has -/
def mark (r : Nat) : Bool := decide (r ≤ 32 ∨ 126 < r ∨ r = 34)
theorem decode_big (s : ByteArray) (pos : Nat) (h : pos < s.size) (hb : 128 ≤ (s[pos]).toNat) : 128 ≤ (Utf8.decode s pos).1 := by
  have e : (s.get! (pos + 0)).toNat = (s[pos]).toNat := by
    rw [Nat.add_zero]
    show (s.data[pos]!).toNat = _
    rw [getElem!_pos s.data pos (by simpa using h)]
    rfl
  unfold Utf8.decode
  simp only [e]
  rw [if_neg (by omega)]
  split
  · split
    · simp only; omega
    · decide
  · split
    · split
      · rename_i h1; simp only [Bool.and_eq_true, decide_eq_true_eq] at h1; simp only; omega
      · decide
    · split
      · split
        · rename_i h1; simp only [Bool.and_eq_true, decide_eq_true_eq] at h1; simp only; omega
        · decide
      · decide
theorem idx_mark (s : ByteArray) : ∀ (f pos : Nat), s.size ≤ pos + f → decide (0 ≤ Lib.idxFuncFrom mark true s f pos) = !((s.data.toList.drop pos).all okB)
  | 0, pos, hf => by
    rw [List.drop_eq_nil_of_le (by simpa using hf)]
    simp [Lib.idxFuncFrom]
  | f + 1, pos, hf => by
    by_cases h : pos < s.size
    · rw [bytes_drop s pos h, List.all_cons]
      unfold Lib.idxFuncFrom
      rw [if_pos h]
      by_cases hb : (s[pos]).toNat < 128
      · rw [decode_ascii s pos h hb]
        simp only
        cases ho : okB s[pos]
        · have hm : mark (s[pos]).toNat = true := by simp [okB] at ho; simp [mark]; omega
          rw [if_pos hm]
          simp
        · have hm : mark (s[pos]).toNat = false := by simp [okB] at ho; simp [mark]; omega
          rw [hm, if_neg (by simp), idx_mark s f (pos + 1) (by omega)]
          rfl
      · have hd := decode_big s pos h (by omega)
        have hm : mark (Utf8.decode s pos).1 = true := by simp [mark]; omega
        have ho : okB s[pos] = false := by simp [okB]; omega
        rw [hm, if_pos rfl, ho]
        simp
    · rw [Lib.idxFuncFrom_end _ _ _ _ _ h, List.drop_eq_nil_of_le (by simpa using h)]
      simp

set_option maxHeartbeats 400000 in
theorem needsMarks_any (r : Nat) (w : World) : Calls Tryz.prog 194 #[.int .i32 r] w fun e w' => e = .returned (.bool (mark r)) ∧ w = w' := by
  by_cases h1 : (r : Int) ≤ 32
  · go_enter Tryz.func194, Tryz.ntmps194
    go_wp2
    go_ret
    exact ⟨ret_bool (by simp [mark]; omega), rfl⟩
  · by_cases h2 : 126 < (r : Int)
    · go_enter Tryz.func194, Tryz.ntmps194
      go_wp2
      go_ret
      exact ⟨ret_bool (by simp [mark]; omega), rfl⟩
    · by_cases h3 : r = 34
      · have h3' : ((r : Int) == 34) = true := by simp; omega
        have H3 := Lib.hid h3
        clear h3
        go_enter Tryz.func194, Tryz.ntmps194
        go_wp2
        go_ret
        exact ⟨ret_bool (by simp [mark, H3.out]), rfl⟩
      · have h3' : ((r : Int) == 34) = false := by simp; omega
        have H3 := Lib.hid h3
        clear h3
        go_enter Tryz.func194, Tryz.ntmps194
        go_wp2
        go_ret
        exact ⟨ret_bool (by have := H3.out; simp [mark]; omega), rfl⟩
theorem markAt (w : World) : PredAt Tryz.prog 194 #[] encR mark w := fun W x _ =>
  (needsMarks_any x W).mono fun e w' ⟨h1, h2⟩ => ⟨h1, 0, h2.symm⟩
theorem containsFunc_any (s : ByteArray) (w : World) :
    Calls Tryz.prog 193 #[.string s, .func (.func 194) #[] #[]] w fun e w' => e = .returned (.bool (!(s.data.toList.all okB))) ∧ Below w.heap.size w w' := by
  refine (Tryz.strings_ContainsFunc 194 #[] (enters_of Tryz.func194 (by kernel_rfl) rfl) mark s w (markAt w)).mono ?_
  rintro e w' ⟨rfl, hb⟩
  exact ⟨ret_bool (idx_mark s s.size 0 (by omega)), hb⟩

set_option maxHeartbeats 400000 in
theorem isPlain_any (s : ByteArray) (w : World) :
    Calls Tryz.prog 132 #[.string s] w fun e w' => e = .returned (.bool (plainL s.data.toList)) ∧ Below w.heap.size w w' := by
  by_cases h0 : 0 < s.size
  · have t1 := isEmpty_no s h0
    have HL : Hid (plainL s.data.toList = s.data.toList.all okB) := Lib.hid (by
      rw [plainL, ← ByteArray.toList_eq, t1]; rfl)
    cases ha : s.data.toList.all okB
    · have HC := containsFunc_any s w
      rw [ha] at HC
      have HH := Lib.hid HC
      clear HC
      have HA := Lib.hid ha
      clear ha
      go_enter Tryz.func132, Tryz.ntmps132
      go_wp2_with (go_at_call 193; refine HH.out.mono ?_; rintro e w1 ⟨rfl, hb⟩)
      go_ret
      exact ⟨ret_bool (by rw [HL.out, HA.out]), hb⟩
    · have HC := containsFunc_any s w
      rw [ha] at HC
      have HH := Lib.hid HC
      clear HC
      have HA := Lib.hid ha
      clear ha
      go_enter Tryz.func132, Tryz.ntmps132
      go_wp2_with (go_at_call 193; refine HH.out.mono ?_; rintro e w1 ⟨rfl, hb⟩)
      go_ret
      exact ⟨ret_bool (by rw [HL.out, HA.out]), hb⟩
  · have t1 := isEmpty_yes s (by omega)
    have HL : Hid (plainL s.data.toList = false) := Lib.hid (by
      rw [plainL, ← ByteArray.toList_eq, t1]; rfl)
    go_enter Tryz.func132, Tryz.ntmps132
    go_wp2
    go_ret
    exact ⟨ret_bool (by rw [HL.out]), Below.refl _ _⟩

theorem isPlain_eq (s : ByteArray) (b : Bool) (w : World) (h : plainL s.data.toList = b) :
    Calls Tryz.prog 132 #[.string s] w fun e w' => e = .returned (.bool b) ∧ Below w.heap.size w w' := by
  subst h; exact isPlain_any s w

theorem encW_plain (l : List UInt8) (h : plainL l = true) : encW l = l := by rw [encW, if_pos h]
theorem encW_quote (l : List UInt8) (h : plainL l = false) : encW l = quoteL l := by rw [encW, if_neg (by simp [h])]
theorem strCells_eq (s : ByteArray) : Lib.strCells s = Lib.byteCells s.data.toList := by
  simp [Lib.strCells, Lib.byteCells]
def bytesOf (ss : List ByteArray) : List (List UInt8) := ss.map fun s => s.data.toList

set_option maxRecDepth 100000 in
set_option maxHeartbeats 2000000 in
theorem join_any (v : Value) (ss : List ByteArray) (w : World) (hv : StrL w v ss) (hn : ss.length ≤ 2000) (hsum : ((bytesOf ss).map List.length).sum ≤ 2000) :
    Calls Tryz.prog 58 #[v] w fun e w' => e = .returned (.string ⟨(joinL (bytesOf ss)).toArray⟩) ∧ Below w.heap.size w w' := by
  have hv0 := hv
  obtain ⟨A, c, rfl, hcell⟩ := hv
  go_enter Tryz.func58, Tryz.ntmps58
  go_wp2
  have hI0 := Lib.fresh_isBuilder 171 5 w
  have HB0 : Below w.heap.size w (w.alloc (.cells #[.pointer none, .slice none 0 0] 171)) := (Below.refl _ _).alloc (Nat.le_refl _) _
  go_loopw [8] (fun i wr => ∃ k : Nat, k ≤ ss.length ∧ i = .int .i64 k ∧ Lib.IsBuilder 171 5 w.heap.size w.heap.size (Lib.byteCells (joinL ((bytesOf ss).take k))) wr ∧ Below w.heap.size w wr) (fun i _ => ss.length - (intOf i).toNat)
  case atStart => exact ⟨0, Nat.zero_le _, rfl, hI0, HB0⟩
  case round =>
    obtain ⟨k, hk, rfl, hI, hB⟩ := hrel
    have hlen : (Lib.byteCells (joinL ((bytesOf ss).take k))).length ≤ 20000 := by
      have h1 := joinL_le ((bytesOf ss).take k)
      have h2 := sum_take_le (bytesOf ss) k
      have h3 : ((bytesOf ss).take k).length ≤ 2000 := by simp [bytesOf]; omega
      rw [Lib.byteCells_length]
      omega
    by_cases hlt : k < ss.length
    · obtain ⟨b, o, rfl, hb, hc⟩ : ∃ b o, A = some ⟨b, o, none⟩ ∧ b < w.heap.size ∧ ∀ i (h : i < ss.length), w.cell? ⟨b, o + i, none⟩ = some (.string ss[i]) := by
        rcases hcell with h | h
        · rw [h] at hlt; simp at hlt
        · exact h
      have hck : wr.cell? ⟨b, o + k, none⟩ = some (.string ss[k]) := (hB.cell (p := ⟨b, o + k, none⟩) hb).trans (hc k hlt)
      clear hc
      have hsk : (ss[k]).data.toList.length ≤ 2000 := Nat.le_trans (len_le_sum (bytesOf ss) _ (by simp [bytesOf]; exact ⟨ss[k], List.getElem_mem hlt, rfl⟩)) hsum
      have hsq : (ss[k]).size ≤ 40000 := by have : (ss[k]).data.toList.length = (ss[k]).size := by simp
                                            omega
      have htk : (bytesOf ss).take (k + 1) = (bytesOf ss).take k ++ [(ss[k]).data.toList] := by
        rw [List.take_succ_eq_append_getElem (by simpa [bytesOf] using hlt)]; simp [bytesOf]
      have hsk2 : (ss[k]).size ≤ 2000 := by have : (ss[k]).data.toList.length = (ss[k]).size := by simp
                                            omega
      clear hsk hcell hsum
      have hq2 : (Lib.byteCells (joinL ((bytesOf ss).take k))).length + 1 + (⟨(quoteL (ss[k]).data.toList).toArray⟩ : ByteArray).size ≤ 140737488355328 := by
        have h1 := flatMap_qb_le (ss[k]).data.toList
        have h2 : (⟨(quoteL (ss[k]).data.toList).toArray⟩ : ByteArray).size = (quoteL (ss[k]).data.toList).length := by simp [ByteArray.size]
        rw [h2]
        simp only [quoteL, List.length_cons, List.length_append, List.length_nil]
        have h3 : (ss[k]).data.toList.length = (ss[k]).size := by simp
        omega
      have hq3 : (Lib.byteCells (joinL ((bytesOf ss).take k))).length + (⟨(quoteL (ss[k]).data.toList).toArray⟩ : ByteArray).size ≤ 140737488355328 := by omega
      by_cases hk0 : k = 0
      · have HT := Lib.hid htk
        have h0 : ¬ 0 < (k : Int) := by omega
        have hz : joinL ((bytesOf ss).take k) = [] := by rw [hk0]; rfl
        have HZ := Lib.hid hz
        have HN : Hid ((bytesOf ss).take k = []) := Lib.hid (by rw [hk0]; rfl)
        clear htk hk0 hz
        cases hp : plainL (ss[k]).data.toList
        · have HP := Lib.hid hp
          clear hp
          have HJ : Hid (joinL ((bytesOf ss).take (k + 1)) = joinL ((bytesOf ss).take k) ++ quoteL (ss[k]).data.toList) := Lib.hid (by rw [HT.out, HN.out]; simp [joinL, encW_quote _ HP.out])
          clear HT HN
          go_wp2_with (go_at_call 132; refine (isPlain_eq _ _ _ HP.out).mono ?_; rintro e w2 ⟨rfl, hb2⟩; have hI2 := builder_more hI hb2; have hB2 := hB.trans (hb2.mono hB.size); refine Hid.out ?_)
          refine Lib.hid ?_
          go_wp2_with (go_at_call 134; refine (quote_any _ _ hsq).mono ?_; rintro e w3 ⟨rfl, hb3⟩; have hI3 := builder_more hI2 hb3; have hB3 := hB2.trans (hb3.mono hB2.size); refine Hid.out ?_)
          refine Lib.hid ?_
          go_wp2_with (go_at_call 133; refine (builder_string w.heap.size w.heap.size _ _ _ hI3 (by first | omega | exact hq3 | (simp only [List.length_append, List.length_cons, List.length_nil]; omega) | (simp only [List.length_append, List.length_cons, List.length_nil]; exact hq2)) hB3.size).mono ?_; rintro e w4 ⟨rfl, hI4', hb4⟩; have hI4 := builder_more (w' := w4) (.inr hI4') (Below.refl _ _); have hB4 := hB3.trans hb4)
          go_roundw
          case rel => exact ⟨k + 1, by omega, by go_num, by rw [HJ.out]; simpa [strCells_eq, Lib.byteCells] using hI4, hB4⟩
          case measure => simp [intOf]; omega
        · have HP := Lib.hid hp
          clear hp
          have HJ : Hid (joinL ((bytesOf ss).take (k + 1)) = joinL ((bytesOf ss).take k) ++ (ss[k]).data.toList) := Lib.hid (by rw [HT.out, HN.out]; simp [joinL, encW_plain _ HP.out])
          clear HT HN
          go_wp2_with (go_at_call 132; refine (isPlain_eq _ _ _ HP.out).mono ?_; rintro e w2 ⟨rfl, hb2⟩; have hI2 := builder_more hI hb2; have hB2 := hB.trans (hb2.mono hB.size); refine Hid.out ?_)
          refine Lib.hid ?_
          go_wp2_with (go_at_call 133; refine (builder_string w.heap.size w.heap.size _ _ _ hI2 (by omega) hB2.size).mono ?_; rintro e w4 ⟨rfl, hI4', hb4⟩; have hI4 := builder_more (w' := w4) (.inr hI4') (Below.refl _ _); have hB4 := hB2.trans hb4)
          go_roundw
          case rel => exact ⟨k + 1, by omega, by go_num, by rw [HJ.out]; simpa [strCells_eq, Lib.byteCells] using hI4, hB4⟩
          case measure => simp [intOf]; omega
      · have HT := Lib.hid htk
        have h0 : 0 < (k : Int) := by omega
        have HN : Hid ((bytesOf ss).take k ≠ []) := Lib.hid (by intro e; have h1 : ((bytesOf ss).take k).length = k := (by simp [bytesOf]; omega); rw [e] at h1; exact hk0 h1.symm)
        clear htk hk0
        cases hp : plainL (ss[k]).data.toList
        · have HP := Lib.hid hp
          clear hp
          have HJ : Hid (joinL ((bytesOf ss).take (k + 1)) = joinL ((bytesOf ss).take k) ++ [32] ++ quoteL (ss[k]).data.toList) := Lib.hid (by rw [HT.out, joinL_snoc _ _ HN.out, encW_quote _ HP.out]; simp)
          clear HT HN
          go_wp2_with (go_at_call 131; refine (builder_byte w.heap.size w.heap.size _ 32 _ hI (by omega) hB.size).mono ?_; rintro e w1 ⟨rfl, hI1', hb1⟩; have hI1 := builder_more (w' := w1) (.inr hI1') (Below.refl _ _); have hB1 := hB.trans hb1; refine Hid.out ?_)
          refine Lib.hid ?_
          go_wp2_with (go_at_call 132; refine (isPlain_eq _ _ _ HP.out).mono ?_; rintro e w2 ⟨rfl, hb2⟩; have hI2 := builder_more hI1 hb2; have hB2 := hB1.trans (hb2.mono hB1.size); refine Hid.out ?_)
          refine Lib.hid ?_
          go_wp2_with (go_at_call 134; refine (quote_any _ _ hsq).mono ?_; rintro e w3 ⟨rfl, hb3⟩; have hI3 := builder_more hI2 hb3; have hB3 := hB2.trans (hb3.mono hB2.size); refine Hid.out ?_)
          refine Lib.hid ?_
          go_wp2_with (go_at_call 133; refine (builder_string w.heap.size w.heap.size _ _ _ hI3 (by simp only [List.length_append, List.length_cons, List.length_nil]; exact hq2) hB3.size).mono ?_; rintro e w4 ⟨rfl, hI4', hb4⟩; have hI4 := builder_more (w' := w4) (.inr hI4') (Below.refl _ _); have hB4 := hB3.trans hb4)
          go_roundw
          case rel => exact ⟨k + 1, by omega, by go_num, by rw [HJ.out]; simpa [strCells_eq, Lib.byteCells] using hI4, hB4⟩
          case measure => simp [intOf]; omega
        · have HP := Lib.hid hp
          clear hp
          have HJ : Hid (joinL ((bytesOf ss).take (k + 1)) = joinL ((bytesOf ss).take k) ++ [32] ++ (ss[k]).data.toList) := Lib.hid (by rw [HT.out, joinL_snoc _ _ HN.out, encW_plain _ HP.out]; simp)
          clear HT HN
          go_wp2_with (go_at_call 131; refine (builder_byte w.heap.size w.heap.size _ 32 _ hI (by omega) hB.size).mono ?_; rintro e w1 ⟨rfl, hI1', hb1⟩; have hI1 := builder_more (w' := w1) (.inr hI1') (Below.refl _ _); have hB1 := hB.trans hb1; refine Hid.out ?_)
          refine Lib.hid ?_
          go_wp2_with (go_at_call 132; refine (isPlain_eq _ _ _ HP.out).mono ?_; rintro e w2 ⟨rfl, hb2⟩; have hI2 := builder_more hI1 hb2; have hB2 := hB1.trans (hb2.mono hB1.size); refine Hid.out ?_)
          refine Lib.hid ?_
          go_wp2_with (go_at_call 133; refine (builder_string w.heap.size w.heap.size _ _ _ hI2 (by simp only [List.length_append, List.length_cons, List.length_nil]; omega) hB2.size).mono ?_; rintro e w4 ⟨rfl, hI4', hb4⟩; have hI4 := builder_more (w' := w4) (.inr hI4') (Below.refl _ _); have hB4 := hB2.trans hb4)
          go_roundw
          case rel => exact ⟨k + 1, by omega, by go_num, by rw [HJ.out]; simpa [strCells_eq, Lib.byteCells] using hI4, hB4⟩
          case measure => simp [intOf]; omega
    · have HK : Hid ((bytesOf ss).take k = bytesOf ss) := Lib.hid (List.take_of_length_le (by simp [bytesOf]; omega))
      go_wp2_with (go_at_call 135; refine (Tryz.Builder_String_any w.heap.size w.heap.size _ _ hI hB.size).mono ?_; rintro e w4 ⟨rfl, hb4⟩)
      go_ret
      exact ⟨by rw [HK.out]; rfl, hB.trans hb4⟩
end Go.Proofs.YtldillnjnjkkgaaGreatDoor

/- Plain facts on flights as text. -/
namespace Go.Proofs.YtldillnjnjkkgaaGreatDoor
open Go.RowKit Go.Shelf
set_option linter.unusedSimpArgs false
set_option linter.unusedVariables false

def decT (n : Int) : ByteArray := ⟨(Lib.itoa n).toArray⟩
def lgW (x : Lg) : List ByteArray := [x.f, x.t, decT x.dep, decT x.arr, x.eq]
def perT (f : FV) : ByteArray := ⟨(Per.perL (f.pf, f.pt, f.pd)).toArray⟩
/-- the words of a flight with its first k legs -/
def prW (f : FV) (k : Nat) : List ByteArray := [f.car, decT f.num, perT f] ++ (f.lg.take k).flatMap lgW
def prT (f : FV) : ByteArray := ⟨(joinL (bytesOf (prW f f.lg.length))).toArray⟩
/-- what Print returns -/
def prS (f : FV) : ByteArray := if prE f = 0 then prT f else noB
theorem prW_succ {f : FV} {k : Nat} {x : Lg} (h : f.lg[k]? = some x) : prW f (k + 1) = prW f k ++ lgW x := by
  unfold prW
  rw [List.take_add_one, h, List.flatMap_append, List.append_assoc]
  simp
theorem flat_len (l : List Lg) : (l.flatMap lgW).length = l.length * 5 := by
  induction l with
  | nil => rfl
  | cons x r ih => rw [List.flatMap_cons, List.length_append, ih]; simp [lgW]; omega
theorem prW_len (f : FV) (k : Nat) : (prW f k).length ≤ 3 + k * 5 := by
  unfold prW
  rw [List.length_append, flat_len]
  have := List.length_take_le k f.lg
  simp only [List.length_cons, List.length_nil]
  omega
theorem decT_len (n : Int) (h0 : -9223372036854775808 ≤ n) (h1 : n ≤ 9223372036854775807) : (decT n).data.toList.length ≤ 21 := by
  have := Lib.itoa_length_le n h0 h1
  simpa [decT] using this
theorem code3_len {s : ByteArray} (h : codeB s 3 3 = true) : s.data.toList.length = 3 := by
  simp only [codeB, Bool.and_eq_true, decide_eq_true_eq] at h
  have e : s.data.toList.length = s.size := Array.length_toList
  omega
theorem caps3_len {s : ByteArray} (h : capsB s 3 = true) : s.data.toList.length = 3 := by
  simp only [capsB, Bool.and_eq_true, decide_eq_true_eq] at h
  have e : s.data.toList.length = s.size := Array.length_toList
  omega
theorem car_len {s : ByteArray} (h : carB s = true) : s.data.toList.length = 2 := by
  simp only [carB, codeB, Bool.and_eq_true, decide_eq_true_eq] at h
  have e : s.data.toList.length = s.size := Array.length_toList
  omega
theorem perT_len (f : FV) : (perT f).data.toList.length ≤ 29 := by
  show (Per.perL (f.pf, f.pt, f.pd)).toArray.toList.length ≤ 29
  rw [List.toList_toArray, Per.perL]
  split
  · have h1 := Per.print_len10 f.pf
    have h2 := Per.print_len10 f.pt
    have h3 := Per.digTo_len f.pd.toNat 7
    simp only [List.length_append, List.length_cons, List.length_nil, Per.digL]
    omega
  · simp
theorem lgE_all : ∀ {l : List Lg}, lgE l = 0 → ∀ x ∈ l, namB x = true ∧ timB x = true
  | [], _, x, hx => by simp at hx
  | y :: r, h, x, hx => by
    unfold lgE at h
    split at h
    · split at h
      · rcases List.mem_cons.1 hx with rfl | hx
        · exact ⟨‹_›, ‹_›⟩
        · exact lgE_all h x hx
      · omega
    · omega
theorem prE_zero {f : FV} (h : prE f = 0) : carB f.car = true ∧ numB f.num = true ∧ Per.errQ (f.pf, f.pt, f.pd) = 0 ∧ cntB f.lg.length = true ∧ lgE f.lg = 0 := by
  unfold prE at h
  split at h
  · split at h
    · split at h
      · split at h
        · exact ⟨‹_›, ‹_›, ‹_›, ‹_›, h⟩
        · omega
      · exact absurd h ‹_›
    · omega
  · omega
theorem num_bd {n : Int} (h : numB n = true) : 1 ≤ n ∧ n ≤ 9999 := by simpa [numB] using h
theorem cnt_bd {n : Nat} (h : cntB n = true) : 1 ≤ n ∧ n ≤ 6 := by simpa [cntB] using h
theorem min_bd {n : Int} (h : minB n = true) : -1440 ≤ n ∧ n ≤ 5759 := by simpa [minB] using h
theorem lgW_sum {x : Lg} (h : namB x = true ∧ timB x = true) : ((bytesOf (lgW x)).map List.length).sum ≤ 60 := by
  simp only [namB, timB, Bool.and_eq_true] at h
  have h1 := caps3_len h.1.1
  have h2 := caps3_len h.1.2.1
  have h3 := code3_len h.1.2.2
  have m1 := min_bd h.2.1
  have m2 := min_bd h.2.2
  have h4 := decT_len x.dep (by omega) (by omega)
  have h5 := decT_len x.arr (by omega) (by omega)
  simp only [bytesOf, lgW, List.map_cons, List.map_nil, List.sum_cons, List.sum_nil]
  omega
theorem flat_sum : ∀ {l : List Lg}, (∀ x ∈ l, namB x = true ∧ timB x = true) → ((bytesOf (l.flatMap lgW)).map List.length).sum ≤ l.length * 60
  | [], _ => by simp [bytesOf]
  | x :: r, h => by
    have h1 := lgW_sum (h x (by simp))
    have h2 := flat_sum (l := r) (fun y hy => h y (by simp [hy]))
    simp only [bytesOf, List.flatMap_cons, List.map_append, List.sum_append, List.length_cons] at h1 h2 ⊢
    omega
theorem prW_sum {f : FV} (h : prE f = 0) : ((bytesOf (prW f f.lg.length)).map List.length).sum ≤ 2000 := by
  obtain ⟨h1, h2, _, h4, h5⟩ := prE_zero h
  have c1 := car_len h1
  have c2 := num_bd h2
  have c3 := decT_len f.num (by omega) (by omega)
  have c4 := perT_len f
  have c5 := flat_sum (lgE_all h5)
  have c6 := cnt_bd h4
  simp only [prW, List.take_length, bytesOf, List.map_append, List.sum_append, List.map_cons, List.map_nil, List.sum_cons, List.sum_nil] at c5 ⊢
  omega
/-- a row of texts of one's own -/
def encS (s : ByteArray) : List Value := [.string s]
theorem rtS : RT Tryz.prog 100 9 1 encS where
  ht := Tryz.underlying100
  info := ⟨.string noB, 16, by kernel_rfl, rfl, by omega⟩
  len x := rfl
  one x u hu := by simp [encS] at hu; rcases hu with rfl; rfl
  pos := by omega
theorem RowL.strL {w : World} {v : Value} {l : List ByteArray} (h : RowL 1 encS w v l) : StrL w v l := by
  obtain ⟨A, c, rfl, h⟩ := h
  refine ⟨A, c, rfl, ?_⟩
  rcases h with h | ⟨b, o, rfl, hlt, hc⟩
  · exact .inl h
  · refine .inr ⟨b, o, rfl, hlt, fun i hi => ?_⟩
    have := hc i l[i] 0 (.string l[i]) (List.getElem?_eq_getElem hi) rfl
    rw [Nat.mul_one, Nat.add_zero] at this
    exact this

end Go.Proofs.YtldillnjnjkkgaaGreatDoor

/- Walk of the law's sample. -/
namespace Go.Proofs.YtldillnjnjkkgaaGreatDoor
open Go.RowKit Go.Shelf
set_option linter.unusedSimpArgs false
set_option linter.unusedVariables false

def cellsA (l : List Air) : List Value := l.flatMap fun a => [.string a.code, .string a.city, .string a.land, .int .i64 a.off, .slice a.A a.shs.length a.c]
theorem cellsA_at : ∀ (l : List Air) (i : Nat) (a : Air), l[i]? = some a → (cellsA l)[i * 5]? = some (.string a.code) ∧ (cellsA l)[i * 5 + 1]? = some (.string a.city) ∧ (cellsA l)[i * 5 + 2]? = some (.string a.land) ∧ (cellsA l)[i * 5 + 3]? = some (.int .i64 a.off) ∧ (cellsA l)[i * 5 + 4]? = some (.slice a.A a.shs.length a.c)
  | [], i, a, h => by simp at h
  | x :: r, 0, a, h => by simp at h; subst h; simp [cellsA]
  | x :: r, i + 1, a, h => by
    have ih := cellsA_at r i a (by simpa using h)
    have e : cellsA (x :: r) = .string x.code :: .string x.city :: .string x.land :: .int .i64 x.off :: .slice x.A x.shs.length x.c :: cellsA r := by simp [cellsA]
    rw [e, show (i + 1) * 5 = i * 5 + 1 + 1 + 1 + 1 + 1 by omega, show i * 5 + 1 + 1 + 1 + 1 + 1 + 1 = (i * 5 + 1) + 1 + 1 + 1 + 1 + 1 by omega, show i * 5 + 1 + 1 + 1 + 1 + 1 + 2 = (i * 5 + 2) + 1 + 1 + 1 + 1 + 1 by omega, show i * 5 + 1 + 1 + 1 + 1 + 1 + 3 = (i * 5 + 3) + 1 + 1 + 1 + 1 + 1 by omega, show i * 5 + 1 + 1 + 1 + 1 + 1 + 4 = (i * 5 + 4) + 1 + 1 + 1 + 1 + 1 by omega]
    simp only [List.getElem?_cons_succ]
    exact ih
def cellsD (l : List Dst) : List Value := l.flatMap fun a => [.string a.f, .string a.t, .int .i64 a.m]
theorem cellsD_at : ∀ (l : List Dst) (i : Nat) (a : Dst), l[i]? = some a → (cellsD l)[i * 3]? = some (.string a.f) ∧ (cellsD l)[i * 3 + 1]? = some (.string a.t) ∧ (cellsD l)[i * 3 + 2]? = some (.int .i64 a.m)
  | [], i, a, h => by simp at h
  | x :: r, 0, a, h => by simp at h; subst h; simp [cellsD]
  | x :: r, i + 1, a, h => by
    have ih := cellsD_at r i a (by simpa using h)
    have e : cellsD (x :: r) = .string x.f :: .string x.t :: .int .i64 x.m :: cellsD r := by simp [cellsD]
    rw [e, show (i + 1) * 3 = i * 3 + 1 + 1 + 1 by omega, show i * 3 + 1 + 1 + 1 + 1 = (i * 3 + 1) + 1 + 1 + 1 by omega, show i * 3 + 1 + 1 + 1 + 2 = (i * 3 + 2) + 1 + 1 + 1 by omega]
    simp only [List.getElem?_cons_succ]
    exact ih
theorem AirL.new (w : World) (l : List Air) (h : ∀ a ∈ l, a.shs = []) : AirL (w.alloc (.cells (cellsA l).toArray airT)) (some ⟨w.heap.size, 0, none⟩) l := by
  refine .inr ⟨w.heap.size, 0, rfl, by simp, fun i a hi => ?_⟩
  obtain ⟨c0, c1, c2, c3, c4⟩ := cellsA_at l i a hi
  refine ⟨?_, ?_, ?_, ?_, ?_, .inl (h a (List.mem_of_getElem? hi))⟩
  all_goals rw [cells_new, List.getElem?_toArray]
  · rw [Nat.zero_add]; exact c0
  · rw [Nat.zero_add]; exact c1
  · rw [Nat.zero_add]; exact c2
  · rw [Nat.zero_add]; exact c3
  · rw [Nat.zero_add]; exact c4
theorem DstL.new (w : World) (l : List Dst) : DstL (w.alloc (.cells (cellsD l).toArray dstT)) (some ⟨w.heap.size, 0, none⟩) l := by
  refine .inr ⟨w.heap.size, 0, rfl, by simp, fun i a hi => ?_⟩
  obtain ⟨c0, c1, c2⟩ := cellsD_at l i a hi
  refine ⟨?_, ?_, ?_⟩
  all_goals rw [cells_new, List.getElem?_toArray]
  · rw [Nat.zero_add]; exact c0
  · rw [Nat.zero_add]; exact c1
  · rw [Nat.zero_add]; exact c2
end Go.Proofs.YtldillnjnjkkgaaGreatDoor

/- Walk of Check of places. -/
namespace Go.Proofs.YtldillnjnjkkgaaGreatDoor
open Go.RowKit Go.Shelf
set_option linter.unusedSimpArgs false
set_option linter.unusedVariables false

theorem chk_nil {p : PV} (h : chkP p = []) : (∀ (k : Nat) (a : Air), p.l[k]? = some a → okE (airE (p.l.take k) a) = []) := by
  intro k a hk
  have h1 : airF p.l p.l.length = [] := (List.append_eq_nil_iff.1 h).1
  unfold airF at h1
  rw [List.flatMap_eq_nil_iff] at h1
  have := h1 k (List.mem_range.2 (List.getElem?_eq_some_iff.1 hk).1)
  rw [hk] at this
  unfold pick at this
  exact List.map_eq_nil_iff.1 this

end Go.Proofs.YtldillnjnjkkgaaGreatDoor

/- Plain facts on flights without violations. -/
namespace Go.Proofs.YtldillnjnjkkgaaGreatDoor
open Go.RowKit Go.Shelf
set_option linter.unusedSimpArgs false
set_option linter.unusedVariables false

/-- places without violations have zones without violations -/
theorem chk_okZ {p : PV} (h : chkP p = []) : ∀ a ∈ p.l, OkZ a.off a.shs := by
  intro a ha
  obtain ⟨k, hk⟩ := List.getElem?_of_mem ha
  have h1 := chk_nil h k a hk
  have h2 := List.filter_eq_nil_iff.1 h1 (errZ a.off a.shs) (by simp [airE])
  exact errZ_ok (by simpa using h2)
theorem chk_few {p : PV} (h : chkP p = []) : ∀ a ∈ p.l, a.shs.length ≤ 300 := fun a ha => Nat.le_trans (chk_okZ h a ha).len (by omega)
/-- without a violation of legs all times are in bounds, and each leg continues those before it -/
theorem lgs_at {l : List Air} {lg : List Lg} (h : lgsF l lg lg.length = []) {k : Nat} {x : Lg} (hk : lg[k]? = some x) : okE (lgEs l (lg.take k) x) = [] := by
  have hlt := (List.getElem?_eq_some_iff.1 hk).1
  unfold lgsF at h
  have h2 := List.flatMap_eq_nil_iff.1 h k (List.mem_range.2 hlt)
  rw [hk] at h2
  simpa [pick] using h2
theorem lgs_times {l : List Air} {lg : List Lg} (h : lgsF l lg lg.length = []) {x : Lg} (hx : x ∈ lg) : (-1000000 ≤ x.dep ∧ x.dep ≤ 1000000) ∧ -1000000 ≤ x.arr ∧ x.arr ≤ 1000000 := by
  obtain ⟨k, hk⟩ := List.getElem?_of_mem hx
  have h3 := lgs_at h hk
  have h4 : (if (!(minB x.dep && minB x.arr)) = true then (2 : Int) else 0) = 0 := by
    have := List.filter_eq_nil_iff.1 h3 (if (!(minB x.dep && minB x.arr)) = true then (2 : Int) else 0) (by simp [lgEs])
    simpa using this
  cases h5 : minB x.dep <;> cases h6 : minB x.arr <;> rw [h5, h6] at h4 <;> simp at h4
  have m1 := min_bd h5
  have m2 := min_bd h6
  omega
end Go.Proofs.YtldillnjnjkkgaaGreatDoor
