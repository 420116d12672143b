/- The law HoldPlays. -/
import Derived.Deep.QuietTactic
import Derived.BigQuiet
import Derived.Test.YthillkbcbklhaaaHldL
import Derived.Test.YthillkbcbklhaaaHldQJ
namespace Go.Proofs.Ythillkbcbklhaaa
open Go.RowKit Go.Shelf Go.Maps Go.MapKept
set_option linter.unusedSimpArgs false
set_option linter.unusedVariables false

theorem but_in {w W W' : World} {X Y : Nat → Prop} (h : But w W X) (h' : But W W' Y) (hy : ∀ k, Y k → X k) : But w W' X := h.both h' (fun _ e => e) hy
/-- what stands between two calls -/
def InvH (w : World) (B mb R k : Nat) (W : World) : Prop := ∃ n hs ks, n ≤ k ∧ PS W B mb R n hs ks ∧ SamH hs ks ∧ hs.length ≤ k ∧ Below w.heap.size w W
theorem InvH.of {w W : World} {B mb R n k : Nat} {T hs ks : List Hd} (h1 : n ≤ k) (h2 : PS W B mb R n hs ks) (h3 : SamH hs T) (h4 : SamH T ks) (h5 : T.length ≤ k) (h6 : Below w.heap.size w W) : InvH w B mb R k W := ⟨n, hs, ks, h1, h2, h3.trans h4, by rw [h3.len]; exact h5, h6⟩
theorem act7 (w : World) (x : Ah) : ∀ j u, (encAh x)[j]? = some u → (w.alloc (.cells #[.int .i64 x.kind, .int .i64 x.n, .int .i64 x.x.id, .slice x.x.A x.x.l.length x.x.c, .string x.x.cls, .int .i64 x.x.cnt, .int .i64 x.x.til] 33)).cell? ⟨w.heap.size, j, none⟩ = some u := by
  intro j u hj
  rw [show #[Value.int .i64 x.kind, .int .i64 x.n, .int .i64 x.x.id, .slice x.x.A x.x.l.length x.x.c, .string x.x.cls, .int .i64 x.x.cnt, .int .i64 x.x.til] = (encAh x).toArray from rfl, cells_new, List.getElem?_toArray]
  exact hj
set_option maxRecDepth 100000 in
set_option maxHeartbeats 16000000 in
theorem holdPlays_walk (A : Option Addr) (c : Nat) (l : List Ah) (w : World) (hl64 : l.length < 9223372036854775808) (hL : RowL 7 encAh w (.slice A l.length c) l) (hrd : ∀ x ∈ l, RdH w x.x ∧ -9223372036854775808 ≤ x.n ∧ x.n ≤ 9223372036854775807) :
    Calls Try.prog 3 #[.slice A l.length c] w fun e w' => e = .returned (.bool true) ∧ Below w.heap.size w w' := by
  have KA := Lib.hid awake16_any
  have KN := Lib.hid new_any
  have KB := Lib.hid (big16_any A c l w hl64 hL (fun x hx => (hrd x hx).1))
  have HL := Lib.hid hL
  have HRD := Lib.hid hrd
  clear hL hrd
  unfold BigR at KB
  go_enter Try.func3, Try.ntmps3
  go_upto_if 13 with (go_at_call 7; (with_reducible refine (KB.out).mono ?_); rintro e w1 ⟨b, rfl, hb1, hbb⟩)
  cases b with
  | true =>
    clear hbb
    go_wp2_with (go_at_call 8; (with_reducible refine (KA.out _).mono ?_); rintro e wd ⟨rfl, hbd⟩)
    go_ret
    exact ⟨rfl, hb1.trans (hbd.mono hb1.size)⟩
  | false =>
    obtain ⟨hl40, hsm⟩ := hbb rfl
    have HB1 := Lib.hid hb1
    have HSM := Lib.hid hsm
    clear hbb hsm hb1 KB
    go_upto_region 4 with (first
      | (go_at_call 10; (with_reducible refine (HN2.out).mono ?_); rintro e w3 ⟨rfl, hP3, hb3⟩)
      | (go_at_call 9; (with_reducible refine (KN.out _).mono ?_); rintro e w2 ⟨B, mb, rfl, hS2, hB2, hm2, hm3, hb2⟩; have HN2 := Lib.hid (new_ps w _ hS2)))
    have HW3 : Hid (Below w.heap.size w w3 ∧ w.heap.size ≤ mb ∧ w.heap.size ≤ w2.heap.size) := Lib.hid (by
      have h1 := HB1.out
      have h2 := h1.trans (hb2.mono h1.size)
      exact ⟨h2.trans (hb3.mono h2.size), Nat.le_trans h1.size hm2, h2.size⟩)
    have HP3 := Lib.hid hP3
    generalize w2.heap.size = R at *
    clear hP3 hb3 HN2 hb2 hm3 hm2 hB2 hS2 HB1
    go_wp2
    go_loopw [5] (fun vi wr => ∃ k : Nat, k ≤ l.length ∧ vi = .int .i64 k ∧ Hid (InvH w B mb R k wr)) (fun vi _ => l.length - (intOf vi).toNat)
    case atStart => exact ⟨0, Nat.zero_le _, rfl, Lib.hid ⟨0, [], [], Nat.le_refl _, HP3.out, SamH.nil, Nat.le_refl _, HW3.out.1⟩⟩
    case round =>
      obtain ⟨k, hk, rfl, HI⟩ := hrel
      by_cases hlt : k < l.length
      · obtain ⟨x, hx⟩ : ∃ x, l[k]? = some x := ⟨_, List.getElem?_eq_getElem hlt⟩
        obtain ⟨n, hs, ks, hn, hP, hsam, hln, hbw⟩ := HI.out
        obtain ⟨b, o, rfl, _, hc⟩ := row_get (RowL.more HL.out hbw) hx
        have x0 := hc 0 _ rfl
        have x1 := hc 1 _ rfl
        have x2 := hc 2 _ rfl
        have x3 := hc 3 _ rfl
        have x4 := hc 4 _ rfl
        have x5 := hc 5 _ rfl
        have x6 := hc 6 _ rfl
        rw [Nat.add_zero] at x0
        have i1 : (0 : Int) ≤ (k : Int) := by omega
        have i2 : (k : Int) < (l.length : Int) := by omega
        have wr1 : IntKind.i64.wrap ((k : Int) + 1) = (k : Int) + 1 := IntWalk.i64_in _ (by omega)
        have hxm := List.mem_of_getElem? hx
        have HXO := Lib.hid (HRD.out x hxm)
        have HXS := Lib.hid (HSM.out x hxm)
        have hba := bel_alloc wr (.cells #[.int .i64 x.kind, .int .i64 x.n, .int .i64 x.x.id, .slice x.x.A x.x.l.length x.x.c, .string x.x.cls, .int .i64 x.x.cnt, .int .i64 x.x.til] 33)
        have HXL0 := Lib.hid ((rowIn_of HXO.out.1.row).more (hbw.trans (hba.mono hbw.size)))
        have HP := Lib.hid (hP.more hba)
        have HSA := Lib.hid hsam
        have HBW := Lib.hid (hbw.trans (hba.mono hbw.size))
        have f0 := act7 wr x 0 _ rfl
        have f1 := act7 wr x 1 _ rfl
        have f2 := act7 wr x 2 _ rfl
        have f3 := act7 wr x 3 _ rfl
        have f4 := act7 wr x 4 _ rfl
        have f5 := act7 wr x 5 _ rfl
        have f6 := act7 wr x 6 _ rfl
        have hmbs : wr.heap.size ≠ mb := fun e => by have := hP.p.map.lt; omega
        have hRs : wr.heap.size ≠ R := fun e => by obtain ⟨_, _, h⟩ := hP.r; have := h.lt; omega
        clear hc hx hP hsam hbw HI hba hxm
        go_upto_region 8 with fail
        generalize wr.alloc (.cells #[.int .i64 x.kind, .int .i64 x.n, .int .i64 x.x.id, .slice x.x.A x.x.l.length x.x.c, .string x.x.cls, .int .i64 x.x.cnt, .int .i64 x.x.til] 33) = w5 at *
        generalize wr.heap.size = N5 at *
        clear x0 x1 x2 x3 x4 x5 x6
        have HXL : Hid (∀ W, But w5 W (fun t => t = mb ∨ t = R) → RowIn (fun t => t < w.heap.size) 4 encD W x.x.A x.x.l) := Lib.hid (fun W h => HXL0.out.but h (fun t ht e => by have := HW3.out; omega))
        have HC : Hid (∀ W, But w5 W (fun t => t = mb ∨ t = R) → ∀ a u, w5.cell? ⟨N5, a, none⟩ = some u → W.cell? ⟨N5, a, none⟩ = some u) := Lib.hid (fun W h a u hu => but_cell h hu (fun e => e.elim hmbs hRs))
        have HBB : Hid (∀ W, But w5 W (fun t => t = mb ∨ t = R) → Below w.heap.size w W) := Lib.hid (fun W h => HBW.out.trans (h.below HBW.out.size (fun t ht e => by have := HW3.out; omega)))
        have hkl : ks.length ≤ 999 := by have := HSA.out.len; omega
        have hn1 : n ≤ 1000 := by omega
        by_cases e0 : x.kind = 0
        · have d0 : (x.kind == (0 : Int)) = true := beq_iff_eq.2 e0
          clear e0
          have HOK := Lib.hid (HXO.out.1.ok HXS.out)
          have HTL : Hid ((putG hs x.x).length ≤ k + 1) := Lib.hid (by have := put_len x.x hs; omega)
          have KP : Hid (∀ W ks', PS W B mb R n hs ks' → But w5 W (fun t => t = mb ∨ t = R) → Calls Try.prog 11 #[.pointer (some ⟨B, 0, none⟩), aggH x.x] W fun e w' => e = .returned (.int .i64 (putE hs x.x)) ∧ PP w' B mb R (n + 1) (putG hs x.x) ks' ∧ But W w' (fun t => t = mb)) := Lib.hid (fun W ks' h hs => put_ps h (by omega) x.x HOK.out ((HXL.out W hs).imp (fun t ht e => by have := HW3.out; omega)))
          have KQ : Hid (∀ W n' hs', PS W B mb R n' hs' ks → But w5 W (fun t => t = mb ∨ t = R) → Calls Try.prog 12 #[.pointer (some ⟨R, 0, none⟩), aggH x.x] W fun e w' => e = .returned (.int .i64 (putE hs x.x)) ∧ PQ w' B mb R n' hs' (putG hs x.x) ∧ But W w' (fun t => t = R)) := Lib.hid (fun W n' hs' h hs => rput_ps h HSA.out hkl x.x HOK.out ((HXL.out W hs).imp (fun t ht e => by have := HW3.out; omega)))
          have hP := HP.out.more ((Below.refl w5.heap.size w5).drew)
          generalize putG hs x.x = T at *
          generalize putE hs x.x = E at *
          have F2 := fun W (h : But w5 W (fun t => t = mb ∨ t = R)) => HC.out W h 2 _ f2
          have F3 := fun W (h : But w5 W (fun t => t = mb ∨ t = R)) => HC.out W h 3 _ f3
          have F4 := fun W (h : But w5 W (fun t => t = mb ∨ t = R)) => HC.out W h 4 _ f4
          have F5 := fun W (h : But w5 W (fun t => t = mb ∨ t = R)) => HC.out W h 5 _ f5
          have F6 := fun W (h : But w5 W (fun t => t = mb ∨ t = R)) => HC.out W h 6 _ f6
          go_upto_region 11 with fail
          clear f0 f1 f2 f3 f4 f5 f6
          refine (fun (hh : Hid (∀ W, InvH w B mb R (k + 1) W → (?G11 : World → Prop) W)) => ?walk11) (Lib.hid ?rest11)
          case walk11 =>
            have hS : (fun W => But w5 W (fun t => t = mb ∨ t = R)) _ := Below.but _ ((Below.refl _ _).drew)
            refine wp_region_held_drew (S := fun W => But w5 W (fun t => t = mb ∨ t = R)) (by kernel_rfl) hS (fun _ => ?_)
            refine wpAnyH_take (i := 0) (v := ?vZ1) rfl (by kernel_rfl) (by kernel_rfl) (by kernel_rfl) (fun _ _ _ h => h) (Or.inl ⟨by rfl, ?hyZ1⟩) hS ?restZ1
            case hyZ1 =>
              intro w hSw
              first | (go_simp; done) | (go_simp; with_reducible rfl)
            try simp only [Act.put, List.setIfInBounds_toArray, List.set_cons_zero, List.set_cons_succ]
            refine wpAnyH_take (i := 1) (v := ?vZ2) rfl (by kernel_rfl) (by kernel_rfl) (by kernel_rfl) (fun _ _ _ h => h) (Or.inl ⟨by rfl, ?hyZ2⟩) hS ?restZ2
            case hyZ2 =>
              intro w hSw
              first | (go_simp; done) | (go_simp; with_reducible rfl)
            try simp only [Act.put, List.setIfInBounds_toArray, List.set_cons_zero, List.set_cons_succ]
            refine wpAnyH_take (i := 2) (v := ?vZ3) rfl (by kernel_rfl) (by kernel_rfl) (by kernel_rfl) (fun _ _ _ h => h) (Or.inl ⟨by rfl, ?hyZ3⟩) hS ?restZ3
            case hyZ3 =>
              intro w hSw
              have k0 := F2 w hSw; have k1 := F3 w hSw; have k2 := F4 w hSw; have k3 := F5 w hSw; have k4 := F6 w hSw
              first | (go_simp; done) | (go_simp; with_reducible rfl)
            try simp only [Act.put, List.setIfInBounds_toArray, List.set_cons_zero, List.set_cons_succ]
            refine wpAnyH_take (i := 4) (v := ?vZ4) rfl (by kernel_rfl) (by kernel_rfl) (by kernel_rfl) (fun _ _ _ h => h) (Or.inl ⟨by rfl, ?hyZ4⟩) hS ?restZ4
            case hyZ4 =>
              intro w hSw
              first | (go_simp; done) | (go_simp; with_reducible rfl)
            try simp only [Act.put, List.setIfInBounds_toArray, List.set_cons_zero, List.set_cons_succ]
            refine wpAnyH_take (i := 5) (v := ?vZ5) rfl (by kernel_rfl) (by kernel_rfl) (by kernel_rfl) (fun _ _ _ h => h) (Or.inl ⟨by rfl, ?hyZ5⟩) hS ?restZ5
            case hyZ5 =>
              intro w hSw
              first | (go_simp; done) | (go_simp; with_reducible rfl)
            try simp only [Act.put, List.setIfInBounds_toArray, List.set_cons_zero, List.set_cons_succ]
            refine wpAnyH_take (i := 6) (v := ?vZ6) rfl (by kernel_rfl) (by kernel_rfl) (by kernel_rfl) (fun _ _ _ h => h) (Or.inl ⟨by rfl, ?hyZ6⟩) hS ?restZ6
            case hyZ6 =>
              intro w hSw
              have k0 := F2 w hSw; have k1 := F3 w hSw; have k2 := F4 w hSw; have k3 := F5 w hSw; have k4 := F6 w hSw
              first | (go_simp; done) | (go_simp; with_reducible rfl)
            try simp only [Act.put, List.setIfInBounds_toArray, List.set_cons_zero, List.set_cons_succ]
            refine wpAnyH_ready (rs := [3]) (by kernel_rfl) (by simp) ?_
            refine AllReadyH.cons rfl (fun K hK => ?_) AllReadyH.nil
            go_simp
            go_wp2_with (go_at_call 11; (with_reducible refine (KP.out _ _ hP hS).mono ?_); rintro e w6 ⟨rfl, hp6, hb6⟩)
            obtain ⟨hs6, hP6, hsm6⟩ := hp6
            have hS : But w5 w6 (fun t => t = mb ∨ t = R) := but_in hS hb6 (fun _ e => .inl e)
            have hP := hP6
            refine hK.out _ _ hS (fun _ => ?_)
            clear hK K
            refine wpAnyH_ready (rs := [7]) (by kernel_rfl) (by simp) ?_
            refine AllReadyH.cons rfl (fun K hK => ?_) AllReadyH.nil
            go_simp
            go_wp2_with (go_at_call 12; (with_reducible refine (KQ.out _ _ _ hP hS).mono ?_); rintro e w7 ⟨rfl, hp7, hb7⟩)
            obtain ⟨ks7, hP7, hsm7⟩ := hp7
            have hS : But w5 w7 (fun t => t = mb ∨ t = R) := but_in hS hb7 (fun _ e => .inr e)
            have hP := hP7
            refine hK.out _ _ hS (fun _ => ?_)
            clear hK K
            refine wpAnyH_take (i := 8) (v := ?vZ7) rfl (by kernel_rfl) (by kernel_rfl) (by kernel_rfl) (fun _ _ _ h => h) (Or.inl ⟨by rfl, ?hyZ7⟩) hS ?restZ7
            case hyZ7 =>
              intro w hSw
              first | (go_simp; done) | (go_simp; with_reducible rfl)
            try simp only [Act.put, List.setIfInBounds_toArray, List.set_cons_zero, List.set_cons_succ]
            refine wpAnyH_take (i := 9) (v := ?vZ8) rfl (by kernel_rfl) (by kernel_rfl) (by kernel_rfl) (fun _ _ _ h => h) (Or.inl ⟨by rfl, ?hyZ8⟩) hS ?restZ8
            case hyZ8 =>
              intro w hSw
              first | (go_simp; done) | (go_simp; with_reducible rfl)
            try simp only [Act.put, List.setIfInBounds_toArray, List.set_cons_zero, List.set_cons_succ]
            refine wpAnyH_done (by kernel_rfl) ?_ _
            have hI : InvH w B mb R (k + 1) w7 := InvH.of (by omega) hP hsm6 hsm7 HTL.out (HBB.out _ hS)
            exact hh.out w7 hI
          case rest11 =>
            intro W hI
            have HIN := Lib.hid hI
            go_upto_region 23 with fail
            obtain ⟨n9, hs9, ks9, hn9, hP9, hsm9, hl9, hb9⟩ := HIN.out
            have KAL := Lib.hid (all_ps hP9 (by omega))
            have HSM9 := Lib.hid hsm9
            have HB9 := Lib.hid hb9
            have HL9 := Lib.hid hl9
            clear hP9 hsm9 hb9 HIN hl9
            go_wp2_with (first
              | (go_at_call 18; (with_reducible refine (KSS.out).mono ?_); rintro e w9 ⟨rfl, hb9⟩)
              | (go_at_call 24; (with_reducible refine (KRL.out).mono ?_); rintro e w8 ⟨⟨A8, c8, rfl, hg8⟩, rfl⟩; have KSS := Lib.hid (same_go (c := c7) (c' := c8) HG7.out hg8 (HZS.out.trans HSM9.out) HZ40.out); clear hg8)
              | (go_at_call 23; (with_reducible refine (KAL.out).mono ?_); rintro e w7 ⟨⟨A7, c7, zs, rfl, hg7, hz7⟩, hP7, hb7⟩; have KRL := Lib.hid (rall_ps hP7); have HP7 := Lib.hid hP7; have HB7 := Lib.hid hb7; have HG7 := Lib.hid hg7; have HZS := Lib.hid hz7; have HZ40 : Hid (zs.length ≤ 1000) := Lib.hid (by have := hz7.len; have := HL9.out; omega); clear hP7 hb7 hg7 hz7))
            have HE : Hid (InvH w B mb R (k + 1) w9) := Lib.hid ⟨n9, hs9, ks9, hn9, HP7.out.more hb9, HSM9.out, HL9.out, (HB9.out.trans (HB7.out.mono HB9.out.size)).trans (hb9.mono (HB9.out.trans (HB7.out.mono HB9.out.size)).size)⟩
            clear hb9
            go_roundw
            case rel => exact ⟨k + 1, by omega, by go_num, HE⟩
            case measure => simp [intOf]; omega
        · have d0 : (x.kind == (0 : Int)) = false := beq_eq_false_iff_ne.2 e0
          clear e0
          by_cases e1 : x.kind = 1
          · have d1 : (x.kind == (1 : Int)) = true := beq_iff_eq.2 e1
            clear e1
            have KD := drop_ps HP.out x.n HXO.out.2
            have KQ : ∀ W n' hs', PS W B mb R n' hs' ks → _ := fun W n' hs' h => rdrop_ps (B := B) (mb := mb) (n := n') (hs0 := hs') h HSA.out hkl x.n
            have HTL : Hid ((dropH hs x.n).length ≤ k + 1) := Lib.hid (by have := drop_len x.n hs; omega)
            generalize (findH hs x.n).getD zHd = X at *
            generalize (findH ks x.n).getD zHd = Y at *
            generalize dropE hs x.n = E at *
            generalize dropH hs x.n = T at *
            have KDH := Lib.hid KD
            have KQH := Lib.hid KQ
            have F1 := f1
            clear f2 f3 f4 f5 f6 KD KQ
            go_upto_region 14 with (go_at_call 13; (with_reducible refine KDH.out.mono ?_); rintro e w6 ⟨rfl, hp6, hg6, hb6⟩)
            obtain ⟨hs6, hP6, hsm6⟩ := hp6
            have hbX := bel_alloc w6 (.cells #[.int .i64 X.id, .slice X.A X.l.length X.c, .string X.cls, .int .i64 X.cnt, .int .i64 X.til] hdT)
            have hS6 := but_in (But.refl w5 (fun t => t = mb ∨ t = R)) hb6 (fun _ e => .inl e)
            have F1 := bel_cell hbX (HC.out w6 hS6 1 _ F1)
            clear f0 f1
            have q0 := hd_cells w6 X 0 _ rfl
            have q1 := hd_cells w6 X 1 _ rfl
            have q2 := hd_cells w6 X 2 _ rfl
            have q3 := hd_cells w6 X 3 _ rfl
            have q4 := hd_cells w6 X 4 _ rfl
            have hP7 := Lib.hid (hP6.more hbX)
            have hX7 := Lib.hid (hg6.2.more hbX)
            have hX8 := Lib.hid hg6.1
            have hB7 := Lib.hid ((HBB.out w6 hS6).trans (hbX.mono (HBB.out w6 hS6).size))
            have hN6 : w6.heap.size ≠ R := fun e => by obtain ⟨_, _, h⟩ := hP6.r; have := h.lt; omega
            have HS6 := Lib.hid hsm6
            clear hP6 hg6 hb6 hbX hS6 hsm6
            generalize w6.alloc (.cells #[.int .i64 X.id, .slice X.A X.l.length X.c, .string X.cls, .int .i64 X.cnt, .int .i64 X.til] hdT) = w7 at *
            generalize w6.heap.size = N6 at *
            have KQ7 := Lib.hid (KQH.out w7 _ _ hP7.out)
            have HQ : Hid (∀ W, But w7 W (fun t => t = R) → ∀ a u, w7.cell? ⟨N6, a, none⟩ = some u → W.cell? ⟨N6, a, none⟩ = some u) := Lib.hid (fun W h a u hu => but_cell h hu hN6)
            go_upto_region 15 with (go_at_call 14; (with_reducible refine KQ7.out.mono ?_); rintro e w8 ⟨rfl, hp8, hg8, hce, hb8⟩)
            obtain ⟨ks8, hP8, hsm8⟩ := hp8
            have hbY := bel_alloc w8 (.cells #[.int .i64 Y.id, .slice Y.A Y.l.length Y.c, .string Y.cls, .int .i64 Y.cnt, .int .i64 Y.til] 31)
            have q0 := bel_cell hbY (HQ.out w8 hb8 0 _ q0)
            have q1 := bel_cell hbY (HQ.out w8 hb8 1 _ q1)
            have q2 := bel_cell hbY (HQ.out w8 hb8 2 _ q2)
            have q3 := bel_cell hbY (HQ.out w8 hb8 3 _ q3)
            have q4 := bel_cell hbY (HQ.out w8 hb8 4 _ q4)
            have r0 := hdr_cells w8 Y 0 _ rfl
            have r1 := hdr_cells w8 Y 1 _ rfl
            have r2 := hdr_cells w8 Y 2 _ rfl
            have r3 := hdr_cells w8 Y 3 _ rfl
            have r4 := hdr_cells w8 Y 4 _ rfl
            have hB8 : Below w.heap.size w w8 := hB7.out.trans (hb8.below hB7.out.size (fun t ht e => by have := HW3.out; omega))
            have HB9 := Lib.hid (hB8.trans (hbY.mono hB8.size))
            have HP9 := Lib.hid (hP8.more hbY)
            have hsame := same_any X Y (w8.alloc (.cells #[.int .i64 Y.id, .slice Y.A Y.l.length Y.c, .string Y.cls, .int .i64 Y.cnt, .int .i64 Y.til] 31)) hX8.out hg8.1 (((hP7.out.rowR hb8 encD_hd encD_ne hX7.out).more hbY).rowL X.c) ((hg8.2.more hbY).rowL Y.c)
            rw [eqH_con hce] at hsame
            have KSX := Lib.hid hsame
            have HS8 := Lib.hid hsm8
            clear hP8 hg8 hce hb8 hbY hB8 hsame hsm8
            generalize w8.alloc (.cells #[.int .i64 Y.id, .slice Y.A Y.l.length Y.c, .string Y.cls, .int .i64 Y.cnt, .int .i64 Y.til] 31) = w9 at *
            generalize w8.heap.size = N8 at *
            go_upto_region 23 with (go_at_call 15; (with_reducible refine KSX.out.mono ?_); rintro e w10 ⟨rfl, hb10⟩)
            have HIN : Hid (InvH w B mb R (k + 1) w10) := Lib.hid (InvH.of (by omega) (HP9.out.more hb10) HS6.out HS8.out HTL.out (HB9.out.trans (hb10.mono HB9.out.size)))
            clear hb10
            obtain ⟨n9, hs9, ks9, hn9, hP9, hsm9, hl9, hb9⟩ := HIN.out
            have KAL := Lib.hid (all_ps hP9 (by omega))
            have HSM9 := Lib.hid hsm9
            have HB9 := Lib.hid hb9
            have HL9 := Lib.hid hl9
            clear hP9 hsm9 hb9 HIN hl9
            go_wp2_with (first
              | (go_at_call 18; (with_reducible refine (KSS.out).mono ?_); rintro e w9 ⟨rfl, hb9⟩)
              | (go_at_call 24; (with_reducible refine (KRL.out).mono ?_); rintro e w8 ⟨⟨A8, c8, rfl, hg8⟩, rfl⟩; have KSS := Lib.hid (same_go (c := c7) (c' := c8) HG7.out hg8 (HZS.out.trans HSM9.out) HZ40.out); clear hg8)
              | (go_at_call 23; (with_reducible refine (KAL.out).mono ?_); rintro e w7 ⟨⟨A7, c7, zs, rfl, hg7, hz7⟩, hP7, hb7⟩; have KRL := Lib.hid (rall_ps hP7); have HP7 := Lib.hid hP7; have HB7 := Lib.hid hb7; have HG7 := Lib.hid hg7; have HZS := Lib.hid hz7; have HZ40 : Hid (zs.length ≤ 1000) := Lib.hid (by have := hz7.len; have := HL9.out; omega); clear hP7 hb7 hg7 hz7))
            have HE : Hid (InvH w B mb R (k + 1) w9) := Lib.hid ⟨n9, hs9, ks9, hn9, HP7.out.more hb9, HSM9.out, HL9.out, (HB9.out.trans (HB7.out.mono HB9.out.size)).trans (hb9.mono (HB9.out.trans (HB7.out.mono HB9.out.size)).size)⟩
            clear hb9
            go_roundw
            case rel => exact ⟨k + 1, by omega, by go_num, HE⟩
            case measure => simp [intOf]; omega
          · have d1 : (x.kind == (1 : Int)) = false := beq_eq_false_iff_ne.2 e1
            clear e1
            by_cases e2 : x.kind = 2
            · have d2 : (x.kind == (2 : Int)) = true := beq_iff_eq.2 e2
              clear e2
              have HTL : Hid ((extG hs x.n x.x.til).length ≤ k + 1) := Lib.hid (by have := ext_len x.n x.x.til hs; omega)
              have KP : Hid (∀ W ks', PS W B mb R n hs ks' → But w5 W (fun t => t = mb ∨ t = R) → Calls Try.prog 16 #[.pointer (some ⟨B, 0, none⟩), .int .i64 x.n, .int .i64 x.x.til] W fun e w' => e = .returned (.int .i64 (extE hs x.n x.x.til)) ∧ PP w' B mb R (n + 1) (extG hs x.n x.x.til) ks' ∧ But W w' (fun t => t = mb)) := Lib.hid (fun W ks' h hs => ext_ps h (by omega) x.n x.x.til HXO.out.2)
              have KQ : Hid (∀ W n' hs', PS W B mb R n' hs' ks → But w5 W (fun t => t = mb ∨ t = R) → Calls Try.prog 17 #[.pointer (some ⟨R, 0, none⟩), .int .i64 x.n, .int .i64 x.x.til] W fun e w' => e = .returned (.int .i64 (extE hs x.n x.x.til)) ∧ PQ w' B mb R n' hs' (extG hs x.n x.x.til) ∧ But W w' (fun t => t = R)) := Lib.hid (fun W n' hs' h hs => rext_ps h HSA.out hkl x.n x.x.til HXO.out.1.til)
              have hP := HP.out.more ((Below.refl w5.heap.size w5).drew)
              generalize extG hs x.n x.x.til = T at *
              generalize extE hs x.n x.x.til = E at *
              have F1 := fun W (h : But w5 W (fun t => t = mb ∨ t = R)) => HC.out W h 1 _ f1
              have F6 := fun W (h : But w5 W (fun t => t = mb ∨ t = R)) => HC.out W h 6 _ f6
              go_upto_region 17 with fail
              clear f0 f1 f2 f3 f4 f5 f6
              refine (fun (hh : Hid (∀ W, InvH w B mb R (k + 1) W → (?G17 : World → Prop) W)) => ?walk17) (Lib.hid ?rest17)
              case walk17 =>
                have hS : (fun W => But w5 W (fun t => t = mb ∨ t = R)) _ := Below.but _ ((Below.refl _ _).drew)
                refine wp_region_held_drew (S := fun W => But w5 W (fun t => t = mb ∨ t = R)) (by kernel_rfl) hS (fun _ => ?_)
                refine wpAnyH_take (i := 0) (v := ?vY1) rfl (by kernel_rfl) (by kernel_rfl) (by kernel_rfl) (fun _ _ _ h => h) (Or.inl ⟨by rfl, ?hyY1⟩) hS ?restY1
                case hyY1 =>
                  intro w hSw
                  first | (go_simp; done) | (go_simp; with_reducible rfl)
                try simp only [Act.put, List.setIfInBounds_toArray, List.set_cons_zero, List.set_cons_succ]
                refine wpAnyH_take (i := 1) (v := ?vY2) rfl (by kernel_rfl) (by kernel_rfl) (by kernel_rfl) (fun _ _ _ h => h) (Or.inl ⟨by rfl, ?hyY2⟩) hS ?restY2
                case hyY2 =>
                  intro w hSw
                  first | (go_simp; done) | (go_simp; with_reducible rfl)
                try simp only [Act.put, List.setIfInBounds_toArray, List.set_cons_zero, List.set_cons_succ]
                refine wpAnyH_take (i := 2) (v := ?vY3) rfl (by kernel_rfl) (by kernel_rfl) (by kernel_rfl) (fun _ _ _ h => h) (Or.inl ⟨by rfl, ?hyY3⟩) hS ?restY3
                case hyY3 =>
                  intro w hSw
                  have k0 := F1 w hSw; have k1 := F6 w hSw
                  first | (go_simp; done) | (go_simp; with_reducible rfl)
                try simp only [Act.put, List.setIfInBounds_toArray, List.set_cons_zero, List.set_cons_succ]
                refine wpAnyH_take (i := 3) (v := ?vY4) rfl (by kernel_rfl) (by kernel_rfl) (by kernel_rfl) (fun _ _ _ h => h) (Or.inl ⟨by rfl, ?hyY4⟩) hS ?restY4
                case hyY4 =>
                  intro w hSw
                  first | (go_simp; done) | (go_simp; with_reducible rfl)
                try simp only [Act.put, List.setIfInBounds_toArray, List.set_cons_zero, List.set_cons_succ]
                refine wpAnyH_take (i := 4) (v := ?vY5) rfl (by kernel_rfl) (by kernel_rfl) (by kernel_rfl) (fun _ _ _ h => h) (Or.inl ⟨by rfl, ?hyY5⟩) hS ?restY5
                case hyY5 =>
                  intro w hSw
                  first | (go_simp; done) | (go_simp; with_reducible rfl)
                try simp only [Act.put, List.setIfInBounds_toArray, List.set_cons_zero, List.set_cons_succ]
                refine wpAnyH_take (i := 5) (v := ?vY6) rfl (by kernel_rfl) (by kernel_rfl) (by kernel_rfl) (fun _ _ _ h => h) (Or.inl ⟨by rfl, ?hyY6⟩) hS ?restY6
                case hyY6 =>
                  intro w hSw
                  have k0 := F1 w hSw; have k1 := F6 w hSw
                  first | (go_simp; done) | (go_simp; with_reducible rfl)
                try simp only [Act.put, List.setIfInBounds_toArray, List.set_cons_zero, List.set_cons_succ]
                refine wpAnyH_take (i := 7) (v := ?vY7) rfl (by kernel_rfl) (by kernel_rfl) (by kernel_rfl) (fun _ _ _ h => h) (Or.inl ⟨by rfl, ?hyY7⟩) hS ?restY7
                case hyY7 =>
                  intro w hSw
                  first | (go_simp; done) | (go_simp; with_reducible rfl)
                try simp only [Act.put, List.setIfInBounds_toArray, List.set_cons_zero, List.set_cons_succ]
                refine wpAnyH_take (i := 8) (v := ?vY8) rfl (by kernel_rfl) (by kernel_rfl) (by kernel_rfl) (fun _ _ _ h => h) (Or.inl ⟨by rfl, ?hyY8⟩) hS ?restY8
                case hyY8 =>
                  intro w hSw
                  first | (go_simp; done) | (go_simp; with_reducible rfl)
                try simp only [Act.put, List.setIfInBounds_toArray, List.set_cons_zero, List.set_cons_succ]
                refine wpAnyH_take (i := 9) (v := ?vY9) rfl (by kernel_rfl) (by kernel_rfl) (by kernel_rfl) (fun _ _ _ h => h) (Or.inl ⟨by rfl, ?hyY9⟩) hS ?restY9
                case hyY9 =>
                  intro w hSw
                  have k0 := F1 w hSw; have k1 := F6 w hSw
                  first | (go_simp; done) | (go_simp; with_reducible rfl)
                try simp only [Act.put, List.setIfInBounds_toArray, List.set_cons_zero, List.set_cons_succ]
                refine wpAnyH_take (i := 10) (v := ?vY10) rfl (by kernel_rfl) (by kernel_rfl) (by kernel_rfl) (fun _ _ _ h => h) (Or.inl ⟨by rfl, ?hyY10⟩) hS ?restY10
                case hyY10 =>
                  intro w hSw
                  first | (go_simp; done) | (go_simp; with_reducible rfl)
                try simp only [Act.put, List.setIfInBounds_toArray, List.set_cons_zero, List.set_cons_succ]
                refine wpAnyH_take (i := 11) (v := ?vY11) rfl (by kernel_rfl) (by kernel_rfl) (by kernel_rfl) (fun _ _ _ h => h) (Or.inl ⟨by rfl, ?hyY11⟩) hS ?restY11
                case hyY11 =>
                  intro w hSw
                  first | (go_simp; done) | (go_simp; with_reducible rfl)
                try simp only [Act.put, List.setIfInBounds_toArray, List.set_cons_zero, List.set_cons_succ]
                refine wpAnyH_take (i := 12) (v := ?vY12) rfl (by kernel_rfl) (by kernel_rfl) (by kernel_rfl) (fun _ _ _ h => h) (Or.inl ⟨by rfl, ?hyY12⟩) hS ?restY12
                case hyY12 =>
                  intro w hSw
                  have k0 := F1 w hSw; have k1 := F6 w hSw
                  first | (go_simp; done) | (go_simp; with_reducible rfl)
                try simp only [Act.put, List.setIfInBounds_toArray, List.set_cons_zero, List.set_cons_succ]
                refine wpAnyH_ready (rs := [6]) (by kernel_rfl) (by simp) ?_
                refine AllReadyH.cons rfl (fun K hK => ?_) AllReadyH.nil
                go_simp
                go_wp2_with (go_at_call 16; (with_reducible refine (KP.out _ _ hP hS).mono ?_); rintro e w6 ⟨rfl, hp6, hb6⟩)
                obtain ⟨hs6, hP6, hsm6⟩ := hp6
                have hS : But w5 w6 (fun t => t = mb ∨ t = R) := but_in hS hb6 (fun _ e => .inl e)
                have hP := hP6
                refine hK.out _ _ hS (fun _ => ?_)
                clear hK K
                refine wpAnyH_ready (rs := [13]) (by kernel_rfl) (by simp) ?_
                refine AllReadyH.cons rfl (fun K hK => ?_) AllReadyH.nil
                go_simp
                go_wp2_with (go_at_call 17; (with_reducible refine (KQ.out _ _ _ hP hS).mono ?_); rintro e w7 ⟨rfl, hp7, hb7⟩)
                obtain ⟨ks7, hP7, hsm7⟩ := hp7
                have hS : But w5 w7 (fun t => t = mb ∨ t = R) := but_in hS hb7 (fun _ e => .inr e)
                have hP := hP7
                refine hK.out _ _ hS (fun _ => ?_)
                clear hK K
                refine wpAnyH_take (i := 14) (v := ?vY13) rfl (by kernel_rfl) (by kernel_rfl) (by kernel_rfl) (fun _ _ _ h => h) (Or.inl ⟨by rfl, ?hyY13⟩) hS ?restY13
                case hyY13 =>
                  intro w hSw
                  first | (go_simp; done) | (go_simp; with_reducible rfl)
                try simp only [Act.put, List.setIfInBounds_toArray, List.set_cons_zero, List.set_cons_succ]
                refine wpAnyH_take (i := 15) (v := ?vY14) rfl (by kernel_rfl) (by kernel_rfl) (by kernel_rfl) (fun _ _ _ h => h) (Or.inl ⟨by rfl, ?hyY14⟩) hS ?restY14
                case hyY14 =>
                  intro w hSw
                  first | (go_simp; done) | (go_simp; with_reducible rfl)
                try simp only [Act.put, List.setIfInBounds_toArray, List.set_cons_zero, List.set_cons_succ]
                refine wpAnyH_done (by kernel_rfl) ?_ _
                have hI : InvH w B mb R (k + 1) w7 := InvH.of (by omega) hP hsm6 hsm7 HTL.out (HBB.out _ hS)
                exact hh.out w7 hI
              case rest17 =>
                intro W hI
                have HIN := Lib.hid hI
                go_upto_region 23 with fail
                obtain ⟨n9, hs9, ks9, hn9, hP9, hsm9, hl9, hb9⟩ := HIN.out
                have KAL := Lib.hid (all_ps hP9 (by omega))
                have HSM9 := Lib.hid hsm9
                have HB9 := Lib.hid hb9
                have HL9 := Lib.hid hl9
                clear hP9 hsm9 hb9 HIN hl9
                go_wp2_with (first
                  | (go_at_call 18; (with_reducible refine (KSS.out).mono ?_); rintro e w9 ⟨rfl, hb9⟩)
                  | (go_at_call 24; (with_reducible refine (KRL.out).mono ?_); rintro e w8 ⟨⟨A8, c8, rfl, hg8⟩, rfl⟩; have KSS := Lib.hid (same_go (c := c7) (c' := c8) HG7.out hg8 (HZS.out.trans HSM9.out) HZ40.out); clear hg8)
                  | (go_at_call 23; (with_reducible refine (KAL.out).mono ?_); rintro e w7 ⟨⟨A7, c7, zs, rfl, hg7, hz7⟩, hP7, hb7⟩; have KRL := Lib.hid (rall_ps hP7); have HP7 := Lib.hid hP7; have HB7 := Lib.hid hb7; have HG7 := Lib.hid hg7; have HZS := Lib.hid hz7; have HZ40 : Hid (zs.length ≤ 1000) := Lib.hid (by have := hz7.len; have := HL9.out; omega); clear hP7 hb7 hg7 hz7))
                have HE : Hid (InvH w B mb R (k + 1) w9) := Lib.hid ⟨n9, hs9, ks9, hn9, HP7.out.more hb9, HSM9.out, HL9.out, (HB9.out.trans (HB7.out.mono HB9.out.size)).trans (hb9.mono (HB9.out.trans (HB7.out.mono HB9.out.size)).size)⟩
                clear hb9
                go_roundw
                case rel => exact ⟨k + 1, by omega, by go_num, HE⟩
                case measure => simp [intOf]; omega
            · have d2 : (x.kind == (2 : Int)) = false := beq_eq_false_iff_ne.2 e2
              clear e2
              by_cases e3 : x.kind = 3
              · have d3 : (x.kind == (3 : Int)) = true := beq_iff_eq.2 e3
                clear e3
                have HTL : Hid ((restH x.n hs).length ≤ k + 1) := Lib.hid (by have := rest_len x.n hs; omega)
                have HGL : Hid ((goneH x.n hs).length ≤ 1000) := Lib.hid (by have := len_parts x.n hs; omega)
                have KP : Hid (∀ W ks', PS W B mb R n hs ks' → But w5 W (fun t => t = mb ∨ t = R) → Calls Try.prog 19 #[.pointer (some ⟨B, 0, none⟩), .int .i64 x.n] W fun e w' => (∃ A c, e = .returned (.slice A (goneH x.n hs).length c) ∧ GoAt w' A (goneH x.n hs)) ∧ PP w' B mb R n (restH x.n hs) ks' ∧ But W w' (fun t => t = mb)) := Lib.hid (fun W ks' h _ => exp_ps h hn1 x.n)
                have KQ : Hid (∀ W n' hs', PS W B mb R n' hs' ks → But w5 W (fun t => t = mb ∨ t = R) → Calls Try.prog 20 #[.pointer (some ⟨R, 0, none⟩), .int .i64 x.n] W fun e w' => (∃ A c ys, e = .returned (.slice A ys.length c) ∧ GoAt w' A ys ∧ SamH (goneH x.n hs) ys) ∧ PQ w' B mb R n' hs' (restH x.n hs) ∧ But W w' (fun t => t = R)) := Lib.hid (fun W n' hs' h _ => rexp_ps h HSA.out hkl x.n)
                have hP := HP.out.more ((Below.refl w5.heap.size w5).drew)
                generalize restH x.n hs = T at *
                generalize goneH x.n hs = gs at *
                have F1 := fun W (h : But w5 W (fun t => t = mb ∨ t = R)) => HC.out W h 1 _ f1
                go_upto_region 19 with fail
                clear f0 f1 f2 f3 f4 f5 f6
                refine (fun (hh : Hid (∀ W (V6 V7 : Value), InvH w B mb R (k + 1) W → (?G19 : World → Value → Value → Prop) W V6 V7)) => ?walk19) (Lib.hid ?rest19)
                case walk19 =>
                  have hS : (fun W => But w5 W (fun t => t = mb ∨ t = R)) _ := Below.but _ ((Below.refl _ _).drew)
                  refine wp_region_held_drew (S := fun W => But w5 W (fun t => t = mb ∨ t = R)) (by kernel_rfl) hS (fun _ => ?_)
                  refine wpAnyH_take (i := 0) (v := ?vX1) rfl (by kernel_rfl) (by kernel_rfl) (by kernel_rfl) (fun _ _ _ h => h) (Or.inl ⟨by rfl, ?hyX1⟩) hS ?restX1
                  case hyX1 =>
                    intro w hSw
                    first | (go_simp; done) | (go_simp; with_reducible rfl)
                  try simp only [Act.put, List.setIfInBounds_toArray, List.set_cons_zero, List.set_cons_succ]
                  refine wpAnyH_take (i := 1) (v := ?vX2) rfl (by kernel_rfl) (by kernel_rfl) (by kernel_rfl) (fun _ _ _ h => h) (Or.inl ⟨by rfl, ?hyX2⟩) hS ?restX2
                  case hyX2 =>
                    intro w hSw
                    first | (go_simp; done) | (go_simp; with_reducible rfl)
                  try simp only [Act.put, List.setIfInBounds_toArray, List.set_cons_zero, List.set_cons_succ]
                  refine wpAnyH_take (i := 2) (v := ?vX3) rfl (by kernel_rfl) (by kernel_rfl) (by kernel_rfl) (fun _ _ _ h => h) (Or.inl ⟨by rfl, ?hyX3⟩) hS ?restX3
                  case hyX3 =>
                    intro w hSw
                    have k0 := F1 w hSw
                    first | (go_simp; done) | (go_simp; with_reducible rfl)
                  try simp only [Act.put, List.setIfInBounds_toArray, List.set_cons_zero, List.set_cons_succ]
                  refine wpAnyH_take (i := 4) (v := ?vX4) rfl (by kernel_rfl) (by kernel_rfl) (by kernel_rfl) (fun _ _ _ h => h) (Or.inl ⟨by rfl, ?hyX4⟩) hS ?restX4
                  case hyX4 =>
                    intro w hSw
                    first | (go_simp; done) | (go_simp; with_reducible rfl)
                  try simp only [Act.put, List.setIfInBounds_toArray, List.set_cons_zero, List.set_cons_succ]
                  refine wpAnyH_take (i := 5) (v := ?vX5) rfl (by kernel_rfl) (by kernel_rfl) (by kernel_rfl) (fun _ _ _ h => h) (Or.inl ⟨by rfl, ?hyX5⟩) hS ?restX5
                  case hyX5 =>
                    intro w hSw
                    first | (go_simp; done) | (go_simp; with_reducible rfl)
                  try simp only [Act.put, List.setIfInBounds_toArray, List.set_cons_zero, List.set_cons_succ]
                  refine wpAnyH_take (i := 6) (v := ?vX6) rfl (by kernel_rfl) (by kernel_rfl) (by kernel_rfl) (fun _ _ _ h => h) (Or.inl ⟨by rfl, ?hyX6⟩) hS ?restX6
                  case hyX6 =>
                    intro w hSw
                    have k0 := F1 w hSw
                    first | (go_simp; done) | (go_simp; with_reducible rfl)
                  try simp only [Act.put, List.setIfInBounds_toArray, List.set_cons_zero, List.set_cons_succ]
                  refine wpAnyH_ready (rs := [3]) (by kernel_rfl) (by simp) ?_
                  refine AllReadyH.cons rfl (fun K hK => ?_) AllReadyH.nil
                  go_simp
                  go_wp2_with (go_at_call 19; (with_reducible refine (KP.out _ _ hP hS).mono ?_); rintro e w6 ⟨⟨A6, c6, rfl, hg6⟩, hp6, hb6⟩)
                  obtain ⟨hs6, hP6, hsm6⟩ := hp6
                  have hS : But w5 w6 (fun t => t = mb ∨ t = R) := but_in hS hb6 (fun _ e => .inl e)
                  have hP := hP6
                  refine hK.out _ _ hS (fun _ => ?_)
                  clear hK K
                  refine wpAnyH_ready (rs := [7]) (by kernel_rfl) (by simp) ?_
                  refine AllReadyH.cons rfl (fun K hK => ?_) AllReadyH.nil
                  go_simp
                  go_wp2_with (go_at_call 20; (with_reducible refine (KQ.out _ _ _ hP hS).mono ?_); rintro e w7 ⟨⟨A7, c7, ys, rfl, hg7, hy7⟩, hp7, hb7⟩)
                  obtain ⟨ks7, hP7, hsm7⟩ := hp7
                  have hS : But w5 w7 (fun t => t = mb ∨ t = R) := but_in hS hb7 (fun _ e => .inr e)
                  have hg6 := GoAt.ref hP hb7 hg6
                  have hP := hP7
                  refine hK.out _ _ hS (fun _ => ?_)
                  clear hK K
                  refine wpAnyH_ready (rs := [8]) (by kernel_rfl) (by simp) ?_
                  refine AllReadyH.cons rfl (fun K hK => ?_) AllReadyH.nil
                  go_simp
                  have KSS := Lib.hid (same_go (c := c6) (c' := c7) hg6 hg7 hy7 HGL.out)
                  go_wp2_with (go_at_call 18; (with_reducible refine KSS.out.mono ?_); rintro e w8 ⟨rfl, hb8⟩)
                  have hP := hP.more hb8
                  have hS : But w5 w8 (fun t => t = mb ∨ t = R) := but_in hS (Below.but _ hb8) (fun _ e => e)
                  refine hK.out _ _ hS (fun _ => ?_)
                  clear hK K
                  refine wpAnyH_take (i := 9) (v := ?vX7) rfl (by kernel_rfl) (by kernel_rfl) (by kernel_rfl) (fun _ _ _ h => h) (Or.inl ⟨by rfl, ?hyX7⟩) hS ?restX7
                  case hyX7 =>
                    intro w hSw
                    first | (go_simp; done) | (go_simp; with_reducible rfl)
                  try simp only [Act.put, List.setIfInBounds_toArray, List.set_cons_zero, List.set_cons_succ]
                  refine wpAnyH_done (by kernel_rfl) ?_ _
                  have hI : InvH w B mb R (k + 1) w8 := InvH.of (by omega) hP hsm6 hsm7 HTL.out (HBB.out _ hS)
                  generalize Value.slice A6 gs.length c6 = V6
                  generalize Value.slice A7 ys.length c7 = V7
                  exact hh.out w8 V6 V7 hI
                case rest19 =>
                  intro W V6 V7 hI
                  have HIN := Lib.hid hI
                  go_upto_region 23 with fail
                  obtain ⟨n9, hs9, ks9, hn9, hP9, hsm9, hl9, hb9⟩ := HIN.out
                  have KAL := Lib.hid (all_ps hP9 (by omega))
                  have HSM9 := Lib.hid hsm9
                  have HB9 := Lib.hid hb9
                  have HL9 := Lib.hid hl9
                  clear hP9 hsm9 hb9 HIN hl9
                  go_wp2_with (first
                    | (go_at_call 18; (with_reducible refine (KSS.out).mono ?_); rintro e w9 ⟨rfl, hb9⟩)
                    | (go_at_call 24; (with_reducible refine (KRL.out).mono ?_); rintro e w8 ⟨⟨A8, c8, rfl, hg8⟩, rfl⟩; have KSS := Lib.hid (same_go (c := c7) (c' := c8) HG7.out hg8 (HZS.out.trans HSM9.out) HZ40.out); clear hg8)
                    | (go_at_call 23; (with_reducible refine (KAL.out).mono ?_); rintro e w7 ⟨⟨A7, c7, zs, rfl, hg7, hz7⟩, hP7, hb7⟩; have KRL := Lib.hid (rall_ps hP7); have HP7 := Lib.hid hP7; have HB7 := Lib.hid hb7; have HG7 := Lib.hid hg7; have HZS := Lib.hid hz7; have HZ40 : Hid (zs.length ≤ 1000) := Lib.hid (by have := hz7.len; have := HL9.out; omega); clear hP7 hb7 hg7 hz7))
                  have HE : Hid (InvH w B mb R (k + 1) w9) := Lib.hid ⟨n9, hs9, ks9, hn9, HP7.out.more hb9, HSM9.out, HL9.out, (HB9.out.trans (HB7.out.mono HB9.out.size)).trans (hb9.mono (HB9.out.trans (HB7.out.mono HB9.out.size)).size)⟩
                  clear hb9
                  go_roundw
                  case rel => exact ⟨k + 1, by omega, by go_num, HE⟩
                  case measure => simp [intOf]; omega
              · have d3 : (x.kind == (3 : Int)) = false := beq_eq_false_iff_ne.2 e3
                clear e3
                by_cases e4 : x.kind = 4
                · have d4 : (x.kind == (4 : Int)) = true := beq_iff_eq.2 e4
                  clear e4
                  by_cases hz : 0 < x.x.l.length
                  · have dz : decide ((0 : Int) < (x.x.l.length : Int)) = true := decide_eq_true (by omega)
                    have iz : (0 : Int) < (x.x.l.length : Int) := by omega
                    obtain ⟨i, hi⟩ : ∃ i, x.x.l[0]? = some i := ⟨_, List.getElem?_eq_getElem hz⟩
                    have HTL : Hid (hs.length ≤ k + 1) := Lib.hid (by omega)
                    have KP : Hid (∀ W ks', PS W B mb R n hs ks' → But w5 W (fun t => t = mb ∨ t = R) → Calls Try.prog 21 #[.pointer (some ⟨B, 0, none⟩), aggD i, .string x.x.cls] W fun e w' => e = .returned (.int .i64 (heldP i x.x.cls hs)) ∧ Below W.heap.size W w') := Lib.hid (fun W ks' h _ => held_ps h hn1 i x.x.cls)
                    have KQ : Hid (∀ W n' hs', PS W B mb R n' hs' ks → But w5 W (fun t => t = mb ∨ t = R) → Calls Try.prog 22 #[.pointer (some ⟨R, 0, none⟩), aggD i, .string x.x.cls] W fun e w' => e = .returned (.int .i64 (heldP i x.x.cls hs)) ∧ Below W.heap.size W w') := Lib.hid (fun W n' hs' h _ => rheld_ps h HSA.out hkl i x.x.cls)
                    have hP := HP.out.more ((Below.refl w5.heap.size w5).drew)
                    generalize heldP i x.x.cls hs = E at *
                    have HXR : ∃ b o, x.x.A = some ⟨b, o, none⟩ ∧ Hid (∀ W, But w5 W (fun t => t = mb ∨ t = R) → ∀ j u, (encD i)[j]? = some u → W.cell? ⟨b, o + j, none⟩ = some u) := by
                      rcases HXL0.out with h | ⟨b, o, e, h1, h2, h3⟩
                      · rw [h] at hi; cases hi
                      · refine ⟨b, o, e, Lib.hid (fun W h j u hu => ?_)⟩
                        have h4 := h3 0 i j u hi hu
                        rw [Nat.zero_mul, Nat.add_zero] at h4
                        have h1' : b < w.heap.size := h1
                        exact but_cell h h4 (fun e => by have := HW3.out; have e' : b = mb ∨ b = R := e; omega)
                    obtain ⟨b9, o9, hA9, HXR⟩ := HXR
                    have F3 := fun W (h : But w5 W (fun t => t = mb ∨ t = R)) => HC.out W h 3 _ f3
                    have F4 := fun W (h : But w5 W (fun t => t = mb ∨ t = R)) => HC.out W h 4 _ f4
                    rw [hA9] at f3
                    rw [hA9] at F3
                    have G0 := fun W (h : But w5 W (fun t => t = mb ∨ t = R)) => HXR.out W h 0 _ rfl
                    have G1 := fun W (h : But w5 W (fun t => t = mb ∨ t = R)) => HXR.out W h 1 _ rfl
                    have G2 := fun W (h : But w5 W (fun t => t = mb ∨ t = R)) => HXR.out W h 2 _ rfl
                    have G3 := fun W (h : But w5 W (fun t => t = mb ∨ t = R)) => HXR.out W h 3 _ rfl
                    simp only [Nat.add_zero] at G0
                    clear hi hA9 hz
                    go_upto_region 22 with fail
                    clear f0 f1 f2 f3 f4 f5 f6
                    refine (fun (hh : Hid (∀ W, InvH w B mb R (k + 1) W → (?G22 : World → Prop) W)) => ?walk22) (Lib.hid ?rest22)
                    case walk22 =>
                      have hS : (fun W => But w5 W (fun t => t = mb ∨ t = R)) _ := Below.but _ ((Below.refl _ _).drew)
                      refine wp_region_held_drew (S := fun W => But w5 W (fun t => t = mb ∨ t = R)) (by kernel_rfl) hS (fun _ => ?_)
                      refine wpAnyH_take (i := 0) (v := ?vV1) rfl (by kernel_rfl) (by kernel_rfl) (by kernel_rfl) (fun _ _ _ h => h) (Or.inl ⟨by rfl, ?hyV1⟩) hS ?restV1
                      case hyV1 =>
                        intro w hSw
                        first | (go_simp; done) | (go_simp; with_reducible rfl)
                      try simp only [Act.put, List.setIfInBounds_toArray, List.set_cons_zero, List.set_cons_succ]
                      refine wpAnyH_take (i := 1) (v := ?vV2) rfl (by kernel_rfl) (by kernel_rfl) (by kernel_rfl) (fun _ _ _ h => h) (Or.inl ⟨by rfl, ?hyV2⟩) hS ?restV2
                      case hyV2 =>
                        intro w hSw
                        first | (go_simp; done) | (go_simp; with_reducible rfl)
                      try simp only [Act.put, List.setIfInBounds_toArray, List.set_cons_zero, List.set_cons_succ]
                      refine wpAnyH_take (i := 2) (v := ?vV3) rfl (by kernel_rfl) (by kernel_rfl) (by kernel_rfl) (fun _ _ _ h => h) (Or.inl ⟨by rfl, ?hyV3⟩) hS ?restV3
                      case hyV3 =>
                        intro w hSw
                        first | (go_simp; done) | (go_simp; with_reducible rfl)
                      try simp only [Act.put, List.setIfInBounds_toArray, List.set_cons_zero, List.set_cons_succ]
                      refine wpAnyH_take (i := 3) (v := ?vV4) rfl (by kernel_rfl) (by kernel_rfl) (by kernel_rfl) (fun _ _ _ h => h) (Or.inl ⟨by rfl, ?hyV4⟩) hS ?restV4
                      case hyV4 =>
                        intro w hSw
                        have k0 := F3 w hSw; have k1 := F4 w hSw; have k2 := G0 w hSw; have k3 := G1 w hSw; have k4 := G2 w hSw; have k5 := G3 w hSw
                        first | (go_simp; done) | (go_simp; with_reducible rfl)
                      try simp only [Act.put, List.setIfInBounds_toArray, List.set_cons_zero, List.set_cons_succ]
                      refine wpAnyH_take (i := 4) (v := ?vV5) rfl (by kernel_rfl) (by kernel_rfl) (by kernel_rfl) (fun _ _ _ h => h) (Or.inl ⟨by rfl, ?hyV5⟩) hS ?restV5
                      case hyV5 =>
                        intro w hSw
                        have k0 := F3 w hSw; have k1 := F4 w hSw; have k2 := G0 w hSw; have k3 := G1 w hSw; have k4 := G2 w hSw; have k5 := G3 w hSw
                        first | (go_simp; done) | (go_simp; with_reducible rfl)
                      try simp only [Act.put, List.setIfInBounds_toArray, List.set_cons_zero, List.set_cons_succ]
                      refine wpAnyH_take (i := 5) (v := ?vV6) rfl (by kernel_rfl) (by kernel_rfl) (by kernel_rfl) (fun _ _ _ h => h) (Or.inl ⟨by rfl, ?hyV6⟩) hS ?restV6
                      case hyV6 =>
                        intro w hSw
                        have k0 := F3 w hSw; have k1 := F4 w hSw; have k2 := G0 w hSw; have k3 := G1 w hSw; have k4 := G2 w hSw; have k5 := G3 w hSw
                        first | (go_simp; done) | (go_simp; with_reducible rfl)
                      try simp only [Act.put, List.setIfInBounds_toArray, List.set_cons_zero, List.set_cons_succ]
                      refine wpAnyH_take (i := 6) (v := ?vV7) rfl (by kernel_rfl) (by kernel_rfl) (by kernel_rfl) (fun _ _ _ h => h) (Or.inl ⟨by rfl, ?hyV7⟩) hS ?restV7
                      case hyV7 =>
                        intro w hSw
                        first | (go_simp; done) | (go_simp; with_reducible rfl)
                      try simp only [Act.put, List.setIfInBounds_toArray, List.set_cons_zero, List.set_cons_succ]
                      refine wpAnyH_take (i := 7) (v := ?vV8) rfl (by kernel_rfl) (by kernel_rfl) (by kernel_rfl) (fun _ _ _ h => h) (Or.inl ⟨by rfl, ?hyV8⟩) hS ?restV8
                      case hyV8 =>
                        intro w hSw
                        first | (go_simp; done) | (go_simp; with_reducible rfl)
                      try simp only [Act.put, List.setIfInBounds_toArray, List.set_cons_zero, List.set_cons_succ]
                      refine wpAnyH_take (i := 8) (v := ?vV9) rfl (by kernel_rfl) (by kernel_rfl) (by kernel_rfl) (fun _ _ _ h => h) (Or.inl ⟨by rfl, ?hyV9⟩) hS ?restV9
                      case hyV9 =>
                        intro w hSw
                        have k0 := F3 w hSw; have k1 := F4 w hSw; have k2 := G0 w hSw; have k3 := G1 w hSw; have k4 := G2 w hSw; have k5 := G3 w hSw
                        first | (go_simp; done) | (go_simp; with_reducible rfl)
                      try simp only [Act.put, List.setIfInBounds_toArray, List.set_cons_zero, List.set_cons_succ]
                      refine wpAnyH_take (i := 10) (v := ?vV10) rfl (by kernel_rfl) (by kernel_rfl) (by kernel_rfl) (fun _ _ _ h => h) (Or.inl ⟨by rfl, ?hyV10⟩) hS ?restV10
                      case hyV10 =>
                        intro w hSw
                        first | (go_simp; done) | (go_simp; with_reducible rfl)
                      try simp only [Act.put, List.setIfInBounds_toArray, List.set_cons_zero, List.set_cons_succ]
                      refine wpAnyH_take (i := 11) (v := ?vV11) rfl (by kernel_rfl) (by kernel_rfl) (by kernel_rfl) (fun _ _ _ h => h) (Or.inl ⟨by rfl, ?hyV11⟩) hS ?restV11
                      case hyV11 =>
                        intro w hSw
                        first | (go_simp; done) | (go_simp; with_reducible rfl)
                      try simp only [Act.put, List.setIfInBounds_toArray, List.set_cons_zero, List.set_cons_succ]
                      refine wpAnyH_take (i := 12) (v := ?vV12) rfl (by kernel_rfl) (by kernel_rfl) (by kernel_rfl) (fun _ _ _ h => h) (Or.inl ⟨by rfl, ?hyV12⟩) hS ?restV12
                      case hyV12 =>
                        intro w hSw
                        first | (go_simp; done) | (go_simp; with_reducible rfl)
                      try simp only [Act.put, List.setIfInBounds_toArray, List.set_cons_zero, List.set_cons_succ]
                      refine wpAnyH_take (i := 13) (v := ?vV13) rfl (by kernel_rfl) (by kernel_rfl) (by kernel_rfl) (fun _ _ _ h => h) (Or.inl ⟨by rfl, ?hyV13⟩) hS ?restV13
                      case hyV13 =>
                        intro w hSw
                        have k0 := F3 w hSw; have k1 := F4 w hSw; have k2 := G0 w hSw; have k3 := G1 w hSw; have k4 := G2 w hSw; have k5 := G3 w hSw
                        first | (go_simp; done) | (go_simp; with_reducible rfl)
                      try simp only [Act.put, List.setIfInBounds_toArray, List.set_cons_zero, List.set_cons_succ]
                      refine wpAnyH_take (i := 14) (v := ?vV14) rfl (by kernel_rfl) (by kernel_rfl) (by kernel_rfl) (fun _ _ _ h => h) (Or.inl ⟨by rfl, ?hyV14⟩) hS ?restV14
                      case hyV14 =>
                        intro w hSw
                        have k0 := F3 w hSw; have k1 := F4 w hSw; have k2 := G0 w hSw; have k3 := G1 w hSw; have k4 := G2 w hSw; have k5 := G3 w hSw
                        first | (go_simp; done) | (go_simp; with_reducible rfl)
                      try simp only [Act.put, List.setIfInBounds_toArray, List.set_cons_zero, List.set_cons_succ]
                      refine wpAnyH_take (i := 15) (v := ?vV15) rfl (by kernel_rfl) (by kernel_rfl) (by kernel_rfl) (fun _ _ _ h => h) (Or.inl ⟨by rfl, ?hyV15⟩) hS ?restV15
                      case hyV15 =>
                        intro w hSw
                        have k0 := F3 w hSw; have k1 := F4 w hSw; have k2 := G0 w hSw; have k3 := G1 w hSw; have k4 := G2 w hSw; have k5 := G3 w hSw
                        first | (go_simp; done) | (go_simp; with_reducible rfl)
                      try simp only [Act.put, List.setIfInBounds_toArray, List.set_cons_zero, List.set_cons_succ]
                      refine wpAnyH_take (i := 16) (v := ?vV16) rfl (by kernel_rfl) (by kernel_rfl) (by kernel_rfl) (fun _ _ _ h => h) (Or.inl ⟨by rfl, ?hyV16⟩) hS ?restV16
                      case hyV16 =>
                        intro w hSw
                        first | (go_simp; done) | (go_simp; with_reducible rfl)
                      try simp only [Act.put, List.setIfInBounds_toArray, List.set_cons_zero, List.set_cons_succ]
                      refine wpAnyH_take (i := 17) (v := ?vV17) rfl (by kernel_rfl) (by kernel_rfl) (by kernel_rfl) (fun _ _ _ h => h) (Or.inl ⟨by rfl, ?hyV17⟩) hS ?restV17
                      case hyV17 =>
                        intro w hSw
                        first | (go_simp; done) | (go_simp; with_reducible rfl)
                      try simp only [Act.put, List.setIfInBounds_toArray, List.set_cons_zero, List.set_cons_succ]
                      refine wpAnyH_take (i := 18) (v := ?vV18) rfl (by kernel_rfl) (by kernel_rfl) (by kernel_rfl) (fun _ _ _ h => h) (Or.inl ⟨by rfl, ?hyV18⟩) hS ?restV18
                      case hyV18 =>
                        intro w hSw
                        have k0 := F3 w hSw; have k1 := F4 w hSw; have k2 := G0 w hSw; have k3 := G1 w hSw; have k4 := G2 w hSw; have k5 := G3 w hSw
                        first | (go_simp; done) | (go_simp; with_reducible rfl)
                      try simp only [Act.put, List.setIfInBounds_toArray, List.set_cons_zero, List.set_cons_succ]
                      refine wpAnyH_ready (rs := [9]) (by kernel_rfl) (by simp) ?_
                      refine AllReadyH.cons rfl (fun K hK => ?_) AllReadyH.nil
                      go_simp
                      go_wp2_with (go_at_call 21; (with_reducible refine (KP.out _ _ hP hS).mono ?_); rintro e w6 ⟨rfl, hb6⟩)
                      have hS : But w5 w6 (fun t => t = mb ∨ t = R) := but_in hS (Below.but _ hb6) (fun _ e => e)
                      have hP := hP.more hb6
                      refine hK.out _ _ hS (fun _ => ?_)
                      clear hK K
                      refine wpAnyH_ready (rs := [19]) (by kernel_rfl) (by simp) ?_
                      refine AllReadyH.cons rfl (fun K hK => ?_) AllReadyH.nil
                      go_simp
                      go_wp2_with (go_at_call 22; (with_reducible refine (KQ.out _ _ _ hP hS).mono ?_); rintro e w7 ⟨rfl, hb7⟩)
                      have hS : But w5 w7 (fun t => t = mb ∨ t = R) := but_in hS (Below.but _ hb7) (fun _ e => e)
                      have hP := hP.more hb7
                      refine hK.out _ _ hS (fun _ => ?_)
                      clear hK K
                      refine wpAnyH_take (i := 20) (v := ?vV19) rfl (by kernel_rfl) (by kernel_rfl) (by kernel_rfl) (fun _ _ _ h => h) (Or.inl ⟨by rfl, ?hyV19⟩) hS ?restV19
                      case hyV19 =>
                        intro w hSw
                        first | (go_simp; done) | (go_simp; with_reducible rfl)
                      try simp only [Act.put, List.setIfInBounds_toArray, List.set_cons_zero, List.set_cons_succ]
                      refine wpAnyH_take (i := 21) (v := ?vV20) rfl (by kernel_rfl) (by kernel_rfl) (by kernel_rfl) (fun _ _ _ h => h) (Or.inl ⟨by rfl, ?hyV20⟩) hS ?restV20
                      case hyV20 =>
                        intro w hSw
                        first | (go_simp; done) | (go_simp; with_reducible rfl)
                      try simp only [Act.put, List.setIfInBounds_toArray, List.set_cons_zero, List.set_cons_succ]
                      refine wpAnyH_done (by kernel_rfl) ?_ _
                      have hI : InvH w B mb R (k + 1) w7 := InvH.of (by omega) hP (SamH.refl _) HSA.out HTL.out (HBB.out _ hS)
                      exact hh.out w7 hI
                    case rest22 =>
                      intro W hI
                      have HIN := Lib.hid hI
                      go_upto_region 23 with fail
                      obtain ⟨n9, hs9, ks9, hn9, hP9, hsm9, hl9, hb9⟩ := HIN.out
                      have KAL := Lib.hid (all_ps hP9 (by omega))
                      have HSM9 := Lib.hid hsm9
                      have HB9 := Lib.hid hb9
                      have HL9 := Lib.hid hl9
                      clear hP9 hsm9 hb9 HIN hl9
                      go_wp2_with (first
                        | (go_at_call 18; (with_reducible refine (KSS.out).mono ?_); rintro e w9 ⟨rfl, hb9⟩)
                        | (go_at_call 24; (with_reducible refine (KRL.out).mono ?_); rintro e w8 ⟨⟨A8, c8, rfl, hg8⟩, rfl⟩; have KSS := Lib.hid (same_go (c := c7) (c' := c8) HG7.out hg8 (HZS.out.trans HSM9.out) HZ40.out); clear hg8)
                        | (go_at_call 23; (with_reducible refine (KAL.out).mono ?_); rintro e w7 ⟨⟨A7, c7, zs, rfl, hg7, hz7⟩, hP7, hb7⟩; have KRL := Lib.hid (rall_ps hP7); have HP7 := Lib.hid hP7; have HB7 := Lib.hid hb7; have HG7 := Lib.hid hg7; have HZS := Lib.hid hz7; have HZ40 : Hid (zs.length ≤ 1000) := Lib.hid (by have := hz7.len; have := HL9.out; omega); clear hP7 hb7 hg7 hz7))
                      have HE : Hid (InvH w B mb R (k + 1) w9) := Lib.hid ⟨n9, hs9, ks9, hn9, HP7.out.more hb9, HSM9.out, HL9.out, (HB9.out.trans (HB7.out.mono HB9.out.size)).trans (hb9.mono (HB9.out.trans (HB7.out.mono HB9.out.size)).size)⟩
                      clear hb9
                      go_roundw
                      case rel => exact ⟨k + 1, by omega, by go_num, HE⟩
                      case measure => simp [intOf]; omega
                  · have dz : decide ((0 : Int) < (x.x.l.length : Int)) = false := decide_eq_false (by omega)
                    have HIN : Hid (InvH w B mb R (k + 1) w5) := Lib.hid ⟨n, hs, ks, by omega, HP.out, HSA.out, by omega, HBW.out⟩
                    go_upto_region 23 with fail
                    clear f0 f1 f2 f3 f4 f5 f6
                    obtain ⟨n9, hs9, ks9, hn9, hP9, hsm9, hl9, hb9⟩ := HIN.out
                    have KAL := Lib.hid (all_ps hP9 (by omega))
                    have HSM9 := Lib.hid hsm9
                    have HB9 := Lib.hid hb9
                    have HL9 := Lib.hid hl9
                    clear hP9 hsm9 hb9 HIN hl9
                    go_wp2_with (first
                      | (go_at_call 18; (with_reducible refine (KSS.out).mono ?_); rintro e w9 ⟨rfl, hb9⟩)
                      | (go_at_call 24; (with_reducible refine (KRL.out).mono ?_); rintro e w8 ⟨⟨A8, c8, rfl, hg8⟩, rfl⟩; have KSS := Lib.hid (same_go (c := c7) (c' := c8) HG7.out hg8 (HZS.out.trans HSM9.out) HZ40.out); clear hg8)
                      | (go_at_call 23; (with_reducible refine (KAL.out).mono ?_); rintro e w7 ⟨⟨A7, c7, zs, rfl, hg7, hz7⟩, hP7, hb7⟩; have KRL := Lib.hid (rall_ps hP7); have HP7 := Lib.hid hP7; have HB7 := Lib.hid hb7; have HG7 := Lib.hid hg7; have HZS := Lib.hid hz7; have HZ40 : Hid (zs.length ≤ 1000) := Lib.hid (by have := hz7.len; have := HL9.out; omega); clear hP7 hb7 hg7 hz7))
                    have HE : Hid (InvH w B mb R (k + 1) w9) := Lib.hid ⟨n9, hs9, ks9, hn9, HP7.out.more hb9, HSM9.out, HL9.out, (HB9.out.trans (HB7.out.mono HB9.out.size)).trans (hb9.mono (HB9.out.trans (HB7.out.mono HB9.out.size)).size)⟩
                    clear hb9
                    go_roundw
                    case rel => exact ⟨k + 1, by omega, by go_num, HE⟩
                    case measure => simp [intOf]; omega
                · have d4 : (x.kind == (4 : Int)) = false := beq_eq_false_iff_ne.2 e4
                  clear e4
                  have HIN : Hid (InvH w B mb R (k + 1) w5) := Lib.hid ⟨n, hs, ks, by omega, HP.out, HSA.out, by omega, HBW.out⟩
                  go_upto_region 23 with fail
                  clear f0 f1 f2 f3 f4 f5 f6
                  obtain ⟨n9, hs9, ks9, hn9, hP9, hsm9, hl9, hb9⟩ := HIN.out
                  have KAL := Lib.hid (all_ps hP9 (by omega))
                  have HSM9 := Lib.hid hsm9
                  have HB9 := Lib.hid hb9
                  have HL9 := Lib.hid hl9
                  clear hP9 hsm9 hb9 HIN hl9
                  go_wp2_with (first
                    | (go_at_call 18; (with_reducible refine (KSS.out).mono ?_); rintro e w9 ⟨rfl, hb9⟩)
                    | (go_at_call 24; (with_reducible refine (KRL.out).mono ?_); rintro e w8 ⟨⟨A8, c8, rfl, hg8⟩, rfl⟩; have KSS := Lib.hid (same_go (c := c7) (c' := c8) HG7.out hg8 (HZS.out.trans HSM9.out) HZ40.out); clear hg8)
                    | (go_at_call 23; (with_reducible refine (KAL.out).mono ?_); rintro e w7 ⟨⟨A7, c7, zs, rfl, hg7, hz7⟩, hP7, hb7⟩; have KRL := Lib.hid (rall_ps hP7); have HP7 := Lib.hid hP7; have HB7 := Lib.hid hb7; have HG7 := Lib.hid hg7; have HZS := Lib.hid hz7; have HZ40 : Hid (zs.length ≤ 1000) := Lib.hid (by have := hz7.len; have := HL9.out; omega); clear hP7 hb7 hg7 hz7))
                  have HE : Hid (InvH w B mb R (k + 1) w9) := Lib.hid ⟨n9, hs9, ks9, hn9, HP7.out.more hb9, HSM9.out, HL9.out, (HB9.out.trans (HB7.out.mono HB9.out.size)).trans (hb9.mono (HB9.out.trans (HB7.out.mono HB9.out.size)).size)⟩
                  clear hb9
                  go_roundw
                  case rel => exact ⟨k + 1, by omega, by go_num, HE⟩
                  case measure => simp [intOf]; omega
      · obtain rfl : k = l.length := by omega
        have i2 : ¬ (l.length : Int) < (l.length : Int) := by omega
        have HBW : Hid (Below w.heap.size w wr) := Lib.hid (by obtain ⟨_, _, _, _, _, _, _, h⟩ := HI.out; exact h)
        go_wp2_with (go_at_call 8; (with_reducible refine (KA.out _).mono ?_); rintro e wd ⟨rfl, hbd⟩)
        go_ret
        exact ⟨rfl, HBW.out.trans (hbd.mono HBW.out.size)⟩
end Go.Proofs.Ythillkbcbklhaaa
