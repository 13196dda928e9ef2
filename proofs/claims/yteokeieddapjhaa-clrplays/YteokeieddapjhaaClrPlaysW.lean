/-
  ClrPlays' walk. (Printed by wip/gen/clrlaws.py.)
-/
import Derived.Test.YteokeieddapjhaaClrLaw
namespace Go.Proofs.Yteokeieddapjhaa.clrPlays
set_option linter.unusedVariables false
set_option linter.unusedSimpArgs false
set_option maxRecDepth 100000
open Go.RowKit Go.Lib Go.Proofs.Yteokeieddapjhaa.Clr

set_option maxHeartbeats 8000000 in
theorem walk (lim : Int) (v0 : Value) (l : List OpS) (w : World) (hz : OpsIn w v0 l) : Calls Try.prog 3 #[.int .i64 lim, v0] w fun e w' => e = .returned (.bool true) ∧ Ext w w' := by
  have AW := hid (fun V => awake_any V)
  obtain ⟨ao, cp, rfl, k1, k2⟩ := hz.slice
  have OPS := hid hz.seen
  have GET : Hid (∀ k, k < l.length → ∃ q : OpS, l[k]? = some q) := fun k hk => ⟨_, List.getElem?_eq_getElem hk⟩
  obtain ⟨N, eN⟩ : ∃ N, N = l.length := ⟨_, rfl⟩
  rw [← eN] at GET k1 ⊢
  unfold maxLen at k2
  clear hz eN
  by_cases b0 : (80 : Int) < (N : Int)
  · clear OPS GET
    go_enter Try.func3, Try.ntmps3
    go_wp2_with fail
    refine (AW.out _).mono ?_
    rintro e wz ⟨rfl, xz⟩
    have XZ := hid xz
    clear xz
    go_wp2_with fail
    go_ret
    exact ⟨rfl, XZ.out⟩
  by_cases b1 : lim < 1
  · clear OPS GET
    go_enter Try.func3, Try.ntmps3
    go_wp2_with fail
    refine (AW.out _).mono ?_
    rintro e wz ⟨rfl, xz⟩
    have XZ := hid xz
    clear xz
    go_wp2_with fail
    go_ret
    exact ⟨rfl, XZ.out⟩
  by_cases b2 : 1048576 < lim
  · clear OPS GET
    go_enter Try.func3, Try.ntmps3
    go_wp2_with fail
    refine (AW.out _).mono ?_
    rintro e wz ⟨rfl, xz⟩
    have XZ := hid xz
    clear xz
    go_wp2_with fail
    go_ret
    exact ⟨rfl, XZ.out⟩
  have NW := hid (fun W => new_ok lim W ⟨by omega, by omega⟩)
  go_enter Try.func3, Try.ntmps3
  go_wp2_with fail
  refine (NW.out _).mono ?_
  rintro e w1 ⟨b, rfl, h1⟩
  obtain ⟨W4, W5, g, e4, eg, e5, r4, r5, x5⟩ := newboxS w1 (List.replicate 64 none) (-1)
  rw [dcs_new] at e5 r5
  have S0 : Hid (One w W5 b g lim bnew) := One.new (Ext.refl w) h1.out x5 (by omega) r5
  have E4 := hid e4
  have EG := hid eg
  have E5 := hid e5
  have R4 := hid r4
  have ONE := hid (dcs_one bnew)
  have SZ : Hid ((dcs bnew).size = 193) := dcs_size fit_new
  have DN := hid dcs_new
  clear e4 eg e5 r4 r5 x5 h1 NW
  go_wp2_with (first
    | (refine wpList_build_is rfl 33 _ rfl (dc (List.replicate 64 none) (-1)) (by simp [Act.eval]; exact built_new) ?_; rw [DN.out])
    | refine wpList_alloc_zero rfl 33 rfl dz zero_st ?_
    | rw [← EG.out, ← E4.out]
    | (refine wpList_store_row rfl 33 _ _ rfl g (dcs bnew) rfl rfl 33 _ R4.out (by rw [SZ.out]; exact size_st) (by rw [SZ.out]; exact dz_size) ONE.out ?_; rw [← E5.out]))
  clear R4 ONE E4 E5 EG SZ DN
  go_loopw [8, 10, 11, 38] (fun nv _ _ iv wr => ∃ (k : Nat) (n : Int) (s : BS), k ≤ N ∧ iv = .int .i64 (k : Int) ∧ nv = .int .i64 n ∧ 0 ≤ n ∧ n ≤ 1000 * (k : Int) ∧ Hid (One w wr b g lim s)) (fun _ _ _ iv _ => (N - RowKit.intOf iv).toNat)
  case atStart => exact ⟨0, 0, bnew, by omega, rfl, rfl, by omega, by omega, S0⟩
  case round =>
    clear S0
    obtain ⟨k, n, s, hk, rfl, rfl, n0, n1, S⟩ := hrel
    by_cases q : k < N
    · clear AW
      have i1 : (k : Int) < (N : Int) := by omega
      have i2 : (0 : Int) ≤ (k : Int) := by omega
      obtain ⟨o, eo⟩ := GET.out k q
      obtain ⟨_, g0, q0, rfl, CC⟩ := OPS.out k _ eo
      obtain ⟨y0, y1, y2, y3, y4⟩ := CC _ S.out.2.2.1
      have lr := lat_room o.2.2.2.1
      have LA := hid (fun W => later_any n o.2.2.2.1 W n0 (by omega))
      obtain ⟨m, em⟩ : ∃ m, m = n + lat o.2.2.2.1 := ⟨_, rfl⟩
      rw [← em] at LA
      have m0 : 0 ≤ m := by omega
      have m1 : m ≤ 1000 * ((k : Int) + 1) := by omega
      have S1 := hid (S.out.ext (bx_ext wr o.1 o.2.1 o.2.2.1 o.2.2.2.1 o.2.2.2.2))
      have r1 := hid (bx_row wr o.1 o.2.1 o.2.2.1 o.2.2.2.1 o.2.2.2.2)
      have E1 : Hid (wr.alloc (.cells #[.int .i64 o.1, .int .i64 o.2.1, .int .i64 o.2.2.1, .int .i64 o.2.2.2.1, .int .u64 o.2.2.2.2] 36) = bx wr o.1 o.2.1 o.2.2.1 o.2.2.2.1 o.2.2.2.2) := rfl
      obtain ⟨W1, eW⟩ : ∃ W1, W1 = bx wr o.1 o.2.1 o.2.2.1 o.2.2.2.1 o.2.2.2.2 := ⟨_, rfl⟩
      rw [← eW] at S1 r1 E1
      obtain ⟨p, ep⟩ : ∃ p, p = wr.heap.size := ⟨_, rfl⟩
      have EP := hid ep
      rw [← ep] at r1
      have RB := hid S1.out.2.1
      have SZ : Hid ((dcs s).size = 193) := dcs_size S1.out.1.1
      obtain ⟨u0, u1, u2, u3, u4⟩ := row_cells r1.out
      clear OPS GET S eo CC eW ep em lr
      go_wp2_with (rw [← EP.out, E1.out])
      refine (LA.out _).mono ?_
      rintro e w2 ⟨rfl, ew⟩
      obtain rfl : W1 = w2 := ew.symm
      go_wp2_with (first
        | refine wpList_load_row rfl 33 _ rfl g rfl 33 _ (0, 0) _ RB.out Try.underlying33 rfl (by rw [SZ.out]; exact size_st) ?_
        | refine wpList_load_row rfl 36 _ rfl p rfl 36 _ (0, 0) _ r1.out Try.underlying36 rfl size_o ?_)
      refine (S1.out.step o m m0 (by omega)).mono ?_
      rintro e w5 ⟨rfl, r5, S2⟩
      obtain ⟨W5, e5⟩ : ∃ W5, W5 = w5.setRow g (dcs (bst s lim m o)) := ⟨_, rfl⟩
      rw [← e5] at S2
      have S5 := hid S2
      have R5 := hid r5
      have E5 := hid e5
      have RB5 := hid S2.2.1
      have SZ5 : Hid ((dcs (bst s lim m o)).size = 193) := dcs_size S2.1.1
      have ON5 := hid (dcs_one (bst s lim m o))
      clear S2 r5 e5 S1 RB r1 E1 EP LA y0 y1 y2 y3 y4 u0 u1 u2 u3 u4
      go_wp2_with (first
        | (refine wpList_store_row rfl 33 _ _ rfl g (dcs (bst s lim m o)) rfl rfl 33 _ R5.out (by rw [SZ5.out]; exact size_st) (by rw [SZ5.out, SZ.out]) ON5.out ?_; rw [← E5.out])
        | refine wpList_load_row_g (by rfl) 33 _ rfl g rfl 33 _ (0, 0) _ RB5.out Try.underlying33 rfl (by rw [SZ5.out]; exact size_st) ?_)
      refine (same_any S5.out.1).mono ?_
      rintro e w6 ⟨rfl, x6⟩
      have S6 := hid (S5.out.ext x6)
      clear x6 S5 RB5 R5 ON5
      go_wp2_with fail
      go_roundw
      case rel => exact ⟨k + 1, m, _, by omega, by go_num, rfl, m0, by omega, S6⟩
      case measure => simp [RowKit.intOf]; omega
    · obtain rfl : N = k := by omega
      have ST := hid S.out.2.2.1
      clear OPS GET S
      go_wp2_with fail
      refine (AW.out _).mono ?_
      rintro e wz ⟨rfl, xz⟩
      have XZ := hid (ST.out.trans xz)
      clear xz
      go_wp2_with fail
      go_ret
      exact ⟨rfl, XZ.out⟩
end Go.Proofs.Yteokeieddapjhaa.clrPlays
