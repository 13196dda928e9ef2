/-
  The walk of Gaps: what is not in a set.
-/
import Derived.Test.YtbolhkafdgiggaaRngRead
import Derived.Test.YtbolhkafdgiggaaRngRuns
namespace Go.Proofs.Ytbolhkafdgiggaa
set_option linter.unusedVariables false
set_option maxRecDepth 100000
open Go.RowKit Go.Lib

theorem NewG.ext {w wr wr' : World} {v : Value} {l : Sts} (h : NewG w wr v l) (e : Ext wr wr') : NewG w wr' v l := ⟨h.1.ext e, h.2.1, h.2.2.trans e⟩
theorem Gapped.len {l : Sts} {a b : Int} {k j : Nat} {c : Int} {g : Sts} (G : Gapped l a b k j c g) (ha : 0 ≤ a) (hab : a ≤ b) (hb : b ≤ 16384) : g.length ≤ 16384 := by
  have : Canon a b g := ⟨fun p hp => by have := G.2.2.2.1 p hp; omega, G.2.2.2.2.1⟩
  have := this.len hab
  omega

/-- a stretch put behind, while a stretch of the walk's own is kept -/
theorem NewG.beside {w wr : World} {v : Value} {xs : Sts} (h : NewG w wr v xs) (p q x y : Int) (hl : xs.length ≤ 20000) :
    ∃ v' w', (Builtin.append_ #[31, 31] 31 #[v, .slice (some ⟨wr.heap.size + 1, 0, none⟩) 1 1]).run Try.prog ((wr.alloc (.cells #[.int .i64 p, .int .i64 q] 33)).alloc (.cells #[.int .i64 x, .int .i64 y] 33)) = .ok v' w' ∧ NewG w w' v' (xs ++ [(x, y)]) ∧
      w'.cell? ⟨wr.heap.size, 0, none⟩ = some (.int .i64 p) ∧ w'.cell? ⟨wr.heap.size, 1, none⟩ = some (.int .i64 q) := by
  obtain ⟨o, hk, X⟩ := h
  have Y := ((Ext.refl wr).alloc (.cells #[.int .i64 p, .int .i64 q] 33)).alloc (.cells #[.int .i64 x, .int .i64 y] 33)
  have n1 := heap_alloc2_new wr (.cells #[.int .i64 p, .int .i64 q] 33) (.cells #[.int .i64 x, .int .i64 y] 33)
  have n0 := heap_alloc2_old wr (.cells #[.int .i64 p, .int .i64 q] 33) (.cells #[.int .i64 x, .int .i64 y] 33)
  have s1 : ((wr.alloc (.cells #[.int .i64 p, .int .i64 q] 33)).alloc (.cells #[.int .i64 x, .int .i64 y] 33)).heap.size = wr.heap.size + 2 := by simp
  obtain ⟨v', w', r, o', gb, hb'⟩ := append_pairs _ v xs (o.ext Y) (wr.heap.size + 1) 1 1 [.int .i64 x, .int .i64 y] [(x, y)] n1 rfl rfl (by simp; omega)
  have x1 := X.size
  have b1 : w'.heap[wr.heap.size]? = some (.cells #[.int .i64 p, .int .i64 q] 33 (0, 0)) := by
    rw [gb.block _ (by omega) (fun e => by have := (World.ownsRow.lt o _ e.symm).2; omega)]
    exact n0
  refine ⟨v', w', r, ⟨o', ?_, (X.trans Y).rowed gb hk⟩, ?_, ?_⟩
  · intro k e
    rcases hb' with q | q
    · rw [q] at e; exact hk k e
    · rw [q] at e
      simp only [Option.some.injEq] at e
      omega
  · rw [cell_of_row w' _ 0 _ _ _ b1]; rfl
  · rw [cell_of_row w' _ 1 _ _ _ b1]; rfl

theorem gaps_no (b : Nat) (x y : Int) (w : World) (h : ¬ (0 ≤ x ∧ x ≤ y ∧ y ≤ 16384)) :
    Calls Try.prog 18 #[.pointer (some ⟨b, 0, none⟩), .int .i64 x, .int .i64 y] w fun e w' => e = .returned (.slice none 0 0) ∧ w' = w := by
  have C := hid (within_any x y w)
  rw [decide_eq_false h] at C
  clear h
  go_enter Try.func18, Try.ntmps18
  go_wp2_with fail
  refine C.out.mono ?_
  rintro e w1 ⟨rfl, rfl⟩
  go_wp2_with fail
  go_ret
  exact ⟨rfl, rfl⟩

set_option maxHeartbeats 2000000 in
theorem gaps_yes (b : Nat) (x y : Int) (v : Value) (l : Sts) (w : World) (hs : SetV w b v l) (hg : Good l) (hx : 0 ≤ x) (hxy : x ≤ y) (hy : y ≤ 16384) :
    Calls Try.prog 18 #[.pointer (some ⟨b, 0, none⟩), .int .i64 x, .int .i64 y] w fun e w' => ∃ v', e = .returned v' ∧ ∃ g, NewG w w' v' g ∧ Canon x y g ∧ ∀ i, x ≤ i → i < y → has g i = !has l i := by
  have C1 := hid (within_any x y w)
  rw [decide_eq_true (And.intro hx (And.intro hxy hy))] at C1
  obtain ⟨k, hk⟩ := hg.ends x
  have kl := hk.1
  have CE : Hid (∀ n : Ever w, Calls Try.prog 27 #[.pointer (some ⟨b, 0, none⟩), .int .i64 x] n.W fun e w' => e = .returned (.int .i64 (k : Int)) ∧ Ext n.W w') := fun n => endsBehind_at b x v l k n.W (hs.ext n.ok) hg hk
  have cc : ∀ n : Ever w, n.W.cell? ⟨b, 0, none⟩ = some v := fun n => (hs.ext n.ok).cell
  obtain ⟨ao, cp, rfl, q1, q2, rd⟩ := hs.2.rest k kl
  have RD := hid rd
  have HG := hid hg
  have HK := hid hk
  have LN := hg.len
  clear hs rd hk hg
  unfold maxLen at q2
  go_enter Try.func18, Try.ntmps18
  go_wp2_with fail
  refine C1.out.mono ?_
  rintro e w ⟨rfl, rfl⟩
  clear C1
  go_wp2_with fail
  refine wp_region_ext (by kernel_rfl) (by kernel_rfl) ?_
  have ev := Ever.some w
  go_big_quiet_step (fail)
  go_big_quiet_step (fail)
  go_big_quiet_step (fail)
  go_big_quiet_step (fail)
  go_big_quiet_step (fail)
  go_big_quiet_step (fail)
  go_big_quiet_step ((go_at_call 27; refine (CE.out _).mono ?_; rintro e w' ⟨rfl, Y⟩; exact ⟨rfl, ⟨_, (Ever.ok _).trans Y⟩, rfl⟩))
  go_big_quiet_want
  refine quiet_cut (.tmp 17) (.tmp 20) rfl _ _ _ k rfl rfl kl q1 ?_
  simp [Act.put]
  go_big_quiet_on
  go_big_quiet_step (fail)
  go_big_quiet_step (fail)
  refine wpQuiet_nil ?_
  rintro w3 ⟨⟨_, x3⟩, rfl⟩
  have N0 := hid (And.intro ((NewG.nil w).ext x3) (Gapped.zero (b := y) (show x ≤ 16384 by omega) HK.out))
  clear x3 cc CE ev
  go_wp2_with fail
  go_loopw [1, 7, 23] (fun a o i wr => ∃ (j : Nat) (c : Int) (g : Sts), k + j ≤ l.length ∧ i = .int .i64 (j : Int) ∧ a = .int .i64 c ∧ NewG w wr o g ∧ Gapped l x y k j c g) (fun _ _ i _ => (l.length - k - intOf i).toNat)
  case atStart => exact ⟨0, x, [], by omega, rfl, rfl, N0.1, N0.2⟩
  case round =>
    obtain ⟨j, c, g, hj, rfl, rfl, N, G⟩ := hrel
    clear N0
    have GL := G.len hx hxy hy
    have GP := hid G
    obtain ⟨oa, on, oc, eo⟩ := owns_slice N.1
    subst eo
    by_cases t : k + j < l.length
    · obtain ⟨gb, eg, x1, x2⟩ := RD.out j t
      have y1 := N.2.2.cell x1
      have y2 := N.2.2.cell x2
      have RB := hid (rest_behind HG.out (b := y) t)
      have GM := hid (G.more HG.out HK.out t)
      have i1 : (j : Int) < ((l.length - k : Nat) : Int) := by omega
      have i2 : (0 : Int) ≤ (j : Int) := by omega
      have P2 := HG.out.1 _ (at_mem t)
      clear x1 x2 G
      generalize (l.getD (k + j) (0, 0)).1 = p at *
      generalize (l.getD (k + j) (0, 0)).2 = r2 at *
      have N1 := N.ext ((Ext.refl wr).alloc (.cells #[.int .i64 p, .int .i64 r2] 33))
      by_cases t2 : y ≤ p
      · have RB := RB.out t2
        clear GM
        obtain ⟨D1, D2⟩ := Gapped.done HG.out hxy GP.out RB
        clear RB
        by_cases t5 : c < y
        · rw [if_pos t5] at D1 D2
          obtain ⟨v', w', r, N'⟩ := N1.step c y (by omega)
          rw [World.size_alloc] at r
          have R := hid r
          have N2 := hid N'
          have DD := hid (And.intro D1 D2)
          obtain ⟨oa', on', oc', eo'⟩ := owns_slice N'.1
          subst eo'
          clear r N' D1 D2 N GP
          go_wp2_with (at_builtin; refine wpList_append_run _ rfl (.tmp 48) (.tmp 52) 31 31 rfl _ _ rfl rfl _ _ R.out ?_)
          go_ret
          exact ⟨_, rfl, _, N2.out, DD.1, DD.2⟩
        · rw [if_neg t5] at D1 D2
          have DD := hid (And.intro D1 D2)
          have N2 := hid (N1)
          clear D1 D2 N GP
          go_wp2_with fail
          go_ret
          exact ⟨_, rfl, g, N2.out, DD.1, DD.2⟩
      · have t3 : ¬ (y ≤ p) := t2
        have GM := hid (GM.out (by omega))
        by_cases t4 : c < p
        · rw [if_pos t4] at GM
          obtain ⟨v', w', r, N', z1, z2⟩ := N.beside p r2 c p (by omega)
          have R := hid r
          have N2 := hid N'
          obtain ⟨oa', on', oc', eo'⟩ := owns_slice N'.1
          subst eo'
          clear r N' N N1 GP RB
          go_wp2_with (at_builtin; refine wpList_append_run _ rfl (.tmp 35) (.tmp 40) 31 31 rfl _ _ rfl rfl _ _ R.out ?_)
          go_roundw
          case rel => exact ⟨_, _, _, _, ⟨j + 1, by omega, by go_num, r2, rfl, _, N2.out, GM.out⟩, rfl, rfl, rfl, rfl⟩
          case measure => simp [intOf]; omega
        · rw [if_neg t4] at GM
          have N2 := hid N1
          clear N N1 GP RB
          go_wp2_with fail
          go_roundw
          case rel => exact ⟨j + 1, _, _, by omega, by go_num, rfl, N2.out, GM.out⟩
          case measure => simp [intOf]; omega
    · have i1 : ¬ ((j : Int) < ((l.length - k : Nat) : Int)) := by omega
      have RB : ∀ p ∈ l.drop (k + j), y ≤ p.1 := fun p hp => by rw [List.drop_eq_nil_of_le (by omega)] at hp; cases hp
      clear G
      obtain ⟨D1, D2⟩ := Gapped.done HG.out hxy GP.out RB
      clear RB
      by_cases t5 : c < y
      · rw [if_pos t5] at D1 D2
        obtain ⟨v', w', r, N'⟩ := N.step c y (by omega)
        have R := hid r
        have N2 := hid N'
        have DD := hid (And.intro D1 D2)
        obtain ⟨oa', on', oc', eo'⟩ := owns_slice N'.1
        subst eo'
        clear r N' D1 D2 N GP
        go_wp2_with (at_builtin; refine wpList_append_run _ rfl (.tmp 48) (.tmp 52) 31 31 rfl _ _ rfl rfl _ _ R.out ?_)
        go_ret
        exact ⟨_, rfl, _, N2.out, DD.1, DD.2⟩
      · rw [if_neg t5] at D1 D2
        have DD := hid (And.intro D1 D2)
        have N2 := hid (N)
        clear D1 D2 N GP
        go_wp2_with fail
        go_ret
        exact ⟨_, rfl, g, N2.out, DD.1, DD.2⟩
end Go.Proofs.Ytbolhkafdgiggaa
