/-
  slices.MinFunc over reports by their rates; Least.
-/
import Derived.Test.YteokeieddapjhaaClrMem
namespace Go.Proofs.Yteokeieddapjhaa.Clr
set_option linter.unusedVariables false
set_option maxRecDepth 100000
open Go.RowKit Go.Lib

theorem rate_any (f t x f' t' x' : Int) (w : World) : Calls Try.prog 33 #[.agg #[.int .i64 f, .int .i64 t, .int .u64 x], .agg #[.int .i64 f', .int .i64 t', .int .u64 x']] w fun e w' => e = .returned (.int .i64 (cmp3 x x')) ∧ Ext w w' := by
  have X := hid ((tb_ext w f t x).trans (tb_ext (tb w f t x) f' t' x'))
  have C := fun W => compareF_any x x' W
  go_enter Try.func33, Try.ntmps33
  go_wp2_with fail
  refine (C _).mono ?_
  rintro e w' ⟨rfl, rfl⟩
  go_wp2_with fail
  go_ret
  exact ⟨rfl, X.out⟩

def ra (x : Rep) : Array Value := #[.int .i64 x.1, .int .i64 x.2.1, .int .u64 x.2.2]
theorem ra_one (x : Rep) : (ra x).all (·.oneCell') = true := by simp [ra, Value.oneCell']
theorem take_snoc {l : List Rep} {k : Nat} {y : Rep} (h : l[k]? = some y) : l.take (k + 1) = l.take k ++ [y] := by rw [List.take_add_one, h]; rfl

set_option maxHeartbeats 2000000 in
theorem minf_any (s : Value) (x : Rep) (l : List Rep) (w : World) (hs : OwnR w s (x :: l)) (hl : l.length ≤ 1024) :
    Calls Try.prog 32 #[s, .func (.func 33) #[] #[]] w fun e w' => e = .returned (.agg (ra (l.foldl mn x))) ∧ Ext w w' := by
  obtain ⟨ao, cp, rfl, k1, k2, vw⟩ := hs.view encR
  rw [List.length_cons] at k1 ⊢
  obtain ⟨n, en⟩ : ∃ n, n = l.length := ⟨_, rfl⟩
  rw [← en] at k1 hl ⊢
  obtain ⟨V0, e0⟩ : ∃ V0, V0 = w.alloc (.cells #[.int .i64 0, .int .i64 0, .int .u64 0] 43) := ⟨_, rfl⟩
  have X0 := hid (tb_ext w 0 0 0)
  have R0 := hid (tb_row w 0 0 0)
  have S0 := tb_size w 0 0 0
  rw [show tb w 0 0 0 = V0 from e0.symm] at X0 R0 S0
  obtain ⟨bx, ebx⟩ : ∃ bx, bx = w.heap.size := ⟨_, rfl⟩
  rw [← ebx] at R0 S0
  have VW : Hid (∀ k y, (x :: l)[k]? = some y → ∃ g, ao = some ⟨g, 0, none⟩ ∧ ∀ W, Ext w W → W.cell? ⟨g, k * 3, none⟩ = some (.int .i64 y.1) ∧ W.cell? ⟨g, k * 3 + 1, none⟩ = some (.int .i64 y.2.1) ∧ W.cell? ⟨g, k * 3 + 2, none⟩ = some (.int .u64 y.2.2)) := by
    intro k y e
    obtain ⟨g, ea, vv⟩ := vw k y e
    exact ⟨g, ea, fun W X => ⟨X.cell (vv 0 _ rfl), X.cell (vv 1 _ rfl), X.cell (vv 2 _ rfl)⟩⟩
  have TK : Hid (∀ (k : Nat) (y : Rep), l[k]? = some y → (l.take (k + 1)).foldl mn x = mn ((l.take k).foldl mn x) y) := fun k y e => by rw [take_snoc e, List.foldl_append]; rfl
  obtain ⟨m, em⟩ : ∃ m, m = l.foldl mn x := ⟨_, rfl⟩
  have TL : Hid ((l.take n).foldl mn x = m) := by show _ = _; rw [en, List.take_length, em]
  rw [← em]
  clear em
  have AT : Hid (∀ k, k < n → ∃ y, l[k]? = some y) := fun k hk => ⟨_, List.getElem?_eq_getElem (by omega)⟩
  obtain ⟨g, rfl, vv⟩ := VW.out 0 x rfl
  obtain ⟨x0, x1, x2⟩ := vv V0 X0.out
  rw [Nat.zero_mul] at x0
  rw [Nat.zero_mul, Nat.zero_add] at x1 x2
  obtain ⟨V1, e1⟩ : ∃ V1, V1 = V0.alloc (.cells #[.int .i64 x.1, .int .i64 x.2.1, .int .u64 x.2.2] 43) := ⟨_, rfl⟩
  have X1 := hid (X0.out.trans (tb_ext V0 x.1 x.2.1 x.2.2))
  have R1 := hid ((tb_ext V0 x.1 x.2.1 x.2.2).row R0.out)
  have Q1 := hid (tb_row V0 x.1 x.2.1 x.2.2)
  rw [show tb V0 x.1 x.2.1 x.2.2 = V1 from e1.symm] at X1 R1 Q1
  rw [S0] at Q1
  have E0 := hid e0
  have E1 := hid e1
  have EB := hid ebx
  have ES := hid S0
  have wb : w.heap.size ≤ bx := by omega
  unfold maxLen at k2
  clear hs vw vv e0 e1 ebx S0 X0 R0 en
  have VW2 : Hid (∀ k y, l[k]? = some y → ∀ W, Ext w W → W.cell? ⟨g, (k + 1) * 3, none⟩ = some (.int .i64 y.1) ∧ W.cell? ⟨g, (k + 1) * 3 + 1, none⟩ = some (.int .i64 y.2.1) ∧ W.cell? ⟨g, (k + 1) * 3 + 2, none⟩ = some (.int .u64 y.2.2)) := fun k y e W X => by
    obtain ⟨g', eg, vv⟩ := VW.out (k + 1) y e
    simp only [Option.some.injEq, Addr.mk.injEq, and_true] at eg
    subst eg
    exact vv W X
  clear VW
  go_enter Try.func32, Try.ntmps32
  go_wp2_with (first | rw [← EB.out, ← E0.out] | rw [ES.out, ← E1.out])
  clear x0 x1 x2 E0 E1 ES EB
  go_loopw [6] (fun i wr => ∃ k : Nat, k ≤ n ∧ i = .int .i64 ((k : Int) + 1) ∧ Hid (Ext w wr ∧ wr.heap[bx]? = some (.cells #[.int .i64 0, .int .i64 0, .int .u64 0] 43 (0, 0)) ∧ wr.heap[bx + 1]? = some (.cells (ra ((l.take k).foldl mn x)) 43 (0, 0)))) (fun i _ => (n + 1 - intOf i).toNat)
  case atStart => exact ⟨0, by omega, rfl, X1.out, R1.out, Q1.out⟩
  case round =>
    obtain ⟨k, hk, rfl, J⟩ := hrel
    by_cases t : k < n
    · obtain ⟨y, ey⟩ := AT.out k t
      have TY := hid (TK.out k y ey)
      obtain ⟨o, em⟩ : ∃ o, o = (l.take k).foldl mn x := ⟨_, rfl⟩
      rw [← em] at J TY
      clear em
      have vv := VW2.out k y ey
      have O := hid (fun W => rate_any y.1 y.2.1 y.2.2 o.1 o.2.1 o.2.2 W)
      have OL := hid (cmp3_lt y.2.2 o.2.2)
      generalize cmp3 y.2.2 o.2.2 = z at *
      have i1 : (k : Int) + 1 < (n : Int) + 1 := by omega
      have i2 : (0 : Int) ≤ (k : Int) + 1 := by omega
      have i3 : ((k : Int) + 1).toNat = k + 1 := by omega
      have m1 : ∀ q : Ever wr, q.W.cell? ⟨g, (k + 1) * 3, none⟩ = _ := fun q => (vv _ (J.out.1.trans q.ok)).1
      have m2 : ∀ q : Ever wr, q.W.cell? ⟨g, (k + 1) * 3 + 1, none⟩ = _ := fun q => (vv _ (J.out.1.trans q.ok)).2.1
      have m3 : ∀ q : Ever wr, q.W.cell? ⟨g, (k + 1) * 3 + 2, none⟩ = _ := fun q => (vv _ (J.out.1.trans q.ok)).2.2
      have jr := row3 (f := o.1) (t := o.2.1) (x := o.2.2) J.out.2.2
      have m4 : ∀ q : Ever wr, q.W.cell? ⟨bx + 1, 0, none⟩ = _ := fun q => q.ok.cell jr.1
      have m5 : ∀ q : Ever wr, q.W.cell? ⟨bx + 1, 1, none⟩ = _ := fun q => q.ok.cell jr.2.1
      have m6 : ∀ q : Ever wr, q.W.cell? ⟨bx + 1, 2, none⟩ = _ := fun q => q.ok.cell jr.2.2
      have V3 := hid vv
      clear jr ey vv
      go_wp2_with fail
      refine wp_region_ext (by kernel_rfl) (by kernel_rfl) ?_
      have some := Ever.some wr
      repeat (go_big_quiet_step ((go_at_call 33; refine (O.out _).mono ?_; rintro e w' ⟨rfl, Y⟩; exact ⟨rfl, ⟨_, (Ever.ok _).trans Y⟩, rfl⟩)))
      refine wpQuiet_nil ?_
      rintro w3 ⟨⟨_, x3⟩, rfl⟩
      have X3 := hid (J.out.1.trans x3)
      have J3 := hid (And.intro (x3.row J.out.2.1) (x3.row J.out.2.2))
      obtain ⟨d0, d1, d2⟩ := V3.out w3 X3.out
      clear x3 m1 m2 m3 m4 m5 m6 O some J V3
      by_cases hz : z < 0
      · have em : mn o y = y := by unfold mn; rw [if_pos (OL.out.1 hz)]
        rw [em] at TY
        have ONE := hid (ra_one y)
        have FIN : Hid (Ext w (w3.setRow (bx + 1) (ra y)) ∧ (w3.setRow (bx + 1) (ra y)).heap[bx]? = some (.cells #[.int .i64 0, .int .i64 0, .int .u64 0] 43 (0, 0)) ∧ (w3.setRow (bx + 1) (ra y)).heap[bx + 1]? = some (.cells (ra y) 43 (0, 0))) := ⟨X3.out.setRow (by omega) _, (setRow_other _ _ _ _ (by omega)).trans J3.out.1, setRow_heap _ _ _ _ _ _ J3.out.2⟩
        go_wp2_with (refine wpList_store_row rfl 43 (.tmp 5) _ rfl (bx + 1) (ra y) rfl rfl 43 _ J3.out.2 (by kernel_rfl) rfl ONE.out ?_)
        go_roundw
        case rel => exact ⟨k + 1, by omega, by go_num, by rw [TY.out]; exact FIN.out⟩
        case measure => simp [intOf]; omega
      · have em : mn o y = o := by unfold mn; rw [if_neg (fun e => hz (OL.out.2 e))]
        rw [em] at TY
        go_wp2_with fail
        go_roundw
        case rel => exact ⟨k + 1, by omega, by go_num, by rw [TY.out]; exact ⟨X3.out, J3.out⟩⟩
        case measure => simp [intOf]; omega
    · obtain rfl : k = n := by omega
      rw [TL.out] at J
      have ONE := hid (ra_one m)
      have FIN : Hid (Ext w (wr.setRow bx (ra m)) ∧ (wr.setRow bx (ra m)).heap[bx]? = some (.cells (ra m) 43 (0, 0))) := ⟨J.out.1.setRow wb _, setRow_heap _ _ _ _ _ _ J.out.2.1⟩
      have i1 : ¬ ((k : Int) + 1 < (k : Int) + 1) := by omega
      go_wp2_with (first
        | refine wpList_load_row rfl 43 (.tmp 5) rfl (bx + 1) rfl 43 _ (0, 0) _ J.out.2.2 Try.underlying43 rfl (by kernel_rfl) ?_
        | refine wpList_store_row rfl 43 (.tmp 4) _ rfl bx (ra m) rfl rfl 43 _ J.out.2.1 (by kernel_rfl) rfl ONE.out ?_)
      try simp only [Act.put, List.setIfInBounds_toArray, List.set_cons_zero, List.set_cons_succ]
      refine bodyPost_ret (results_cell_row Try.results32 _ _ bx 43 _ (0, 0) _ rfl FIN.out.2 Try.underlying43 rfl (by kernel_rfl)) rfl ?_
      exact ⟨rfl, FIN.out.1⟩
end Go.Proofs.Yteokeieddapjhaa.Clr
