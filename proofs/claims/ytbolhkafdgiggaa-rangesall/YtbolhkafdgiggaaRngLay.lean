/-
  The walk of lay: pieces in the place of stretches.
-/
import Derived.Test.YtbolhkafdgiggaaRngSwap
import Derived.Test.YtbolhkafdgiggaaRngMake
import Derived.Deep.OwnRows
namespace Go.Proofs.Ytbolhkafdgiggaa
set_option linter.unusedVariables false
set_option maxRecDepth 100000
open Go.RowKit Go.Lib

theorem make_pairs (n : Nat) (h : n ≤ 100000) (w : World) :
    ∃ Z : List Value, Z.length = n * 2 ∧ (Instr.makeSlice 31 (.int .i64 0) (.int .i64 (n : Int))).run Try.prog w = .ok (.slice (some ⟨w.heap.size, 0, none⟩) 0 n) (w.alloc (.cells Z.toArray 33)) := by
  obtain ⟨i0, hi, hz0, hz1, hz2⟩ := info_parts info_pair
  have := run_make (P := Try.prog) w 31 33 i0 (.agg #[.int .i64 0, .int .i64 0]) Try.underlying31 hi hz0 .i64 .i64 0 (n : Int) (by omega) (by omega) (by rw [hz2]; omega) (by omega)
  rw [hz1] at this
  refine ⟨(madeCells #[.int .i64 0, .int .i64 0] (n * 2)).toList, by rw [Array.length_toList, size_madeCells], ?_⟩
  rw [this, Array.toArray_toList]
  rfl

theorem take_fill (ps : Sts) (k : Nat) (h : k < ps.length) : fill (ps.take (k + 1)) = if (ps.getD k (0, 0)).1 < (ps.getD k (0, 0)).2 then fill (ps.take k) ++ [ps.getD k (0, 0)] else fill (ps.take k) := by
  rw [take_more ps k h]
  unfold fill
  rw [List.filter_append]
  split
  · rename_i q; simp only [List.filter_cons, q, decide_true, if_true, List.filter_nil]
  · rename_i q; simp only [List.filter_cons, q, decide_false, List.filter_nil]; simp

/-- what lay has, a piece after the other -/
def Filled (w wr : World) (v : Value) (xs : Sts) : Prop := OwnG wr v xs ∧ v.ownBlock ≠ none ∧ (∀ k, v.ownBlock = some k → w.heap.size ≤ k) ∧ Ext w wr
theorem Filled.step {w wr : World} {v : Value} {xs : Sts} (h : Filled w wr v xs) (x y : Int) (hl : xs.length ≤ 20000) :
    ∃ v' w', (Builtin.append_ #[31, 31] 31 #[v, .slice (some ⟨wr.heap.size + 1, 0, none⟩) 1 1]).run Try.prog ((wr.alloc (.cells #[.int .i64 x, .int .i64 y] 33)).alloc (.cells #[.int .i64 x, .int .i64 y] 33)) = .ok v' w' ∧ Filled w w' v' (xs ++ [(x, y)]) := by
  obtain ⟨o, hb, hk, X⟩ := h
  have Y := ((Ext.refl wr).alloc (.cells #[.int .i64 x, .int .i64 y] 33)).alloc (.cells #[.int .i64 x, .int .i64 y] 33)
  have n1 := heap_alloc2_new wr (.cells #[.int .i64 x, .int .i64 y] 33) (.cells #[.int .i64 x, .int .i64 y] 33)
  have s1 : ((wr.alloc (.cells #[.int .i64 x, .int .i64 y] 33)).alloc (.cells #[.int .i64 x, .int .i64 y] 33)).heap.size = wr.heap.size + 2 := by simp
  obtain ⟨v', w', r, o', gb, hb'⟩ := append_pairs _ v xs (o.ext Y) (wr.heap.size + 1) 1 1 [.int .i64 x, .int .i64 y] [(x, y)] n1 rfl rfl (by simp; omega)
  have x1 := X.size
  refine ⟨v', w', r, o', ?_, ?_, (X.trans Y).rowed gb hk⟩
  · rcases hb' with e | e
    · rw [e]; exact hb
    · rw [e]; simp
  · intro k e
    rcases hb' with q | q
    · rw [q] at e; exact hk k e
    · rw [q] at e
      simp only [Option.some.injEq] at e
      omega

set_option maxHeartbeats 4000000 in
theorem lay_any (K : Nat → Prop) (b f t : Nat) (l ps : Sts) (pv : Value) (w : World) (hs : SetK K w b l) (hp : RowK K w pv 2 (gcells ps)) (hft : f ≤ t) (ht : t ≤ l.length) (hl : l.length ≤ 20000) (hps : ps.length ≤ 1000) :
    Calls Try.prog 30 #[.pointer (some ⟨b, 0, none⟩), .int .i64 f, .int .i64 t, pv] w fun e w' => e = .returned (.tuple #[]) ∧ SetK K w' b (laid l f t ps) ∧ Kept K w w' := by
  obtain ⟨v, sv, k1, k2, k3⟩ := hs
  obtain ⟨pa, pn, pc, rfl, p1, p2, p3, p4⟩ := hp
  have e : pn = ps.length := by rw [gcells_length] at p1; omega
  subst e
  obtain ⟨Z, zl, mk⟩ := make_pairs ps.length (by omega) w
  have X1 := (Ext.refl w).alloc (.cells Z.toArray 33)
  obtain ⟨w1, e1⟩ : ∃ w1, w1 = w.alloc (.cells Z.toArray 33) := ⟨_, rfl⟩
  rw [← e1] at mk X1
  have F1 : Hid (Filled w w1 (.slice (some ⟨w.heap.size, 0, none⟩) 0 ps.length) (fill (ps.take 0))) := by
    have g1 : w1.heap[w.heap.size]? = some (.cells (gcells [] ++ Z).toArray 33 (0, 0)) := by rw [e1]; exact heap_alloc_new w _
    refine ⟨own_of_row (l := []) (Y := Z) rfl g1 (Nat.zero_le _) (by unfold maxLen; omega) (by rw [List.length_append, zl]; simp [gcells]), by simp [Value.ownBlock], fun k hk => by simp [Value.ownBlock] at hk; omega, X1⟩
  have SV := hid sv
  have KK := hid (And.intro k1 (And.intro k2 k3))
  have P4 := hid p4
  have blt := sv.lt
  clear k1 k2 k3 p4 p1 sv zl X1 e1
  unfold maxLen at p3
  go_enter Try.func30, Try.ntmps30
  go_wp2_with fail
  go_loopw [8, 16] (fun fv i wr => ∃ k : Nat, k ≤ ps.length ∧ i = .int .i64 (k : Int) ∧ Filled w wr fv (fill (ps.take k))) (fun _ i _ => (ps.length - intOf i).toNat)
  case atStart => exact ⟨0, by omega, rfl, F1.out⟩
  case round =>
    obtain ⟨k, hk, rfl, F⟩ := hrel
    clear F1 mk
    by_cases q : k < ps.length
    · obtain ⟨g, o, rfl, hg, hc⟩ := P4.out (by omega)
      have x1 := F.2.2.2.cell (hc _ _ (gcells_at ps k q).1)
      have x2 := F.2.2.2.cell (hc _ _ (gcells_at ps k q).2)
      rw [← Nat.add_assoc] at x2
      have TF := hid (take_fill ps k q)
      have ST := hid (F.step (ps.getD k (0, 0)).1 (ps.getD k (0, 0)).2 (by
        have := List.length_filter_le (fun p : Int × Int => decide (p.1 < p.2)) (ps.take k)
        unfold fill
        rw [List.length_take] at this
        omega))
      obtain ⟨fa, fn, fc, ef⟩ := owns_slice F.1
      subst ef
      have FF := hid F
      have i1 : (k : Int) < (ps.length : Int) := by omega
      have i2 : (0 : Int) ≤ (k : Int) := by omega
      clear F hc
      have ep : Hid (((ps.getD k (0, 0)).1, (ps.getD k (0, 0)).2) = ps.getD k (0, 0)) := rfl
      generalize hx : (ps.getD k (0, 0)).1 = x at *
      generalize hy : (ps.getD k (0, 0)).2 = y at *
      clear hx hy
      by_cases c : x < y
      · rw [if_pos c, ← ep.out] at TF
        obtain ⟨v', w', r, F'⟩ := ST.out
        have R := hid r
        obtain ⟨fa', fn', fc', ef'⟩ := owns_slice F'.1
        subst ef'
        have F2 := hid F'
        clear ST r F'
        go_wp2_with (at_builtin; refine wpList_append_run _ rfl (.tmp 25) (.tmp 27) 31 31 rfl _ _ rfl rfl _ _ R.out ?_)
        go_roundw
        case rel => exact ⟨k + 1, by omega, by go_num, by rw [TF.out]; exact F2.out⟩
        case measure => simp [intOf]; omega
      · rw [if_neg c] at TF
        have F2 : Hid (Filled w (wr.alloc (.cells #[.int .i64 x, .int .i64 y] 33)) (.slice fa fn fc) (fill (ps.take (k + 1)))) := by
          show Filled _ _ _ _
          rw [TF.out]
          have Y := (Ext.refl wr).alloc (.cells #[.int .i64 x, .int .i64 y] 33)
          exact ⟨FF.out.1.ext Y, FF.out.2.1, FF.out.2.2.1, FF.out.2.2.2.trans Y⟩
        clear ST
        go_wp2_with fail
        go_roundw
        case rel => exact ⟨k + 1, by omega, by go_num, F2.out⟩
        case measure => simp [intOf]; omega
    · obtain rfl : k = ps.length := by omega
      rw [List.take_length] at F
      obtain ⟨h1, h2, h3, h4⟩ := F
      have sv := SV.out.ext h4
      have vlt := fun k e => (World.ownsRow.lt SV.out.2 k e).2
      have C := hid (replace_any wr v _ l (fill ps) f t sv.2 h1 (fun k e1 e2 => by have := vlt k e1; have := h3 k e2; omega) h2 hft ht hl (by
        have := List.length_filter_le (fun p : Int × Int => decide (p.1 < p.2)) ps
        unfold fill
        omega))
      obtain ⟨fa, fn, fc, ef⟩ := owns_slice h1
      obtain ⟨va, vn, vc, ev⟩ := owns_slice sv.2
      have c1 := sv.cell
      have XX := hid h4
      have S1 := hid sv
      have VL := hid vlt
      subst ef
      subst ev
      clear h1 h2 h3 h4 sv vlt
      go_wp2_with fail
      refine C.out.mono ?_
      rintro e w2 ⟨s', rfl, T1⟩
      obtain ⟨a2, n2, c2, e2⟩ := owns_slice T1.1
      have bne : some b ≠ (Value.slice va vn vc).ownBlock := fun e => (KK.out.2.1 b e.symm).2 rfl
      have hb2 : w2.heap[b]? = some (.cells #[.slice va vn vc] 57 (0, 0)) := by
        rw [T1.2.1.block b S1.out.lt bne]; exact S1.out.1
      have d1 : w2.cell? ⟨b, 0, none⟩ = some (.slice va vn vc) := by rw [cell_of_row w2 b 0 _ _ _ hb2]; rfl
      have d2 : w2.frozen? ⟨b, 0, none⟩ = false := frozen_of_row _ _ _ _ _ hb2
      have R : Hid (SetK K (w2.setCell ⟨b, 0, none⟩ s') b (laid l f t ps) ∧ Kept K w (w2.setCell ⟨b, 0, none⟩ s')) := by
        have xs := XX.out.size
        have own2 : ∀ k, s'.ownBlock = some k → ¬ K k ∧ k ≠ b := by
          intro k e
          rcases T1.2.2 with q1 | ⟨m, q1, q2⟩
          · rw [q1] at e; exact KK.out.2.1 k e
          · rw [q1] at e
            simp only [Option.some.injEq] at e
            subst e
            exact ⟨fun hK => by have := KK.out.2.2 _ hK; omega, by omega⟩
        refine ⟨⟨s', ⟨?_, ?_⟩, KK.out.1, own2, fun i hi => ?_⟩, ?_⟩
        · rw [setCell_eq_setRow _ _ _ _ _ _ _ hb2]
          exact setRow_heap _ _ _ _ _ _ hb2
        · exact T1.1.kept (K := fun i => i ≠ b) ((Kept.refl _ w2).setCell (by simp) s') (fun g e => (own2 g e).2)
        · have := KK.out.2.2 i hi
          have := T1.2.1.size
          simp
          omega
        · exact ((Kept.of_ext XX.out).grown T1.2.1 (fun k e => (KK.out.2.1 k e).1)).setCell KK.out.1 s'
      subst e2
      clear T1 C hb2 bne c1
      go_wp2_with fail
      go_end0
      exact ⟨rfl, R.1, R.2⟩
end Go.Proofs.Ytbolhkafdgiggaa
