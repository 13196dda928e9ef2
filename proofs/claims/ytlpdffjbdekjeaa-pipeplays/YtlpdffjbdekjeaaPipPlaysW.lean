/-
  The walk of PipePlays: a pipe answers every sequence of calls as a list does.
-/
import Derived.Test.YtlpdffjbdekjeaaPipNewW
import Derived.Test.YtlpdffjbdekjeaaPipOps2
namespace Go.Proofs.Ytlpdffjbdekjeaa
set_option linter.unusedVariables false
set_option maxRecDepth 100000
open Go.RowKit Go.Lib
/-- pipe and list, as a law's loop carries them -/
def StP (K : Nat → Prop) (w wr : World) (b : Nat) (room : Int) (xv : Value) (x : Ms) : Prop := PipK K wr b room (ord x) ∧ RowK K wr xv 2 (rcells x) ∧ (∀ i, i < w.heap.size → K i) ∧ Ext w wr
theorem StP.new {w ws : World} (X : Ext w ws) (room : Int) (h1 : ¬ room < 1) (h2 : ¬ 256 < room) : StP (fun i => i < ws.heap.size) w (ws.alloc (.cells #[.int .i64 room, .slice none 0 0] 50 (0, 0))) ws.heap.size room (.slice none 0 0) [] :=
  ⟨new_pipe room ws h1 h2, RowK.nil _ _ _, fun i hi => Nat.lt_of_lt_of_le hi X.size, X.alloc _⟩
theorem StP.ext {K : Nat → Prop} {w wr wr' : World} {b : Nat} {room : Int} {xv : Value} {x : Ms} (h : StP K w wr b room xv x) (e : Ext wr wr') : StP K w wr' b room xv x := ⟨h.1.ext e, h.2.1.kept (Kept.of_ext e), h.2.2.1, h.2.2.2.trans e⟩
theorem StP.more {K : Nat → Prop} {w wr wr' : World} {b : Nat} {room : Int} {xv : Value} {x : Ms} (h : StP K w wr b room xv x) (e : Ext wr wr') : StP (fun i => K i ∨ (wr.heap.size ≤ i ∧ i < wr'.heap.size)) w wr' b room xv x :=
  ⟨h.1.more e, (h.2.1.kept (Kept.of_ext e)).mono (by decide) (fun i _ hi => .inl hi), fun i hi => .inl (h.2.2.1 i hi), h.2.2.2.trans e⟩
/-- one call more -/
theorem StP.step {K : Nat → Prop} {w wr : World} {b : Nat} {room : Int} {xv : Value} {x : Ms} (h : StP K w wr b room xv x) (kind at_ N : Int) (tv : Value) (t : List UInt8) (ht : Bytes wr tv t) (hp : Plain tv) :
    Calls Try.prog 10 #[.pointer (some ⟨b, 0, none⟩), xv, .int .i64 room, .agg #[.int .i64 kind, .int .i64 at_, .int .i64 N, tv]] wr fun e w' => ∃ xv' x' K', e = .returned (.tuple #[xv', .bool true]) ∧ StP K' w w' b room xv' x' ∧ (∀ i, K i → K' i) ∧ Kept K wr w' := by
  refine (step_any K b room kind at_ N x xv tv t wr h.1 h.2.1 ht hp).mono ?_
  rintro e w' ⟨xv', x', K', rfl, a1, a2, a3, a4⟩
  exact ⟨xv', x', K', rfl, ⟨a2, a3, fun i hi => a1 i (h.2.2.1 i hi), ext_kept h.2.2.2 a4 h.2.2.1⟩, a1, a4⟩
end Go.Proofs.Ytlpdffjbdekjeaa
namespace Go.Proofs.Ytlpdffjbdekjeaa.pipePlays
set_option linter.unusedVariables false
set_option maxRecDepth 100000
open Go.RowKit Go.Lib

set_option maxHeartbeats 2000000 in
theorem walk (room : Int) (v : Value) (os : OpsP) (w : World) (hv : OpsIn w v os) : Calls Try.prog 3 #[.int .i64 room, v] w fun e w' => e = .returned (.bool true) ∧ Ext w w' := by
  have AW := hid (fun W => awake_any W)
  have SM := hid (small_any v os w hv)
  obtain ⟨ao, c, rfl, q1, q2, hc⟩ := hv.view
  have HC := hid hc
  unfold maxLen at q2
  clear hc hv
  generalize os.length = m at *
  go_enter Try.func3, Try.ntmps3
  go_wp2_with fail
  refine SM.out.mono ?_
  rintro e ws ⟨⟨r, rfl⟩, xs⟩
  have XS := hid xs
  clear SM xs
  by_cases hq : r = false ∨ room < 1 ∨ 256 < room
  · have FIN : Hid (∀ W', Ext ws W' → Ext w W') := fun W' h => XS.out.trans h
    have AWS := hid (AW.out ws)
    rcases hq with hr | hr
    · subst hr
      go_wp2_with fail
      refine AWS.out.mono ?_
      rintro e w2 ⟨rfl, x2⟩
      have X2 := hid (FIN.out _ x2)
      clear x2
      go_wp2_with fail
      go_ret
      exact ⟨rfl, X2.out⟩
    · cases r with
      | false =>
        go_wp2_with fail
        refine AWS.out.mono ?_
        rintro e w2 ⟨rfl, x2⟩
        have X2 := hid (FIN.out _ x2)
        clear x2
        go_wp2_with fail
        go_ret
        exact ⟨rfl, X2.out⟩
      | true =>
        by_cases h1 : room < 1
        · clear hr
          go_wp2_with fail
          refine AWS.out.mono ?_
          rintro e w2 ⟨rfl, x2⟩
          have X2 := hid (FIN.out _ x2)
          clear x2
          go_wp2_with fail
          go_ret
          exact ⟨rfl, X2.out⟩
        · have h2 : 256 < room := by omega
          clear hr
          go_wp2_with fail
          refine AWS.out.mono ?_
          rintro e w2 ⟨rfl, x2⟩
          have X2 := hid (FIN.out _ x2)
          clear x2
          go_wp2_with fail
          go_ret
          exact ⟨rfl, X2.out⟩
  · obtain rfl : r = true := by cases r with
      | false => exact absurd (.inl rfl) hq
      | true => rfl
    have h1 : ¬ room < 1 := by omega
    have h2 : ¬ 256 < room := by omega
    have N := hid (new_any room ws h1 h2)
    have S0 := hid (StP.new XS.out room h1 h2)
    clear hq
    go_wp2_with fail
    refine N.out.mono ?_
    rintro e w1 ⟨rfl, rfl⟩
    generalize ws.alloc (.cells #[.int .i64 room, .slice none 0 0] 50 (0, 0)) = w1 at *
    obtain ⟨b, eb⟩ : ∃ b, b = ws.heap.size := ⟨_, rfl⟩
    rw [← eb]
    rw [← eb] at S0
    clear eb N
    go_wp2_with fail
    go_loopw [7, 9, 10, 36] (fun xv _ _ i wr => ∃ (k : Nat) (K : Nat → Prop) (x : Ms), k ≤ m ∧ i = .int .i64 (k : Int) ∧ Hid (StP K w wr b room xv x)) (fun _ _ _ i _ => (m - intOf i).toNat)
    case atStart => exact ⟨0, _, [], by omega, rfl, S0.out⟩
    case round =>
      obtain ⟨k, K, x, hk, rfl, S⟩ := hrel
      clear S0
      by_cases h : k < m
      · obtain ⟨g, o, kind, at_, N, s, t, eg, x1, x2, x3, x4, b1, b2⟩ := HC.out k h
        subst eg
        have X := S.out.2.2.2
        replace x1 := X.cell x1
        replace x2 := X.cell x2
        replace x3 := X.cell x3
        replace x4 := X.cell x4
        obtain ⟨W, eW⟩ : ∃ W, W = wr.alloc (.cells #[.int .i64 kind, .int .i64 at_, .int .i64 N, sval s] 32) := ⟨_, rfl⟩
        have XW : Ext wr W := by rw [eW]; exact (Ext.refl wr).alloc _
        have zW : W.heap.size = wr.heap.size + 1 := by rw [eW]; simp
        have bw : W.heap[wr.heap.size]? = some (.cells #[.int .i64 kind, .int .i64 at_, .int .i64 N, sval s] 32 (0, 0)) := by rw [eW]; exact heap_alloc_new wr _
        have ST := hid ((S.out.more XW).step kind at_ N (sval s) t ((b1.ext X).ext XW) b2)
        have BX : Hid (∀ w', Kept (fun i => K i ∨ (wr.heap.size ≤ i ∧ i < W.heap.size)) W w' → w'.cell? ⟨wr.heap.size, 1, none⟩ = some (.int .i64 at_)) := fun w' k' => k'.cell (a := ⟨wr.heap.size, 1, none⟩) (.inr ⟨Nat.le_refl _, by simp only; omega⟩) (by rw [cell_of_row _ _ 1 _ _ _ bw]; rfl)
        have EW := hid eW
        have i1 : (k : Int) < (m : Int) := by omega
        have i2 : (0 : Int) ≤ (k : Int) := by omega
        obtain ⟨s1, s2, s3⟩ := s
        simp only [sval] at x4 ST EW
        clear S b1 b2 X XW zW bw eW
        go_wp2_with fail
        rw [← EW.out]
        refine ST.out.mono ?_
        rintro e w2 ⟨xv', x', K', rfl, a1, a2, a3⟩
        have c2 := BX.out w2 a3
        have SA := hid (same_any K' b room at_ x' xv' w2 a1.1 a1.2.1)
        have A1 := hid a1
        clear ST BX a1 a2 a3 x1 x2 x3 x4
        go_wp2_with fail
        refine SA.out.mono ?_
        rintro e w3 ⟨rfl, x3⟩
        have A3 := hid (A1.out.ext x3)
        clear SA x3 A1 c2
        go_wp2_with fail
        go_roundw
        case rel => exact ⟨k + 1, _, _, by omega, by go_num, A3⟩
        case measure => simp [intOf]; omega
      · obtain rfl : k = m := by omega
        have X := hid S.out.2.2.2
        clear S
        go_wp2_with fail
        refine (AW.out _).mono ?_
        rintro e w2 ⟨rfl, x2⟩
        have X2 := hid (X.out.trans x2)
        clear x2
        go_wp2_with fail
        go_ret
        exact ⟨rfl, X2.out⟩
end Go.Proofs.Ytlpdffjbdekjeaa.pipePlays
