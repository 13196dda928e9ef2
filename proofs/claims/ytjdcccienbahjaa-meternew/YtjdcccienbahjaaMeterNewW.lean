/-
  The walk of MeterNew: there are meters of just the windows that are allowed; a copy goes on by itself.
-/
import Derived.Test.YtjdcccienbahjaaAwake4
import Derived.Test.YtjdcccienbahjaaMeterCopy
import Derived.OpenShut
import Derived.Lib.SmallJoins
namespace Go.Proofs.Ytjdcccienbahjaa.meterNew
set_option linter.unusedVariables false
open Go.RowKit

theorem fresh {w : World} {base b : Nat} {win : Int} (h : Block w b win 0 (.slice none 0 0)) (hb : base ≤ b) (hs : base ≤ w.heap.size) (h1 : 1 ≤ win) (h2 : win ≤ 64) : MeterAt base w b win [] :=
  ⟨.slice none 0 0, [], h, World.ownsRow_nil _ _ _ _, hb, hs, Keeps.nil _ _, Fine.nil, h1, h2⟩

theorem Block.below {B : Nat} {w w' : World} {b : Nat} {win last : Int} {v : Value} (h : Block w b win last v) (hb : b < B) (e : Below B w w') : Block w' b win last v := by
  unfold Block at *
  rw [e.block b hb, h]

/-- the world in the loop -/
def In (w w2 wr : World) (win : Int) (k : Nat) : Prop :=
  Below (w.heap.size + 1) w2 wr ∧ ∃ y, y.length ≤ k ∧ MeterAt (w.heap.size + 1) wr (w.heap.size + 1) win y
theorem In.below {w w2 wr : World} {win : Int} {k : Nat} (h : In w w2 wr win k) : Below (w.heap.size + 1) w2 wr := h.1

theorem In.ext {w w2 wr : World} {win : Int} {k : Nat} (h : In w w2 wr win k) (e : Ext w w2) : Ext w wr := Below.trans e (Below.mono h.below (Nat.le_succ _))

theorem In.next {w w2 wr : World} {win t n : Int} {k : Nat} (h : In w w2 wr win k) (hk : k ≤ 900) (hs : w.heap.size + 1 < w2.heap.size) (o : Obj) :
    Calls Try.prog 15 #[.pointer (some ⟨w.heap.size + 1, 0, none⟩), .int .i64 t, .int .i64 n] (wr.alloc o) fun e w' => (∃ r, e = .returned (.int .i64 r)) ∧ In w w2 w' win (k + 1) := by
  obtain ⟨hb, y, hy, hm⟩ := h
  have hm2 := hm.ext ((Ext.refl wr).alloc o)
  refine (add_any' (w.heap.size + 1) (w.heap.size + 1) win t n y _ hm2 (by omega)).mono ?_
  rintro e w' ⟨rfl, M, L, _⟩
  have hsz := hb.size
  exact ⟨⟨_, rfl⟩, (hb.alloc (by omega) o).trans L, _, by have := played_length y t n; omega, M⟩

set_option maxHeartbeats 4000000 in
theorem walk (a0 : Int) (v1 : Value) (l : Ams) (w0 : (Lit.int .i64 a0).wf = true) (w : World) (hl : IsAms w v1 l) :
    Calls Try.prog 5 #[.int .i64 a0, v1] w fun e w' => e = .returned (.bool true) ∧ Below w.heap.size w w' := by
  obtain ⟨b0, b0'⟩ := bounds_i64 w0
  clear w0
  obtain ⟨ao, cp, rfl, vw⟩ := id hl
  have HL := hid hl
  clear hl
  by_cases t1 : 40 < l.length
  · have t1' : (40 : Int) < (l.length : Int) := by omega
    clear vw
    go_enter Try.func5, Try.ntmps5
    go_wp2_with fail
    refine (awake4_any _).mono ?_
    rintro e w' ⟨rfl, X⟩
    go_wp2_with fail
    go_ret
    exact ⟨rfl, X⟩
  · have t1' : decide ((40 : Int) < (l.length : Int)) = false := by simp; omega
    have t2 : l.length ≤ 40 := by omega
    clear t1
    by_cases t3 : a0 < 1 ∨ 64 < a0
    · clear vw
      have N := hid (new_none a0 w t3)
      by_cases t4 : a0 < 1
      · clear t3
        go_enter Try.func5, Try.ntmps5
        go_wp2_with fail
        refine N.out.mono ?_
        rintro e w' ⟨rfl, rfl⟩
        go_wp2_with fail
        refine (awake4_any _).mono ?_
        rintro e w'' ⟨rfl, X⟩
        go_wp2_with fail
        go_ret
        exact ⟨rfl, X⟩
      · have t5 : 64 < a0 := by omega
        clear t3
        go_enter Try.func5, Try.ntmps5
        go_wp2_with fail
        refine N.out.mono ?_
        rintro e w' ⟨rfl, rfl⟩
        go_wp2_with fail
        refine (awake4_any _).mono ?_
        rintro e w'' ⟨rfl, X⟩
        go_wp2_with fail
        go_ret
        exact ⟨rfl, X⟩
    · have h1 : 1 ≤ a0 := by omega
      have h2 : a0 ≤ 64 := by omega
      have d1 : decide (a0 < 1) = false := by simp; omega
      have d2 : decide (64 < a0) = false := by simp; omega
      clear t3
      have N := hid (new_any a0 w h1 h2)
      have X1 : Hid (Ext w (w.alloc (.cells #[.int .i64 a0, .int .i64 0, .slice none 0 0] 49 (0, 0)))) := (Ext.refl w).alloc _
      have B1 : Hid (Block (w.alloc (.cells #[.int .i64 a0, .int .i64 0, .slice none 0 0] 49 (0, 0))) w.heap.size a0 0 (.slice none 0 0)) := heap_alloc_new w _
      have S1 : (w.alloc (.cells #[.int .i64 a0, .int .i64 0, .slice none 0 0] 49 (0, 0))).heap.size = w.heap.size + 1 := by simp
      obtain ⟨H, eH⟩ : ∃ H, H = w.heap.size := ⟨_, rfl⟩
      rw [← eH] at B1 S1
      go_enter Try.func5, Try.ntmps5
      go_wp2_with fail
      refine N.out.mono ?_
      rintro e w1 ⟨rfl, rfl⟩
      rw [← eH]
      obtain ⟨w1, e1⟩ : ∃ w1, w1 = w.alloc (.cells #[.int .i64 a0, .int .i64 0, .slice none 0 0] 49 (0, 0)) := ⟨_, rfl⟩
      rw [← e1] at X1 B1 S1
      rw [← e1]
      have EH := hid eH
      have SS := hid S1
      clear e1 eH N S1
      go_wp2_with fail
      refine (copy_fresh H a0 w1 B1.out).mono ?_
      rintro e w2 ⟨rfl, X2, B2⟩
      rw [SS.out]
      rw [SS.out] at B2
      have XX := hid (X1.out.trans X2)
      have BM : Hid (Block w2 H a0 0 (.slice none 0 0)) := X2.row B1.out
      have LT : Hid (H + 1 < w2.heap.size) := B2.lt
      have I0 : Hid (In w w2 w2 a0 0) := by
        rw [EH.out] at B2
        exact ⟨Below.refl _ _, [], by simp, fresh B2 (Nat.le_refl _) (Nat.le_of_lt B2.lt) h1 h2⟩
      clear X2 B2
      go_wp2_with fail
      go_loopw [46] (fun i wr => ∃ k : Nat, k ≤ l.length ∧ i = .int .i64 k ∧ Hid (In w w2 wr a0 k)) (fun i _ => (l.length - intOf i).toNat)
      case atStart => exact ⟨0, by omega, rfl, I0⟩
      case round =>
        obtain ⟨k, hk, rfl, I⟩ := hrel
        by_cases t4 : k < l.length
        · obtain ⟨g, o, rfl, hg, x1, x2⟩ := vw k t4
          have XR := I.out.ext XX.out
          have y1 := XR.cell x1
          have y2 := XR.cell x2
          obtain ⟨d, ed⟩ : ∃ d, d = (l.getD k (0, 0)).1 := ⟨_, rfl⟩
          obtain ⟨n, en⟩ : ∃ n, n = (l.getD k (0, 0)).2 := ⟨_, rfl⟩
          rw [← ed] at y1
          rw [← en] at y2
          have i1 : (k : Int) < (l.length : Int) := by omega
          have i2 : (0 : Int) ≤ (k : Int) := by omega
          have NX := hid (In.next (t := d) (n := n) I.out (by omega) (by rw [← EH.out]; exact LT.out) (.cells #[.int .i64 d, .int .i64 n] 39))
          rw [← EH.out] at NX
          clear vw x1 x2 XR ed en
          go_wp2_with fail
          refine NX.out.mono ?_
          rintro e w3 ⟨⟨r, rfl⟩, J⟩
          have JJ := hid J
          clear J NX y1 y2
          go_wp2_with fail
          go_roundw
          case rel => exact ⟨k + 1, by omega, by go_num, JJ⟩
          case measure => simp [intOf]; omega
        · rw [show (k : Int) = (l.length : Int) by omega]
          have EX := hid (I.out.ext XX.out)
          have B3 : Hid (Block wr H a0 0 (.slice none 0 0)) := Block.below BM.out (by rw [EH.out]; omega) I.out.below
          clear vw t4
          go_wp2_with fail
          refine (last_any H a0 0 _ wr B3.out).mono ?_
          rintro e w3 ⟨rfl, rfl⟩
          have M := hid (fresh (base := H) B3.out (Nat.le_refl _) (Nat.le_of_lt B3.out.lt) h1 h2)
          go_wp2_with fail
          refine (sum_any H H a0 0 [] _ M.out (by simp) (by rw [lastOf_nil]; omega) (by omega)).mono ?_
          rintro e w4 ⟨rfl, x4⟩
          have X4 := hid x4
          clear x4
          simp only [tally]
          go_wp2_with fail
          refine (sum_any H H a0 5 [] _ (M.out.ext X4.out) (by simp) (by rw [lastOf_nil]; omega) (by omega)).mono ?_
          rintro e w5 ⟨rfl, x5⟩
          have X5 := hid (X4.out.trans x5)
          clear x5
          simp only [tally]
          go_wp2_with fail
          refine (awake4_any _).mono ?_
          rintro e w6 ⟨rfl, x6⟩
          have X6 := hid (EX.out.trans (X5.out.trans x6))
          clear x6
          go_wp2_with fail
          go_ret
          exact ⟨rfl, X6⟩
end Go.Proofs.Ytjdcccienbahjaa.meterNew
