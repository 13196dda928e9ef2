/-
  The walk of MeterEach: after each amount the meter tells what it must.
-/
import Derived.Test.YtjdcccienbahjaaMeterKept
namespace Go.Proofs.Ytjdcccienbahjaa.meterEach
set_option linter.unusedVariables false
open Go.RowKit

/-- what is asked behind each amount, in a world where both stand side by side -/
def Asks (w W : World) (win : Int) (k : Nat) (v : Value) (x : Ams) (t s : Int) : Prop :=
  (∃ u, Block W w.heap.size win t u) ∧
  (∀ w', Ext W w' → Calls Try.prog 11 #[.pointer (some ⟨w.heap.size, 0, none⟩), .int .i64 t] w' fun e w'' => e = .returned (.int .i64 s) ∧ Ext w' w'') ∧
  (∀ w', Ext W w' → Calls Try.prog 10 #[v, .int .i64 win, .int .i64 t] w' fun e w'' => e = .returned (.int .i64 s) ∧ w'' = w') ∧
  (∀ w', Ext W w' → Calls Try.prog 11 #[.pointer (some ⟨w.heap.size, 0, none⟩), .int .i64 (t + win)] w' fun e w'' => e = .returned (.int .i64 0) ∧ Ext w' w'') ∧
  (0 ≤ t) ∧
  (t ≤ 1099511627776)
theorem Asks.last {w W : World} {win : Int} {k : Nat} {v : Value} {x : Ams} {t s : Int} (h : Asks w W win k v x t s) : ∃ u, Block W w.heap.size win t u := h.1
theorem Asks.sum {w W : World} {win : Int} {k : Nat} {v : Value} {x : Ams} {t s : Int} (h : Asks w W win k v x t s) : ∀ w', Ext W w' → Calls Try.prog 11 #[.pointer (some ⟨w.heap.size, 0, none⟩), .int .i64 t] w' fun e w'' => e = .returned (.int .i64 s) ∧ Ext w' w'' := h.2.1
theorem Asks.ref {w W : World} {win : Int} {k : Nat} {v : Value} {x : Ams} {t s : Int} (h : Asks w W win k v x t s) : ∀ w', Ext W w' → Calls Try.prog 10 #[v, .int .i64 win, .int .i64 t] w' fun e w'' => e = .returned (.int .i64 s) ∧ w'' = w' := h.2.2.1
theorem Asks.none {w W : World} {win : Int} {k : Nat} {v : Value} {x : Ams} {t s : Int} (h : Asks w W win k v x t s) : ∀ w', Ext W w' → Calls Try.prog 11 #[.pointer (some ⟨w.heap.size, 0, none⟩), .int .i64 (t + win)] w' fun e w'' => e = .returned (.int .i64 0) ∧ Ext w' w'' := h.2.2.2.1
theorem Asks.low {w W : World} {win : Int} {k : Nat} {v : Value} {x : Ams} {t s : Int} (h : Asks w W win k v x t s) : 0 ≤ t := h.2.2.2.2.1
theorem Asks.high {w W : World} {win : Int} {k : Nat} {v : Value} {x : Ams} {t s : Int} (h : Asks w W win k v x t s) : t ≤ 1099511627776 := h.2.2.2.2.2

theorem asks {w W : World} {win : Int} {k : Nat} {v : Value} {x : Ams} (h : Side w W win k v x) (hk : k ≤ 900) : Asks w W win k v x (lastOf x) (tally x (lastOf x - win) (lastOf x)) := by
  have f := h.meter.fine
  have fl := f.last
  have wi := h.meter.win
  have hl := h.len
  have tot := f.total
  refine ⟨h.meter.block, fun w' e => ?_, fun w' e => ?_, fun w' e => ?_, fl.1, fl.2⟩
  · exact sum_any _ _ win _ x w' (h.meter.ext e) (by omega) (by omega) (by omega)
  · exact refSum_any v x win _ w' (h.kept.ext e).ams (by omega) wi.1 wi.2 (by omega) (by omega) f.nonneg (by omega)
  · have := sum_any _ _ win (lastOf x + win) x w' (h.meter.ext e) (by omega) (by omega) (by omega)
    rwa [show lastOf x + win - win = lastOf x by omega, tally_after] at this

set_option maxHeartbeats 8000000 in
theorem walk (a0 : Int) (v1 : Value) (l : Ams) (w0 : (Lit.int .i64 a0).wf = true) (w : World) (hl : IsAms w v1 l) :
    Calls Try.prog 4 #[.int .i64 a0, v1] w fun e w' => e = .returned (.bool true) ∧ Below w.heap.size w w' := by
  obtain ⟨b0, b0'⟩ := bounds_i64 w0
  clear w0
  obtain ⟨ao, cp, rfl, vw⟩ := id hl
  clear hl
  by_cases t1 : 60 < l.length
  · have t1' : (60 : Int) < (l.length : Int) := by omega
    clear vw
    go_enter Try.func4, Try.ntmps4
    go_wp2_with fail
    refine (awake4_any _).mono ?_
    rintro e w' ⟨rfl, X⟩
    go_wp2_with fail
    go_ret
    exact ⟨rfl, X⟩
  · have t1' : decide ((60 : Int) < (l.length : Int)) = false := by simp; omega
    have t2 : l.length ≤ 60 := by omega
    clear t1
    by_cases t4 : a0 < 1
    · clear vw
      go_enter Try.func4, Try.ntmps4
      go_wp2_with fail
      refine (awake4_any _).mono ?_
      rintro e w'' ⟨rfl, X⟩
      go_wp2_with fail
      go_ret
      exact ⟨rfl, X⟩
    · by_cases t5 : 64 < a0
      · clear vw
        go_enter Try.func4, Try.ntmps4
        go_wp2_with fail
        refine (awake4_any _).mono ?_
        rintro e w'' ⟨rfl, X⟩
        go_wp2_with fail
        go_ret
        exact ⟨rfl, X⟩
      · have h1 : 1 ≤ a0 := by omega
        have h2 : a0 ≤ 64 := by omega
        have d1 : decide (a0 < 1) = false := by simp; omega
        have d2 : decide (64 < a0) = false := by simp; omega
        clear t4 t5
        obtain ⟨i0, hi, hz0, hz1, hz2⟩ := info_parts info_Amount
        have N := hid (new_any a0 w h1 h2)
        have S0 : Hid (Side w (w.alloc (.cells #[.int .i64 a0, .int .i64 0, .slice none 0 0] 49 (0, 0))) a0 0 (.slice none 0 0) []) :=
          ⟨(Ext.refl w).alloc _, by simp, MeterAt.made w a0 h1 h2, World.ownsRow_nil _ _ _ _⟩
        obtain ⟨H, eH⟩ : ∃ H, H = w.heap.size := ⟨_, rfl⟩
        go_enter Try.func4, Try.ntmps4
        go_wp2_with fail
        refine N.out.mono ?_
        rintro e w1 ⟨rfl, rfl⟩
        rw [← eH]
        obtain ⟨w1, e1⟩ : ∃ w1, w1 = w.alloc (.cells #[.int .i64 a0, .int .i64 0, .slice none 0 0] 49 (0, 0)) := ⟨_, rfl⟩
        rw [← e1] at S0
        rw [← e1]
        have EH := hid eH
        clear e1 eH N
        go_wp2_with fail
        go_loopw [7, 36] (fun v i wr => ∃ (k : Nat) (x : Ams), k ≤ l.length ∧ i = .int .i64 k ∧ Hid (Side w wr a0 k v x)) (fun _ i _ => (l.length - intOf i).toNat)
        case atStart => exact ⟨0, [], by omega, rfl, S0⟩
        case round =>
          clear S0
          obtain ⟨k, x, hk, rfl, I⟩ := hrel
          by_cases t4 : k < l.length
          · obtain ⟨g, o, rfl, hg, x1, x2⟩ := vw k t4
            have y1 := I.out.ext.cell x1
            have y2 := I.out.ext.cell x2
            obtain ⟨d, ed⟩ : ∃ d, d = (l.getD k (0, 0)).1 := ⟨_, rfl⟩
            obtain ⟨n, en⟩ : ∃ n, n = (l.getD k (0, 0)).2 := ⟨_, rfl⟩
            rw [← ed] at y1
            rw [← en] at y2
            have i1 : (k : Int) < (l.length : Int) := by omega
            have i2 : (0 : Int) ≤ (k : Int) := by omega
            have NX := hid (I.out.add (by omega) d n)
            rw [← EH.out] at NX
            have xl := I.out.len
            obtain ⟨B, eB⟩ : ∃ B, B = wr.heap.size := ⟨_, rfl⟩
            rw [← eB] at NX
            obtain ⟨E, eE⟩ : ∃ E, E = toldErr x d n := ⟨_, rfl⟩
            rw [← eE] at NX
            clear vw x1 x2 ed en
            go_wp2_with fail
            rw [← eB]
            refine NX.out.mono ?_
            rintro e w3 ⟨rfl, e3, m3, k3, r3⟩
            have z1 : w3.cell? ⟨B, 0, none⟩ = some (.int .i64 d) := by rw [cell_of_row w3 B 0 _ _ _ r3]; rfl
            have z2 : w3.cell? ⟨B, 1, none⟩ = some (.int .i64 n) := by rw [cell_of_row w3 B 1 _ _ _ r3]; rfl
            have R3 := hid (And.intro e3 (And.intro m3 k3))
            have EE := hid eE
            clear e3 m3 k3 r3 eE eB NX y1 y2
            by_cases hE : E = 0
            · have PL := hid (told_ok (EE.out.symm.trans hE))
              subst hE
              have M3 : Hid (MeterAt w.heap.size w3 w.heap.size a0 (x ++ [(d, n)])) := by
                have := R3.out.2.1
                rw [EH.out, PL.out] at this
                exact this
              have KA : Hid ((w3.alloc (.cells #[.int .i64 d, .int .i64 n] 39)).ownsRow H 39 2 u7 x.length (cells2 x)) := World.ownsRow.alloc R3.out.2.2 _
              have HS : H ≤ w3.heap.size := by rw [EH.out]; exact R3.out.1.size
              go_wp2_with (at_builtin; refine wpList_append_own _ rfl _ _ 22 rfl H 39 i0 (.agg #[.int .i64 0, .int .i64 0]) 2 16 Try.underlying22 hi hz0 hz1 hz2 rfl (by decide) _ _ _ rfl KA.out ⟨w3.heap.size, 0, none⟩ 1 1 [.int .i64 d, .int .i64 n] rfl rfl (cell_two_new _ _ _ _) ?c2 ?c3 ?c4 ?c5 ?_)
              case c2 => intro u hu; simp at hu; rcases hu with rfl | rfl <;> rfl
              case c3 => unfold maxLen; omega
              case c4 => omega
              case c5 => simp; omega
              intro VV w4 o4 g4 _
              obtain ⟨XX, eX⟩ : ∃ XX, XX = x ++ [(d, n)] := ⟨_, rfl⟩
              have SD : Hid (Side w w4 a0 (k + 1) VV XX) := by
                rw [EH.out] at o4
                rw [eX]
                exact Side.grown R3.out.1 xl M3.out (by have := R3.out.2.2; rw [EH.out] at this; exact this) o4 g4
              clear o4 g4 M3 KA R3 PL eX z1 z2
              have AS := asks SD.out (by omega)
              obtain ⟨T, eT⟩ : ∃ T, T = lastOf XX := ⟨_, rfl⟩
              obtain ⟨Q, eQ⟩ : ∃ Q, Q = tally XX (lastOf XX - a0) (lastOf XX) := ⟨_, rfl⟩
              rw [← eQ, ← eT] at AS
              have tl := AS.low
              have th := AS.high
              have AA := hid AS
              clear AS eQ eT
              go_wp2_with fail
              rw [EH.out]
              obtain ⟨bu, bB⟩ := AA.out.last
              refine (last_any _ a0 T bu _ bB).mono ?_
              rintro e w5 ⟨rfl, rfl⟩
              rw [← EH.out]
              clear bB
              go_wp2_with fail
              rw [EH.out]
              refine (AA.out.sum _ (Ext.refl _)).mono ?_
              rintro e w6 ⟨rfl, x6⟩
              rw [← EH.out]
              have X6 := hid x6
              clear x6
              go_wp2_with fail
              refine (AA.out.ref _ X6.out).mono ?_
              rintro e w7 ⟨rfl, rfl⟩
              go_wp2_with fail
              rw [EH.out]
              refine (AA.out.none _ X6.out).mono ?_
              rintro e w8 ⟨rfl, x8⟩
              rw [← EH.out]
              have SD2 : Hid (Side w w8 a0 (k + 1) VV XX) := SD.out.step (X6.out.trans x8)
              clear x8 X6 AA SD
              go_wp2_with fail
              go_roundw
              case rel => exact ⟨k + 1, XX, by omega, by go_num, SD2⟩
              case measure => simp [intOf]; omega
            · have PL := hid (told_bad (fun h => hE (EE.out.trans h)))
              have hE' : (E == 0) = false := by simp [hE]
              clear hE
              obtain ⟨VV, eV⟩ : ∃ VV, VV = u7 := ⟨_, rfl⟩
              obtain ⟨XX, eX⟩ : ∃ XX, XX = x := ⟨_, rfl⟩
              have SD : Hid (Side w w3 a0 (k + 1) VV XX) := by
                have m := R3.out.2.1
                have kk := R3.out.2.2
                rw [EH.out, PL.out] at m
                rw [EH.out] at kk
                subst eV eX
                exact ⟨R3.out.1, by omega, m, kk⟩
              subst eV
              clear R3 PL eX z1 z2
              have AS := asks SD.out (by omega)
              obtain ⟨T, eT⟩ : ∃ T, T = lastOf XX := ⟨_, rfl⟩
              obtain ⟨Q, eQ⟩ : ∃ Q, Q = tally XX (lastOf XX - a0) (lastOf XX) := ⟨_, rfl⟩
              rw [← eQ, ← eT] at AS
              have tl := AS.low
              have th := AS.high
              have AA := hid AS
              clear AS eQ eT
              go_wp2_with fail
              rw [EH.out]
              obtain ⟨bu, bB⟩ := AA.out.last
              refine (last_any _ a0 T bu _ bB).mono ?_
              rintro e w5 ⟨rfl, rfl⟩
              rw [← EH.out]
              clear bB
              go_wp2_with fail
              rw [EH.out]
              refine (AA.out.sum _ (Ext.refl _)).mono ?_
              rintro e w6 ⟨rfl, x6⟩
              rw [← EH.out]
              have X6 := hid x6
              clear x6
              go_wp2_with fail
              refine (AA.out.ref _ X6.out).mono ?_
              rintro e w7 ⟨rfl, rfl⟩
              go_wp2_with fail
              rw [EH.out]
              refine (AA.out.none _ X6.out).mono ?_
              rintro e w8 ⟨rfl, x8⟩
              rw [← EH.out]
              have SD2 : Hid (Side w w8 a0 (k + 1) VV XX) := SD.out.step (X6.out.trans x8)
              clear x8 X6 AA SD
              go_wp2_with fail
              go_roundw
              case rel => exact ⟨k + 1, XX, by omega, by go_num, SD2⟩
              case measure => simp [intOf]; omega
          · rw [show (k : Int) = (l.length : Int) by omega]
            have EX := hid I.out.ext
            clear vw t4
            go_wp2_with fail
            refine (awake4_any _).mono ?_
            rintro e w6 ⟨rfl, x6⟩
            have X6 := hid (EX.out.trans x6)
            clear x6
            go_wp2_with fail
            go_ret
            exact ⟨rfl, X6⟩
end Go.Proofs.Ytjdcccienbahjaa.meterEach
