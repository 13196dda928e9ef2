/-
  The walk of the statement's 'played': a meter and the list of all that came, side by side.
-/
import Derived.Test.YtjdcccienbahjaaMeterKept
namespace Go.Proofs.Ytjdcccienbahjaa
set_option linter.unusedVariables false
open Go.RowKit

/-- the list is ahead of the meter: the amount is handed to the meter -/
theorem addWith {w W : World} {win d n : Int} {v : Value} {x : Ams} (k : Nat) (e : Ext w W) (m : MeterAt w.heap.size W w.heap.size win x) (kp : Kept W w.heap.size v (played x d n)) (hx : x.length ≤ k) (hk : k ≤ 900) :
    Calls Try.prog 15 #[.pointer (some ⟨w.heap.size, 0, none⟩), .int .i64 d, .int .i64 n] W fun e w' => e = .returned (.int .i64 (toldErr x d n)) ∧ Side w w' win (k + 1) v (played x d n) := by
  refine (add_any' _ _ win d n x _ m (by omega)).mono ?_
  rintro _ w' ⟨rfl, M, L, S⟩
  exact ⟨rfl, Below.trans e L, by have := played_length x d n; omega, M, kp.stays S⟩

/-- what both tell of the last tick -/
theorem Side.lasts {w W : World} {win : Int} {k : Nat} {v : Value} {x : Ams} (h : Side w W win k v x) (hk : k ≤ 900) :
    (Calls Try.prog 9 #[.pointer (some ⟨w.heap.size, 0, none⟩)] W fun e w' => e = .returned (.int .i64 (lastOf x)) ∧ w' = W) ∧
    (Calls Try.prog 19 #[v] W fun e w' => e = .returned (.int .i64 (lastOf x)) ∧ w' = W) := by
  obtain ⟨u, hb⟩ := h.meter.block
  have hl := h.len
  exact ⟨last_any _ win _ u W hb, refLast_any v x W h.kept.ams (by omega)⟩

/-- the list has grown ahead of the meter -/
theorem Side.ahead {w W w1 : World} {win t n : Int} {k : Nat} {v v1 : Value} {x : Ams} {o : Obj} (h : Side w W win k v x)
    (own : w1.ownsRow w.heap.size 39 2 v1 (x.length + 1) (cells2 x ++ [.int .i64 t, .int .i64 n])) (g : (W.alloc o).grownBy w1 v.ownBlock) :
    Ext w w1 ∧ MeterAt w.heap.size w1 w.heap.size win x ∧ Kept w1 w.heap.size v1 (x ++ [(t, n)]) := by
  have e0 : Ext W (W.alloc o) := (Ext.refl W).alloc o
  have k0 := h.kept.ext e0
  refine ⟨?_, (h.meter.ext e0).beside k0 g, Kept.snoc own⟩
  exact Below.grown (h.ext.trans e0) g (h.ext.trans e0).size (fun j hj => (World.ownsRow.lt k0 j hj).1)
theorem Side.drewN {w W : World} {win : Int} {k : Nat} {v : Value} {x : Ams} (h : Side w W win k v x) (q : Nat) : Side w (W.drewN q) win k v x := h.step ((Ext.refl W).drewN q)

set_option maxHeartbeats 8000000 in
theorem played_any (a0 : Int) (v1 : Value) (l : Ams) (h1 : 1 ≤ a0) (h2 : a0 ≤ 64) (w : World) (hl : IsAms w v1 l) (t2 : l.length ≤ 80) :
    Calls Try.prog 8 #[.int .i64 a0, v1] w fun e w' => ∃ v x, e = .returned (.tuple #[.pointer (some ⟨w.heap.size, 0, none⟩), v, .bool true]) ∧ Side w w' a0 l.length v x := by
  obtain ⟨ao, cp, rfl, vw⟩ := id hl
  clear hl
  obtain ⟨i0, hi, hz0, hz1, hz2⟩ := info_parts info_Amount
  have N := hid (new_any a0 w h1 h2)
  have S0 : Hid (Side w (w.alloc (.cells #[.int .i64 a0, .int .i64 0, .slice none 0 0] 49 (0, 0))) a0 0 (.slice none 0 0) []) :=
    ⟨(Ext.refl w).alloc _, by simp, MeterAt.made w a0 h1 h2, World.ownsRow_nil _ _ _ _⟩
  obtain ⟨H, eH⟩ : ∃ H, H = w.heap.size := ⟨_, rfl⟩
  rw [← eH]
  go_enter Try.func8, Try.ntmps8
  go_wp2_with fail
  refine N.out.mono ?_
  rintro e w1 ⟨rfl, rfl⟩
  rw [← eH]
  obtain ⟨w1, e1⟩ : ∃ w1, w1 = w.alloc (.cells #[.int .i64 a0, .int .i64 0, .slice none 0 0] 49 (0, 0)) := ⟨_, rfl⟩
  rw [← e1] at S0
  rw [← e1]
  have EH := hid eH
  clear e1 eH N
  go_wp2_with fail
  go_loopw [9, 26] (fun v i wr => ∃ (k : Nat) (x : Ams), k ≤ l.length ∧ i = .int .i64 k ∧ Hid (Side w wr a0 k v x)) (fun _ i _ => (l.length - intOf i).toNat)
  case atStart => exact ⟨0, [], by omega, rfl, S0⟩
  case round =>
    clear S0
    obtain ⟨k, x, hk, rfl, I⟩ := hrel
    by_cases t4 : k < l.length
    · obtain ⟨g, o, rfl, hg, x1, x2⟩ := vw k t4
      have y1 := I.out.ext.cell x1
      have y2 := I.out.ext.cell x2
      obtain ⟨d, ed⟩ : ∃ d, d = (l.getD k (0, 0)).1 := ⟨_, rfl⟩
      obtain ⟨n, en⟩ : ∃ n, n = (l.getD k (0, 0)).2 := ⟨_, rfl⟩
      rw [← ed] at y1
      rw [← en] at y2
      have i1 : (k : Int) < (l.length : Int) := by omega
      have i2 : (0 : Int) ≤ (k : Int) := by omega
      have xl := I.out.len
      have z1 := cell_two_new wr (.int .i64 d) (.int .i64 n) 39 0 _ rfl
      have z2 := cell_two_new wr (.int .i64 d) (.int .i64 n) 39 1 _ rfl
      rw [Addr.add_mid] at z1 z2
      have SW : Hid (Side w (wr.alloc (.cells #[.int .i64 d, .int .i64 n] 39)) a0 k u9 x) := I.out.step ((Ext.refl wr).alloc _)
      obtain ⟨W, eW⟩ : ∃ W, W = wr.alloc (.cells #[.int .i64 d, .int .i64 n] 39) := ⟨_, rfl⟩
      obtain ⟨B, eB⟩ : ∃ B, B = wr.heap.size := ⟨_, rfl⟩
      rw [← eW] at z1 z2 SW
      rw [← eB] at z1 z2
      have NB : Hid (some B ≠ u9.ownBlock) := fun h => by
        have := (World.ownsRow.lt I.out.kept B h.symm).2
        omega
      clear vw x1 x2 ed en I
      by_cases hf : Fit d n
      · obtain ⟨a1, a2, a3, a4⟩ := id hf
        have c1 : decide (d < 0) = false := by simp; omega
        have c2 : decide (1099511627776 < d) = false := by simp; omega
        have c3 : decide (n < 0) = false := by simp; omega
        have c4 : decide (1048576 < n) = false := by simp; omega
        have RL := hid (fun q : Nat => refLast_any u9 x (W.drewN q) (SW.out.kept.ams.drewN q) (by omega))
        by_cases hs : d < lastOf x
        · have TE : Hid (toldErr x d n = 23) := by unfold toldErr; rw [if_pos hf, if_pos hs]; rfl
          have PX : Hid (played x d n = x) := by unfold played; rw [if_pos hf, if_pos hs]; rfl
          have AW := fun q : Nat => addWith (W := W.drewN q) k (SW.out.ext.drewN q) (SW.out.meter.drewN q) (by rw [PX.out]; exact SW.out.kept) xl (by omega)
          rw [TE.out, PX.out, ← EH.out] at AW
          have AB := hid AW
          obtain ⟨p, ep⟩ : ∃ p, p = lastOf x := ⟨_, rfl⟩
          rw [← ep] at hs RL
          clear AW TE PX ep hf
          go_wp2_with fail
          rw [← eW, ← eB]
          clear eW eB y1 y2
          go_quiet ((go_at_call 19; refine Calls.quiet_of_same (RL.out _)))
          clear RL
          go_wp2_with fail
          clear z1 z2
          refine (AB.out _).mono ?_
          rintro e w3 ⟨rfl, sd⟩
          have LL := sd.lasts (by omega)
          obtain ⟨y, ey⟩ : ∃ y, y = lastOf x := ⟨_, rfl⟩
          rw [← ey, ← EH.out] at LL
          have L1 := hid LL.1
          have L2 := hid LL.2
          have SD := hid sd
          clear sd LL ey SW
          go_wp2_with fail
          refine L1.out.mono ?_
          rintro e w4 ⟨rfl, rfl⟩
          go_wp2_with fail
          refine L2.out.mono ?_
          rintro e w5 ⟨rfl, rfl⟩
          clear L1 L2
          go_wp2_with fail
          go_roundw
          case rel => exact ⟨k + 1, x, by omega, by go_num, SD⟩
          case measure => simp [intOf]; omega
        · have TE : Hid (toldErr x d n = 0) := by unfold toldErr; rw [if_pos hf, if_neg hs]; rfl
          have PX : Hid (played x d n = x ++ [(d, n)]) := by unfold played; rw [if_pos hf, if_neg hs]; rfl
          obtain ⟨p, ep⟩ : ∃ p, p = lastOf x := ⟨_, rfl⟩
          rw [← ep] at hs RL
          have hs' : decide (d < p) = false := by simp; omega
          have HS : H ≤ W.heap.size := by rw [EH.out]; exact SW.out.ext.size
          clear ep hf hs
          go_wp2_with fail
          rw [← eW, ← eB]
          clear eW eB y1 y2
          go_quiet ((go_at_call 19; refine Calls.quiet_of_same (RL.out _)))
          clear RL
          have KA : Hid (((W.drewN nq).alloc (.cells #[.int .i64 d, .int .i64 n] 39)).ownsRow H 39 2 u9 x.length (cells2 x)) := by
            rw [EH.out]; exact World.ownsRow.alloc SW.out.kept _
          go_wp2_with (at_builtin; refine wpList_append_own _ rfl _ _ 22 rfl H 39 i0 (.agg #[.int .i64 0, .int .i64 0]) 2 16 Try.underlying22 hi hz0 hz1 hz2 rfl (by decide) _ _ _ rfl KA.out ⟨W.heap.size, 0, none⟩ 1 1 [.int .i64 d, .int .i64 n] rfl rfl (cell_two_new _ _ _ _) ?c2 ?c3 ?c4 ?c5 ?_)
          case c2 => intro u hu; simp at hu; rcases hu with rfl | rfl <;> rfl
          case c3 => unfold maxLen; omega
          case c4 => omega
          case c5 => simp; omega
          intro VV w4 o4 g4 _
          have zz1 := World.grownBy.cell g4 (((Ext.refl (W.drewN nq)).alloc _).cell (w := W.drewN nq) z1) NB.out
          have zz2 := World.grownBy.cell g4 (((Ext.refl (W.drewN nq)).alloc _).cell (w := W.drewN nq) z2) NB.out
          rw [EH.out] at o4
          obtain ⟨q1, q2, q3⟩ := Side.ahead (SW.out.drewN nq) o4 g4
          rw [← PX.out] at q3
          have AW := addWith k q1 q2 q3 xl (by omega)
          rw [TE.out, PX.out, ← EH.out] at AW
          have AA := hid AW
          clear AW q1 q2 q3 o4 g4 z1 z2 KA PX TE NB
          go_wp2_with fail
          clear zz1 zz2
          refine AA.out.mono ?_
          rintro e w3 ⟨rfl, sd⟩
          have LL := sd.lasts (by omega)
          obtain ⟨y, ey⟩ : ∃ y, y = lastOf (x ++ [(d, n)]) := ⟨_, rfl⟩
          rw [← ey, ← EH.out] at LL
          have L1 := hid LL.1
          have L2 := hid LL.2
          have SD := hid sd
          clear sd LL ey SW
          go_wp2_with fail
          refine L1.out.mono ?_
          rintro e w4 ⟨rfl, rfl⟩
          go_wp2_with fail
          refine L2.out.mono ?_
          rintro e w5 ⟨rfl, rfl⟩
          clear L1 L2
          go_wp2_with fail
          go_roundw
          case rel => exact ⟨k + 1, x ++ [(d, n)], by omega, by go_num, SD⟩
          case measure => simp [intOf]; omega
      · have TE : Hid (toldErr x d n = 11) := by unfold toldErr; rw [if_neg hf]; rfl
        have PX : Hid (played x d n = x) := by unfold played; rw [if_neg hf]; rfl
        have AW := addWith k SW.out.ext SW.out.meter (by rw [PX.out]; exact SW.out.kept) xl (by omega)
        rw [TE.out, PX.out, ← EH.out] at AW
        have AA := hid AW
        unfold Fit at hf
        clear AW TE PX
        by_cases b1 : d < 0
        case' neg =>
          by_cases b2 : 1099511627776 < d
          case' neg =>
            by_cases b3 : n < 0
            case' neg => have b4 : 1048576 < n := by omega
        all_goals
          clear hf
          go_wp2_with fail
          rw [← eW]
          clear eW eB z1 z2 y1 y2
          refine AA.out.mono ?_
          rintro e w3 ⟨rfl, sd⟩
          have LL := sd.lasts (by omega)
          obtain ⟨y, ey⟩ : ∃ y, y = lastOf x := ⟨_, rfl⟩
          rw [← ey, ← EH.out] at LL
          have L1 := hid LL.1
          have L2 := hid LL.2
          have SD := hid sd
          clear AA sd LL ey SW
          go_wp2_with fail
          refine L1.out.mono ?_
          rintro e w4 ⟨rfl, rfl⟩
          go_wp2_with fail
          refine L2.out.mono ?_
          rintro e w5 ⟨rfl, rfl⟩
          clear L1 L2
          go_wp2_with fail
          go_roundw
          case rel => exact ⟨k + 1, x, by omega, by go_num, SD⟩
          case measure => simp [intOf]; omega
    · rw [show (k : Int) = (l.length : Int) by omega]
      have hkl : k = l.length := by omega
      subst hkl
      clear vw t4
      go_wp2_with fail
      go_returns
      exact ⟨_, x, rfl, I.out⟩
end Go.Proofs.Ytjdcccienbahjaa
