/-
  The walk of SuppressTwo: of two receivers of one round at least one fires, and each one fires or is hushed, once.
-/
import Derived.Test.YtcjohgfmdnimjaaDoorSupPlay
namespace Go.Proofs.YtcjohgfmdnimjaaDoor.suppressTwo
set_option linter.unusedVariables false
set_option maxRecDepth 100000
open Go.RowKit Go.Lib Go.Proofs.YtcjohgfmdnimjaaDoor.Sup

/-- what is true ahead of tick k: who runs isn't due yet; of the others each one fired or was hushed, one at least fired -/
def Inv (k v u f h : Int) (rr sr : Bool) : Prop := (rr = true → k ≤ v) ∧ (sr = true → k ≤ u) ∧ (f + h = (if rr then 0 else 1) + (if sr then 0 else 1)) ∧ (rr = true ∧ sr = true ∨ 1 ≤ f) ∧ (0 ≤ f ∧ 0 ≤ h ∧ f ≤ 2 ∧ h ≤ 2)
theorem inv_start (v u : Int) (h0 : 0 ≤ v) (h1 : 0 ≤ u) : Inv 0 v u 0 0 true true := ⟨fun _ => h0, fun _ => h1, by simp, .inl ⟨rfl, rfl⟩, by decide⟩
theorem inv_both {k v u f h : Int} (i : Inv k v u f h true true) : Inv (k + 1) v u (f + 2) h false false := by
  obtain ⟨_, _, e, _, a, b, _⟩ := i
  simp at e
  exact ⟨fun q => (by cases q), fun q => (by cases q), by simp; omega, .inr (by omega), by omega, b, by omega, by omega⟩
theorem inv_one_hushed {k v u f h : Int} (i : Inv k v u f h true true) : Inv (k + 1) v u (f + 1) (h + 1) false false := by
  obtain ⟨_, _, e, _, a, b, _⟩ := i
  simp at e
  exact ⟨fun q => (by cases q), fun q => (by cases q), by simp; omega, .inr (by omega), by omega, by omega, by omega, by omega⟩
theorem inv_first {k v u f h : Int} {sr : Bool} (i : Inv k v u f h true sr) (q : sr = true → k < u) : Inv (k + 1) v u (f + 1) h false sr := by
  obtain ⟨_, _, e, o, a, b, c, d⟩ := i
  cases sr <;> simp at e
  · exact ⟨fun q => (by cases q), fun q => (by cases q), by simp; omega, .inr (by omega), by omega, b, by omega, d⟩
  · exact ⟨fun q => (by cases q), fun _ => (by have := q rfl; omega), by simp; omega, .inr (by omega), by omega, b, by omega, d⟩
theorem inv_second {k v u f h : Int} {rr : Bool} (i : Inv k v u f h rr true) (q : rr = true → k < v) : Inv (k + 1) v u (f + 1) h rr false := by
  obtain ⟨_, _, e, o, a, b, c, d⟩ := i
  cases rr <;> simp at e
  · exact ⟨fun q => (by cases q), fun q => (by cases q), by simp; omega, .inr (by omega), by omega, b, by omega, d⟩
  · exact ⟨fun _ => (by have := q rfl; omega), fun q => (by cases q), by simp; omega, .inr (by omega), by omega, b, by omega, d⟩
theorem inv_none {k v u f h : Int} {rr sr : Bool} (i : Inv k v u f h rr sr) (q : rr = true → k < v) (q2 : sr = true → k < u) : Inv (k + 1) v u f h rr sr :=
  ⟨fun e => by have := q e; omega, fun e => by have := q2 e; omega, i.2.2.1, i.2.2.2.1, i.2.2.2.2⟩
theorem inv_end {k v u f h : Int} {rr sr : Bool} (i : Inv k v u f h rr sr) (q : v < k) (q2 : u < k) : 1 ≤ f ∧ f ≤ 2 ∧ f + h = 2 := by
  obtain ⟨a, b, e, o, c, d, g, _⟩ := i
  cases rr
  · cases sr
    · simp at e o
      omega
    · have := b rfl; omega
  · have := a rfl; omega
theorem fire_at (n o : Int) (r : Bool) (d a : Int) : (r = true ∧ d ≤ a ∧ sfire (n, o, r, d) a = ((n, o, false, d), true)) ∨ ((r = true → a < d) ∧ sfire (n, o, r, d) a = ((n, o, r, d), false)) := by
  unfold sfire
  split
  · rename_i q
    exact .inl ⟨q.1, q.2, rfl⟩
  · rename_i q
    exact .inr ⟨fun h => by
      apply Decidable.byContradiction
      intro g
      exact q ⟨h, by show d ≤ a; omega⟩, rfl⟩
theorem start_first (v x : Int) (h0 : 0 ≤ v) (h1 : v ≤ 1048576) : sstart snew 1 0 v x = ((1, x, true, v), 0) := by
  unfold sstart
  rw [if_pos ⟨by decide, by decide, h0, by omega⟩, if_neg (by decide), Int.zero_add]
theorem echo_idle (o d a x : Int) : secho (1, o, false, d) a x = ((1, o, false, d), false) := by
  unfold secho
  rw [if_neg (fun q => by cases q.1)]

/-- two rounds, the receivers' box beside them -/
abbrev Zs := Int × Int × Int × Int × Int × Int
def zcs (z : Zs) : Array Value := #[.int .u64 z.1, .int .u64 z.2.1, .int .u64 z.2.2.1, .int .u64 z.2.2.2.1, .int .i64 z.2.2.2.2.1, .int .i64 z.2.2.2.2.2]
def T2 (w V : World) (b c p : Nat) (z : Zs) (s t : SS) : Prop := PlS w b V s ∧ PlS w c V t ∧ V.heap[p]? = some (.cells (zcs z) 51 (0, 0)) ∧ b ≠ c ∧ p ≠ b ∧ p ≠ c
theorem T2.left {w V V' : World} {b c p : Nat} {z : Zs} {s t s' : SS} (h : T2 w V b c p z s t) (q : PlS w b V' s') (k : Kept (fun i => i ≠ b) V V') : T2 w V' b c p z s' t :=
  ⟨q, ⟨h.2.1.1.kept k (fun e => h.2.2.2.1 e.symm), q.2.1, h.2.1.2.2⟩, k.row h.2.2.2.2.1 h.2.2.1, h.2.2.2⟩
theorem T2.right {w V V' : World} {b c p : Nat} {z : Zs} {s t t' : SS} (h : T2 w V b c p z s t) (q : PlS w c V' t') (k : Kept (fun i => i ≠ c) V V') : T2 w V' b c p z s t' :=
  ⟨⟨h.1.1.kept k h.2.2.2.1, q.2.1, h.1.2.2⟩, q, k.row h.2.2.2.2.2 h.2.2.1, h.2.2.2⟩
theorem zcells {V : World} {p : Nat} {A B X Y m n : Int} (r : V.heap[p]? = some (.cells (zcs (A, B, X, Y, m, n)) 51 (0, 0))) : V.cell? ⟨p, 0, none⟩ = some (.int .u64 A) ∧ V.cell? ⟨p, 1, none⟩ = some (.int .u64 B) ∧ V.cell? ⟨p, 2, none⟩ = some (.int .u64 X) ∧ V.cell? ⟨p, 3, none⟩ = some (.int .u64 Y) ∧ V.cell? ⟨p, 4, none⟩ = some (.int .i64 m) ∧ V.cell? ⟨p, 5, none⟩ = some (.int .i64 n) := by
  refine ⟨?_, ?_, ?_, ?_, ?_, ?_⟩
  · rw [cell_of_row _ _ 0 _ _ _ r]; rfl
  · rw [cell_of_row _ _ 1 _ _ _ r]; rfl
  · rw [cell_of_row _ _ 2 _ _ _ r]; rfl
  · rw [cell_of_row _ _ 3 _ _ _ r]; rfl
  · rw [cell_of_row _ _ 4 _ _ _ r]; rfl
  · rw [cell_of_row _ _ 5 _ _ _ r]; rfl

set_option maxHeartbeats 4000000 in
theorem walk0 (A B X Y m n : Int) (w : World) (H : Steps w) (a0 : 0 ≤ A) (a1 : A < 18446744073709551616) (b0 : 0 ≤ B) (b1 : B < 18446744073709551616) (x0 : 0 ≤ X) (x1 : X < 18446744073709551616) (y0 : 0 ≤ Y) (y1 : Y < 18446744073709551616) :
    Calls Tryd.prog 7 #[.agg #[.int .u64 A, .int .u64 B, .int .u64 X, .int .u64 Y, .int .i64 m, .int .i64 n]] w fun e w' => e = .returned (.bool true) ∧ Ext w w' := by
  have AW : Hid (∀ V, Ext w V → Calls Tryd.prog 9 #[] V fun e w' => e = .returned (.bool true) ∧ Ext V w') := fun V x => awake_any V (H.ext x)
  obtain ⟨W1, e1⟩ : ∃ W1, W1 = w.alloc (.cells #[.int .u64 A, .int .u64 B, .int .u64 X, .int .u64 Y, .int .i64 m, .int .i64 n] 51) := ⟨_, rfl⟩
  obtain ⟨p, ep⟩ : ∃ p, p = w.heap.size := ⟨_, rfl⟩
  have r1 : W1.heap[p]? = some (.cells (zcs (A, B, X, Y, m, n)) 51 (0, 0)) := by rw [e1, ep]; exact heap_alloc_new w _
  have X1 : Hid (Ext w W1) := by show Ext w W1; rw [e1]; exact (Ext.refl w).alloc _
  obtain ⟨z0, z1, z2, z3, z4, z5⟩ := zcells r1
  have R1 := hid r1
  have E1 := hid e1
  have EP := hid ep
  have HW : Hid (∀ k, Steps (W1.drewN k)) := fun k => (H.ext X1.out).drewN k
  have HS : Hid (Steps W1) := H.ext X1.out
  have PL := lt_of_row r1
  clear e1 ep r1
  by_cases oka : Wok A m n
  · have WA := hid (fun V (K : Steps V) => wait_ok A m n V K oka)
    have V0 := wt_room oka
    by_cases okb : Wok B m n
    · have WB := hid (fun V (K : Steps V) => wait_ok B m n V K okb)
      have V1 := wt_room okb
      obtain ⟨-, ⟨m0, m1⟩, -⟩ := okb
      obtain ⟨v, hv⟩ : ∃ v, v = wt A m n := ⟨_, rfl⟩
      rw [← hv] at WA V0
      obtain ⟨u, hu⟩ : ∃ u, u = wt B m n := ⟨_, rfl⟩
      rw [← hu] at WB V1
      clear hv hu oka
      by_cases big : 5000 < m
      ·
        go_enter Tryd.func7, Tryd.ntmps7
        go_wp2_with (rw [← EP.out, ← E1.out])
        refine (WA.out _ HS.out).mono ?_
        rintro e w2 ⟨rfl, kWA, rfl⟩
        go_wp2_with fail
        refine (WB.out _ (HW.out _)).mono ?_
        rintro e w2 ⟨rfl, kWB, rfl⟩
        go_wp2_with fail
        refine (new_any _).mono ?_
        rintro e V2 ⟨b, rfl, t2, hb, x2⟩
        go_wp2_with fail
        refine (new_any _).mono ?_
        rintro e V3 ⟨c, rfl, t3, hc, x3⟩
        have bl := t2.lt
        have hp : p ≠ b ∧ p ≠ c := by have := x2.size; have : W1.heap.size ≤ b := hb; omega
        have XT : Ext w V3 := by first | exact X1.out.trans (x2.trans x3) | exact (X1.out.drewN _).trans (x2.trans x3)
        have T3 : Hid (T2 w V3 b c p (A, B, X, Y, m, n) snew snew) := ⟨⟨t2.ext x3, XT, by have := X1.out.size; have : W1.heap.size ≤ b := hb; omega⟩, ⟨t3, XT, by have := X1.out.size; have := x2.size; have : W1.heap.size ≤ b := hb; omega⟩, x3.row (x2.row R1.out), by omega, hp⟩
        clear t2 hb x2 t3 hc x3 bl hp XT R1 WA WB z0 z1 z2 z3 z4 z5
        obtain ⟨z0, z1, z2, z3, z4, z5⟩ := zcells T3.out.2.2.1
        go_wp2_with fail
        refine (AW.out _ T3.out.1.2.1).mono ?_
        rintro e w4 ⟨rfl, x4⟩
        have XF := hid (T3.out.1.2.1.trans x4)
        clear x4
        go_wp2_with fail
        go_ret
        exact ⟨rfl, XF.out⟩
      ·
        obtain ⟨N, eN⟩ : ∃ N : Nat, m = (N : Int) := ⟨m.toNat, by omega⟩
        subst eN
        have mw : (N : Int) ≤ 5000 := by omega
        have SA := start_first v X V0.1 (by omega)
        have SB := start_first u Y V1.1 (by omega)
        go_enter Tryd.func7, Tryd.ntmps7
        go_wp2_with (rw [← EP.out, ← E1.out])
        refine (WA.out _ HS.out).mono ?_
        rintro e w2 ⟨rfl, kWA, rfl⟩
        go_wp2_with fail
        refine (WB.out _ (HW.out _)).mono ?_
        rintro e w2 ⟨rfl, kWB, rfl⟩
        go_wp2_with fail
        refine (new_any _).mono ?_
        rintro e V2 ⟨b, rfl, t2, hb, x2⟩
        go_wp2_with fail
        refine (new_any _).mono ?_
        rintro e V3 ⟨c, rfl, t3, hc, x3⟩
        have bl := t2.lt
        have hp : p ≠ b ∧ p ≠ c := by have := x2.size; have : W1.heap.size ≤ b := hb; omega
        have XT : Ext w V3 := by first | exact X1.out.trans (x2.trans x3) | exact (X1.out.drewN _).trans (x2.trans x3)
        have T3 : Hid (T2 w V3 b c p (A, B, X, Y, (N : Int), n) snew snew) := ⟨⟨t2.ext x3, XT, by have := X1.out.size; have : W1.heap.size ≤ b := hb; omega⟩, ⟨t3, XT, by have := X1.out.size; have := x2.size; have : W1.heap.size ≤ b := hb; omega⟩, x3.row (x2.row R1.out), by omega, hp⟩
        clear t2 hb x2 t3 hc x3 bl hp XT R1 WA WB z0 z1 z2 z3 z4 z5
        obtain ⟨z0, z1, z2, z3, z4, z5⟩ := zcells T3.out.2.2.1
        go_wp2_with fail
        have P1 := hid (T3.out.1.start 1 0 v X x0 x1)
        rw [SA] at P1
        refine P1.out.mono ?_
        rintro e V4 ⟨rfl, q4, k4⟩
        have T4 := hid (T3.out.left q4 k4)
        clear P1 q4 k4 T3 z0 z1 z2 z3 z4 z5
        obtain ⟨z0, z1, z2, z3, z4, z5⟩ := zcells T4.out.2.2.1
        go_wp2_with fail
        have P2 := hid (T4.out.2.1.start 1 0 u Y y0 y1)
        rw [SB] at P2
        refine P2.out.mono ?_
        rintro e V5 ⟨rfl, q5, k5⟩
        have T5 := hid (T4.out.right q5 k5)
        clear P2 q5 k5 T4 z0 z1 z2 z3 z4 z5 SA SB
        obtain ⟨z0, z1, z2, z3, z4, z5⟩ := zcells T5.out.2.2.1
        have I0 := hid (inv_start v u V0.1 V1.1)
        go_wp2_with fail
        go_loopw [9, 10, 11, 12, 13, 71] (fun fv hv _ _ _ iv wr => ∃ (k : Nat) (f h : Int) (rr sr : Bool), k ≤ N + 1 ∧ iv = .int .i64 (k : Int) ∧ fv = .int .i64 f ∧ hv = .int .i64 h ∧ Hid (Inv (k : Int) v u f h rr sr) ∧ Hid (T2 w wr b c p (A, B, X, Y, (N : Int), n) (1, X, rr, v) (1, Y, sr, u))) (fun _ _ _ _ _ iv _ => (N + 1 - RowKit.intOf iv).toNat)
        case atStart => exact ⟨0, 0, 0, true, true, by omega, rfl, rfl, rfl, I0, T5⟩
        case round =>
          clear T5 I0 z0 z1 z2 z3 z4 z5
          obtain ⟨k, f, h, rr, sr, hk, rfl, rfl, rfl, I, T⟩ := hrel
          have bnd := I.out.2.2.2.2
          obtain ⟨z0, z1, z2, z3, z4, z5⟩ := zcells T.out.2.2.1
          by_cases q : k < N + 1
          · clear AW
            have i1 : (k : Int) < (N : Int) + 1 := by omega
            have i2 : (0 : Int) ≤ (k : Int) := by omega
            have F1 := hid (T.out.1.fire (k : Int))
            go_wp2_with fail
            rcases fire_at 1 X rr v (k : Int) with ⟨hr, hd, es⟩ | ⟨hr, es⟩
            · rw [es] at F1
              subst hr
              clear es
              refine F1.out.mono ?_
              rintro e wT6 ⟨rfl, q6, k6⟩
              have T6 := hid (T.out.left q6 k6)
              clear F1 q6 k6 T z0 z1 z2 z3 z4 z5
              obtain ⟨z0, z1, z2, z3, z4, z5⟩ := zcells T6.out.2.2.1
              have F2 := hid (T6.out.2.1.fire (k : Int))
              go_wp2_with fail
              rcases fire_at 1 Y sr u (k : Int) with ⟨hs, hd2, es2⟩ | ⟨hs, es2⟩
              · rw [es2] at F2
                subst hs
                clear es2
                refine F2.out.mono ?_
                rintro e wT7 ⟨rfl, q6, k6⟩
                have T7 := hid (T6.out.right q6 k6)
                clear F2 q6 k6 T6 z0 z1 z2 z3 z4 z5
                obtain ⟨z0, z1, z2, z3, z4, z5⟩ := zcells T7.out.2.2.1
                go_wp2_with fail
                refine (bit_any true _).mono ?_
                rintro e w8 ⟨rfl, ew⟩
                obtain rfl := ew
                go_wp2_with fail
                refine (bit_any true _).mono ?_
                rintro e w8 ⟨rfl, ew⟩
                obtain rfl := ew
                go_wp2_with fail
                have EC := hid (T7.out.2.1.echo 1 X x0 x1)
                rw [echo_idle] at EC
                refine EC.out.mono ?_
                rintro e wT8 ⟨rfl, q6, k6⟩
                have T8 := hid (T7.out.right q6 k6)
                clear EC q6 k6 T7 z0 z1 z2 z3 z4 z5
                obtain ⟨z0, z1, z2, z3, z4, z5⟩ := zcells T8.out.2.2.1
                go_wp2_with fail
                have EC := hid (T8.out.1.echo 1 Y y0 y1)
                rw [echo_idle] at EC
                refine EC.out.mono ?_
                rintro e wT9 ⟨rfl, q6, k6⟩
                have T9 := hid (T8.out.left q6 k6)
                clear EC q6 k6 T8 z0 z1 z2 z3 z4 z5
                obtain ⟨z0, z1, z2, z3, z4, z5⟩ := zcells T9.out.2.2.1
                go_wp2_with fail
                go_roundw
                case rel => exact ⟨k + 1, f + 2, h, false, false, by omega, by go_num, by go_num, by go_num, inv_both I.out, T9⟩
                case measure => simp [RowKit.intOf]; omega
              · rw [es2] at F2
                clear es2
                refine F2.out.mono ?_
                rintro e wT7 ⟨rfl, q6, k6⟩
                have T7 := hid (T6.out.right q6 k6)
                clear F2 q6 k6 T6 z0 z1 z2 z3 z4 z5
                obtain ⟨z0, z1, z2, z3, z4, z5⟩ := zcells T7.out.2.2.1
                go_wp2_with fail
                refine (bit_any true _).mono ?_
                rintro e w8 ⟨rfl, ew⟩
                obtain rfl := ew
                go_wp2_with fail
                refine (bit_any false _).mono ?_
                rintro e w8 ⟨rfl, ew⟩
                obtain rfl := ew
                go_wp2_with fail
                rcases echo_way (1, Y, sr, u) 1 X with ⟨he, -, ee⟩ | ee
                · simp only at he
                  subst he
                  have EC := hid (T7.out.2.1.echo 1 X x0 x1)
                  rw [ee] at EC
                  refine EC.out.mono ?_
                  rintro e wT8 ⟨rfl, q6, k6⟩
                  have T8 := hid (T7.out.right q6 k6)
                  clear EC q6 k6 T7 z0 z1 z2 z3 z4 z5
                  obtain ⟨z0, z1, z2, z3, z4, z5⟩ := zcells T8.out.2.2.1
                  go_wp2_with fail
                  go_roundw
                  case rel => exact ⟨k + 1, f + 1, h + 1, false, false, by omega, by go_num, by go_num, by go_num, inv_one_hushed I.out, T8⟩
                  case measure => simp [RowKit.intOf]; omega
                · have EC := hid (T7.out.2.1.echo 1 X x0 x1)
                  rw [ee] at EC
                  refine EC.out.mono ?_
                  rintro e wT8 ⟨rfl, q6, k6⟩
                  have T8 := hid (T7.out.right q6 k6)
                  clear EC q6 k6 T7 z0 z1 z2 z3 z4 z5
                  obtain ⟨z0, z1, z2, z3, z4, z5⟩ := zcells T8.out.2.2.1
                  go_wp2_with fail
                  go_roundw
                  case rel => exact ⟨k + 1, f + 1, h, false, sr, by omega, by go_num, by go_num, by go_num, inv_first I.out hs, T8⟩
                  case measure => simp [RowKit.intOf]; omega
            · rw [es] at F1
              clear es
              refine F1.out.mono ?_
              rintro e wT6 ⟨rfl, q6, k6⟩
              have T6 := hid (T.out.left q6 k6)
              clear F1 q6 k6 T z0 z1 z2 z3 z4 z5
              obtain ⟨z0, z1, z2, z3, z4, z5⟩ := zcells T6.out.2.2.1
              have F2 := hid (T6.out.2.1.fire (k : Int))
              go_wp2_with fail
              rcases fire_at 1 Y sr u (k : Int) with ⟨hs, hd2, es2⟩ | ⟨hs, es2⟩
              · rw [es2] at F2
                subst hs
                clear es2
                refine F2.out.mono ?_
                rintro e wT7 ⟨rfl, q6, k6⟩
                have T7 := hid (T6.out.right q6 k6)
                clear F2 q6 k6 T6 z0 z1 z2 z3 z4 z5
                obtain ⟨z0, z1, z2, z3, z4, z5⟩ := zcells T7.out.2.2.1
                go_wp2_with fail
                refine (bit_any false _).mono ?_
                rintro e w8 ⟨rfl, ew⟩
                obtain rfl := ew
                go_wp2_with fail
                refine (bit_any true _).mono ?_
                rintro e w8 ⟨rfl, ew⟩
                obtain rfl := ew
                go_wp2_with fail
                rcases echo_way (1, X, rr, v) 1 Y with ⟨he, -, ee⟩ | ee
                · simp only at he
                  subst he
                  have EC := hid (T7.out.1.echo 1 Y y0 y1)
                  rw [ee] at EC
                  refine EC.out.mono ?_
                  rintro e wT8 ⟨rfl, q6, k6⟩
                  have T8 := hid (T7.out.left q6 k6)
                  clear EC q6 k6 T7 z0 z1 z2 z3 z4 z5
                  obtain ⟨z0, z1, z2, z3, z4, z5⟩ := zcells T8.out.2.2.1
                  go_wp2_with fail
                  go_roundw
                  case rel => exact ⟨k + 1, f + 1, h + 1, false, false, by omega, by go_num, by go_num, by go_num, inv_one_hushed I.out, T8⟩
                  case measure => simp [RowKit.intOf]; omega
                · have EC := hid (T7.out.1.echo 1 Y y0 y1)
                  rw [ee] at EC
                  refine EC.out.mono ?_
                  rintro e wT8 ⟨rfl, q6, k6⟩
                  have T8 := hid (T7.out.left q6 k6)
                  clear EC q6 k6 T7 z0 z1 z2 z3 z4 z5
                  obtain ⟨z0, z1, z2, z3, z4, z5⟩ := zcells T8.out.2.2.1
                  go_wp2_with fail
                  go_roundw
                  case rel => exact ⟨k + 1, f + 1, h, rr, false, by omega, by go_num, by go_num, by go_num, inv_second I.out hr, T8⟩
                  case measure => simp [RowKit.intOf]; omega
              · rw [es2] at F2
                clear es2
                refine F2.out.mono ?_
                rintro e wT7 ⟨rfl, q6, k6⟩
                have T7 := hid (T6.out.right q6 k6)
                clear F2 q6 k6 T6 z0 z1 z2 z3 z4 z5
                obtain ⟨z0, z1, z2, z3, z4, z5⟩ := zcells T7.out.2.2.1
                go_wp2_with fail
                refine (bit_any false _).mono ?_
                rintro e w8 ⟨rfl, ew⟩
                obtain rfl := ew
                go_wp2_with fail
                refine (bit_any false _).mono ?_
                rintro e w8 ⟨rfl, ew⟩
                obtain rfl := ew
                go_wp2_with fail
                go_roundw
                case rel => exact ⟨k + 1, f, h, rr, sr, by omega, by go_num, by go_num, by go_num, inv_none I.out hr hs, T7⟩
                case measure => simp [RowKit.intOf]; omega
          · obtain rfl : k = N + 1 := by omega
            have i1 : ¬ ((N + 1 : Nat) : Int) < (N : Int) + 1 := by omega
            obtain ⟨g0, g1, g2⟩ := inv_end I.out (by omega) (by omega)
            have g3 : h = 2 - f := by omega
            subst g3
            have ST := hid T.out.1.2.1
            clear I T
            have w1 : IntKind.i64.wrap (f + (2 - f)) = 2 := by rw [show f + (2 - f) = 2 by omega]; decide +kernel
            go_wp2_with fail
            refine (AW.out _ ST.out).mono ?_
            rintro e w5 ⟨rfl, x5⟩
            have XF := hid (ST.out.trans x5)
            clear AW x5 ST
            go_wp2_with fail
            go_ret
            exact ⟨rfl, XF.out⟩
    · have WB := hid (fun V => wait_bad B m n V b0 b1 okb)
      generalize wt A m n = v at *
      clear oka okb V0
      go_enter Tryd.func7, Tryd.ntmps7
      go_wp2_with (rw [← EP.out, ← E1.out])
      refine (WA.out _ HS.out).mono ?_
      rintro e w2 ⟨rfl, kWA, rfl⟩
      go_wp2_with fail
      refine (WB.out _).mono ?_
      rintro e w2 ⟨rfl, ew⟩
      obtain rfl := ew
      go_wp2_with fail
      refine (new_any _).mono ?_
      rintro e V2 ⟨b, rfl, t2, hb, x2⟩
      go_wp2_with fail
      refine (new_any _).mono ?_
      rintro e V3 ⟨c, rfl, t3, hc, x3⟩
      have bl := t2.lt
      have hp : p ≠ b ∧ p ≠ c := by have := x2.size; have : W1.heap.size ≤ b := hb; omega
      have XT : Ext w V3 := by first | exact X1.out.trans (x2.trans x3) | exact (X1.out.drewN _).trans (x2.trans x3)
      have T3 : Hid (T2 w V3 b c p (A, B, X, Y, m, n) snew snew) := ⟨⟨t2.ext x3, XT, by have := X1.out.size; have : W1.heap.size ≤ b := hb; omega⟩, ⟨t3, XT, by have := X1.out.size; have := x2.size; have : W1.heap.size ≤ b := hb; omega⟩, x3.row (x2.row R1.out), by omega, hp⟩
      clear t2 hb x2 t3 hc x3 bl hp XT R1 WA WB z0 z1 z2 z3 z4 z5
      obtain ⟨z0, z1, z2, z3, z4, z5⟩ := zcells T3.out.2.2.1
      go_wp2_with fail
      refine (AW.out _ T3.out.1.2.1).mono ?_
      rintro e w4 ⟨rfl, x4⟩
      have XF := hid (T3.out.1.2.1.trans x4)
      clear x4
      go_wp2_with fail
      go_ret
      exact ⟨rfl, XF.out⟩
  · have WA := hid (fun V => wait_bad A m n V a0 a1 oka)
    by_cases okb : Wok B m n
    · have WB := hid (fun V (K : Steps V) => wait_ok B m n V K okb)
      generalize wt B m n = u at *
      clear oka okb
      go_enter Tryd.func7, Tryd.ntmps7
      go_wp2_with (rw [← EP.out, ← E1.out])
      refine (WA.out _).mono ?_
      rintro e w2 ⟨rfl, ew⟩
      obtain rfl : W1 = w2 := ew.symm
      go_wp2_with fail
      refine (WB.out _ HS.out).mono ?_
      rintro e w2 ⟨rfl, kWB, rfl⟩
      go_wp2_with fail
      refine (new_any _).mono ?_
      rintro e V2 ⟨b, rfl, t2, hb, x2⟩
      go_wp2_with fail
      refine (new_any _).mono ?_
      rintro e V3 ⟨c, rfl, t3, hc, x3⟩
      have bl := t2.lt
      have hp : p ≠ b ∧ p ≠ c := by have := x2.size; have : W1.heap.size ≤ b := hb; omega
      have XT : Ext w V3 := by first | exact X1.out.trans (x2.trans x3) | exact (X1.out.drewN _).trans (x2.trans x3)
      have T3 : Hid (T2 w V3 b c p (A, B, X, Y, m, n) snew snew) := ⟨⟨t2.ext x3, XT, by have := X1.out.size; have : W1.heap.size ≤ b := hb; omega⟩, ⟨t3, XT, by have := X1.out.size; have := x2.size; have : W1.heap.size ≤ b := hb; omega⟩, x3.row (x2.row R1.out), by omega, hp⟩
      clear t2 hb x2 t3 hc x3 bl hp XT R1 WA WB z0 z1 z2 z3 z4 z5
      obtain ⟨z0, z1, z2, z3, z4, z5⟩ := zcells T3.out.2.2.1
      go_wp2_with fail
      refine (AW.out _ T3.out.1.2.1).mono ?_
      rintro e w4 ⟨rfl, x4⟩
      have XF := hid (T3.out.1.2.1.trans x4)
      clear x4
      go_wp2_with fail
      go_ret
      exact ⟨rfl, XF.out⟩
    · have WB := hid (fun V => wait_bad B m n V b0 b1 okb)
      clear oka okb
      go_enter Tryd.func7, Tryd.ntmps7
      go_wp2_with (rw [← EP.out, ← E1.out])
      refine (WA.out _).mono ?_
      rintro e w2 ⟨rfl, ew⟩
      obtain rfl : W1 = w2 := ew.symm
      go_wp2_with fail
      refine (WB.out _).mono ?_
      rintro e w2 ⟨rfl, ew⟩
      obtain rfl : W1 = w2 := ew.symm
      go_wp2_with fail
      refine (new_any _).mono ?_
      rintro e V2 ⟨b, rfl, t2, hb, x2⟩
      go_wp2_with fail
      refine (new_any _).mono ?_
      rintro e V3 ⟨c, rfl, t3, hc, x3⟩
      have bl := t2.lt
      have hp : p ≠ b ∧ p ≠ c := by have := x2.size; have : W1.heap.size ≤ b := hb; omega
      have XT : Ext w V3 := by first | exact X1.out.trans (x2.trans x3) | exact (X1.out.drewN _).trans (x2.trans x3)
      have T3 : Hid (T2 w V3 b c p (A, B, X, Y, m, n) snew snew) := ⟨⟨t2.ext x3, XT, by have := X1.out.size; have : W1.heap.size ≤ b := hb; omega⟩, ⟨t3, XT, by have := X1.out.size; have := x2.size; have : W1.heap.size ≤ b := hb; omega⟩, x3.row (x2.row R1.out), by omega, hp⟩
      clear t2 hb x2 t3 hc x3 bl hp XT R1 WA WB z0 z1 z2 z3 z4 z5
      obtain ⟨z0, z1, z2, z3, z4, z5⟩ := zcells T3.out.2.2.1
      go_wp2_with fail
      refine (AW.out _ T3.out.1.2.1).mono ?_
      rintro e w4 ⟨rfl, x4⟩
      have XF := hid (T3.out.1.2.1.trans x4)
      clear x4
      go_wp2_with fail
      go_ret
      exact ⟨rfl, XF.out⟩

theorem walk (v0 : Value) (z : Zs) (w : World) (H : Steps w) (hz : TwoIn v0 z) : Calls Tryd.prog 7 #[v0] w fun e w' => e = .returned (.bool true) ∧ Ext w w' := by
  obtain ⟨rfl, ⟨a0, a1⟩, ⟨b0, b1⟩, ⟨x0, x1⟩, y0, y1⟩ := hz
  exact walk0 z.1 z.2.1 z.2.2.1 z.2.2.2.1 z.2.2.2.2.1 z.2.2.2.2.2 w H a0 a1 b0 b1 x0 x1 y0 y1
end Go.Proofs.YtcjohgfmdnimjaaDoor.suppressTwo
