/-
  Walks of a meter's Sum and Rate, and of Smooth.
-/
import Derived.Test.YtjdcccienbahjaaMeterOps
import Derived.Deep.RegionWith
namespace Go.Proofs.Ytjdcccienbahjaa
set_option linter.unusedVariables false
open Go.RowKit

set_option maxHeartbeats 2000000 in
theorem sum_row (base b : Nat) (win last tick : Int) (v : Value) (l : Ams) (w : World) (hb : Block w b win last v) (hw : Own w base v l) (hl : l.length ≤ 100000) (h1 : 1 ≤ win) (h2 : win ≤ 64) (h3 : -1099511627776 ≤ tick) (h4 : tick ≤ 2199023255552)
    (hp : ∀ p, p ∈ l → 0 ≤ p.1 ∧ p.1 ≤ 1099511627776 ∧ 0 ≤ p.2) (ht : total l ≤ 1099511627776) :
    Calls Try.prog 11 #[.pointer (some ⟨b, 0, none⟩), .int .i64 tick] w fun e w' => e = .returned (.int .i64 (tally l (tick - win) tick)) ∧ Ext w w' := by
  have c0 := hb.c0
  have c2 := hb.c2
  have nn : NonNeg l := fun p h => (hp p h).2.2
  obtain ⟨ao, cp, rfl, vw⟩ := hw.view
  clear hb hw
  obtain ⟨S, eS⟩ : ∃ S, S = tally l (tick - win) tick := ⟨_, rfl⟩
  rw [← eS]
  have ES := hid eS
  clear eS
  go_enter Try.func11, Try.ntmps11
  go_wp2
  clear c2
  go_loopw [5, 13] (fun s i wr => ∃ (k : Nat) (q : Int), k ≤ l.length ∧ i = .int .i64 k ∧ s = .int .i64 q ∧ 0 ≤ q ∧ q ≤ total l ∧ Hid (q = tally (l.take k) (tick - win) tick) ∧ Ext w wr) (fun _ i _ => (l.length - intOf i).toNat)
  case atStart => exact ⟨0, 0, by omega, rfl, rfl, by omega, total_nonneg nn, by simp [Hid, tally], Ext.refl _⟩
  case round =>
    obtain ⟨k, q, hk, rfl, rfl, hq0, hq1, Q, X⟩ := hrel
    by_cases t1 : k < l.length
    · obtain ⟨g, rfl, hg, _, x1, x2⟩ := vw k t1
      have hpk := hp _ (getD_mem t1)
      have TK := hid (tally_take t1 (tick - win) tick)
      have TB := tally_bounds (l := l.take (k + 1)) (fun p h => nn p (List.mem_of_mem_take h)) (tick - win) tick
      have TL := total_take_le nn (k + 1)
      obtain ⟨d, ed⟩ : ∃ d, d = (l.getD k (0, 0)).1 := ⟨_, rfl⟩
      obtain ⟨n, en⟩ : ∃ n, n = (l.getD k (0, 0)).2 := ⟨_, rfl⟩
      rw [← ed, ← en] at hpk
      rw [← ed] at x1
      rw [← en] at x2
      have TK2 := TK.out
      rw [← ed, ← en] at TK2
      have TK3 := hid TK2
      have y1 := X.cell x1
      have y2 := X.cell x2
      have y0 := X.cell c0
      have i1 : (k : Int) < (l.length : Int) := by omega
      have i2 : (0 : Int) ≤ (k : Int) := by omega
      have XX := hid X
      clear vw ed en x1 x2 TK TK2 c0 X
      go_wp2
      have z1 := cell_two_new wr (.int .i64 d) (.int .i64 n) 51 0 _ rfl
      have z2 := cell_two_new wr (.int .i64 d) (.int .i64 n) 51 1 _ rfl
      rw [Addr.add_mid] at z1 z2
      have z0 := (Ext.alloc (Ext.refl wr) (.cells #[.int .i64 d, .int .i64 n] 51)).cell y0
      have XW : Hid (Ext w (wr.alloc (.cells #[.int .i64 d, .int .i64 n] 51))) := XX.out.alloc _
      obtain ⟨W, eW⟩ : ∃ W, W = wr.alloc (.cells #[.int .i64 d, .int .i64 n] 51) := ⟨_, rfl⟩
      rw [← eW] at z0 z1 z2 XW
      rw [← eW]
      obtain ⟨B, eB⟩ : ∃ B, B = wr.heap.size := ⟨_, rfl⟩
      rw [← eB] at z1 z2
      rw [← eB]
      clear eW eB y0 y1 y2 XX
      have NX : ∀ r : Int, r = q + (if d ≤ tick ∧ tick - win < d then n else 0) → 0 ≤ r ∧ r ≤ total l ∧ Hid (r = tally (l.take (k + 1)) (tick - win) tick) := by
        intro r hr
        have e1 := Q.out
        have e2 := TK3.out
        have e3 : r = tally (l.take (k + 1)) (tick - win) tick := by rw [e2, ← e1]; exact hr
        exact ⟨by omega, by omega, e3⟩
      clear TB TL TK3 Q
      by_cases g1 : d ≤ tick
      · have e5 : IntKind.i64.wrap (tick - d) = tick - d := IntWalk.i64_in _ (by omega)
        by_cases g2 : tick - d < win
        · obtain ⟨r1, r2, r3⟩ := NX (q + n) (by rw [if_pos (by omega)])
          clear NX
          go_quiet (fail)
          go_wp2
          go_roundw
          case rel => exact ⟨k + 1, q + n, by omega, by go_num, by go_num, r1, r2, r3, XW.out.drewN _⟩
          case measure => simp [intOf]; omega
        · obtain ⟨r1, r2, r3⟩ := NX q (by rw [if_neg (by omega)]; omega)
          clear NX
          go_quiet (fail)
          go_wp2
          go_roundw
          case rel => exact ⟨k + 1, q, by omega, by go_num, rfl, r1, r2, r3, XW.out.drewN _⟩
          case measure => simp [intOf]; omega
      · obtain ⟨r1, r2, r3⟩ := NX q (by rw [if_neg (by omega)]; omega)
        clear NX
        have g3 : decide (d ≤ tick) = false := by simp; omega
        go_quiet (fail)
        go_wp2
        go_roundw
        case rel => exact ⟨k + 1, q, by omega, by go_num, rfl, r1, r2, r3, XW.out.drewN _⟩
        case measure => simp [intOf]; omega
    · rw [show (k : Int) = (l.length : Int) by omega]
      have hkl : k = l.length := by omega
      have e0 : Hid (q = S) := by
        show q = S
        rw [Q.out, ES.out, hkl, List.take_length]
      clear vw t1 hk hkl
      go_wp2
      go_ret
      exact ⟨ret_int e0, X⟩

theorem sum_any (base b : Nat) (win tick : Int) (x : Ams) (w : World) (h : MeterAt base w b win x) (hx : x.length ≤ 1000) (h3 : lastOf x - 64 ≤ tick) (h4 : tick ≤ 2199023255552) :
    Calls Try.prog 11 #[.pointer (some ⟨b, 0, none⟩), .int .i64 tick] w fun e w' => e = .returned (.int .i64 (tally x (tick - win) tick)) ∧ Ext w w' := by
  obtain ⟨v, l, hb, hw, hbb, hbs, hk, fx, w1, w2⟩ := h
  have bnd := hk.bounds fx hx
  have hl := hk.2.2.2
  have fl := fx.last
  rw [← hk.1 (tick - win) tick (by omega)]
  exact sum_row base b win (lastOf x) tick v l w hb hw (by omega) w1 w2 (by omega) h4 hk.2.1 (by omega)

theorem tally_fine {x : Ams} (f : Fine x) (hx : x.length ≤ 1000) (lo hi : Int) : 0 ≤ tally x lo hi ∧ tally x lo hi ≤ 1048576000 := by
  have a := tally_bounds f.nonneg lo hi
  have b := f.total
  omega

theorem MeterAt.c0 {base b : Nat} {w : World} {win : Int} {x : Ams} (h : MeterAt base w b win x) : w.cell? ⟨b, 0, none⟩ = some (.int .i64 win) := by
  obtain ⟨v, l, hb, _⟩ := h; exact hb.c0

set_option maxHeartbeats 2000000 in
theorem rate_any (base b : Nat) (win tick : Int) (x : Ams) (w : World) (h : MeterAt base w b win x) (hx : x.length ≤ 1000) (h3 : lastOf x - 64 ≤ tick) (h4 : tick ≤ 2199023255552) :
    Calls Try.prog 12 #[.pointer (some ⟨b, 0, none⟩), .int .i64 tick] w fun e w' => e = .returned (.int .u64 (fratio (tally x (tick - win) tick) win)) ∧ Ext w w' := by
  have tb := tally_fine h.fine hx (tick - win) tick
  have hw := h.win
  have c0 := h.c0
  have S := hid (fun W (X : Ext w W) => sum_any base b win tick x W (h.ext X) hx h3 h4)
  obtain ⟨T, eT⟩ : ∃ T, T = tally x (tick - win) tick := ⟨_, rfl⟩
  rw [← eT] at tb S
  rw [← eT]
  clear eT h
  have e1 : IntKind.u64.wrap T = T := IntWalk.u64_in _ (by omega)
  have e2 : IntKind.u64.wrap win = win := IntWalk.u64_in _ (by omega)
  go_enter Try.func12, Try.ntmps12
  go_wp2
  go_region_with (first
    | (go_at_call 11; refine (S.out _ (Below.drew (Ext.refl w))).mono ?_; rintro e w' ⟨rfl, X⟩; have c0' := (Ext.trans (Below.drew (Ext.refl w)) X).cell c0; have XX := hid X; clear X)
    | (go_at_call 13; refine (ratio_any _ _ (by omega) (by omega) (by omega) (by omega) _).mono ?_; rintro e w2 ⟨rfl, n2, rfl⟩))
  all_goals (clear S; go_wp2; go_ret; exact ⟨rfl, (Ext.trans (Below.drew (Ext.refl w)) XX.out).drewN n2⟩)

/-- between two -/
def fsmooth (a b k : Int) : Int := if k < 1 then b else fadd (fsub a (fhalf a k)) (fhalf b k)

theorem fhalf_range (a k : Int) (h0 : 0 ≤ a) (h1 : a < 18446744073709551616) : 0 ≤ fhalf a k ∧ fhalf a k ≤ a := by
  unfold fhalf
  split
  · omega
  · split
    · omega
    · refine ⟨Int.ediv_nonneg h0 (Int.le_of_lt (Int.pow_pos (by decide))), Int.ediv_le_self _ h0⟩

theorem fsub_range (a b : Int) (h0 : 0 ≤ a) (h1 : a < 18446744073709551616) (h2 : 0 ≤ b) : 0 ≤ fsub a b ∧ fsub a b < 18446744073709551616 := by
  unfold fsub; split <;> omega

set_option maxHeartbeats 1000000 in
theorem smooth_any (a b k : Int) (ha : 0 ≤ a) (ha' : a < 18446744073709551616) (hb : 0 ≤ b) (hb' : b < 18446744073709551616) (w : World) :
    Calls Try.prog 17 #[.int .u64 a, .int .u64 b, .int .i64 k] w fun e w' => e = .returned (.int .u64 (fsmooth a b k)) ∧ w' = w := by
  by_cases h : k < 1
  · have e : fsmooth a b k = b := by unfold fsmooth; rw [if_pos h]
    rw [e]
    clear e
    go_enter Try.func17, Try.ntmps17
    go_wp2
    go_ret
    exact ⟨rfl, rfl⟩
  · have e : fsmooth a b k = fadd (fsub a (fhalf a k)) (fhalf b k) := by unfold fsmooth; rw [if_neg h]
    rw [e]
    clear e
    have r1 := fhalf_range a k ha ha'
    have r2 := fhalf_range b k hb hb'
    have r3 := fsub_range a (fhalf a k) ha ha' r1.1
    have d : decide (k < 1) = false := by simp; omega
    have q1 := half_any a k ha ha' w
    have q2 := half_any b k hb hb' w
    have q3 := sub_any a (fhalf a k) ha r1.1 ha' (by omega) w
    have q4 := add_any (fsub a (fhalf a k)) (fhalf b k) r3.1 r2.1 r3.2 (by omega) w
    obtain ⟨A, eA⟩ : ∃ A, A = fhalf a k := ⟨_, rfl⟩
    obtain ⟨B, eB⟩ : ∃ B, B = fhalf b k := ⟨_, rfl⟩
    rw [← eA] at q1 q3 q4
    rw [← eB] at q2 q4
    rw [← eA, ← eB]
    obtain ⟨C, eC⟩ : ∃ C, C = fsub a A := ⟨_, rfl⟩
    rw [← eC] at q3 q4
    rw [← eC]
    have Q1 := hid q1
    have Q2 := hid q2
    have Q3 := hid q3
    have Q4 := hid q4
    clear q1 q2 q3 q4 eA eB eC r1 r2 r3
    go_enter Try.func17, Try.ntmps17
    go_wp2_with fail
    refine Q1.out.mono ?_
    rintro e w' ⟨rfl, rfl⟩
    go_wp2_with fail
    refine Q3.out.mono ?_
    rintro e w' ⟨rfl, rfl⟩
    go_wp2_with fail
    refine Q2.out.mono ?_
    rintro e w' ⟨rfl, rfl⟩
    go_wp2_with fail
    refine Q4.out.mono ?_
    rintro e w' ⟨rfl, rfl⟩
    go_wp2
    go_ret
    exact ⟨rfl, rfl⟩
end Go.Proofs.Ytjdcccienbahjaa
