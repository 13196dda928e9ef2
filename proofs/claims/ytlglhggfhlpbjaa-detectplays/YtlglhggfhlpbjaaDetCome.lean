/-
  Walks of lost, isEvent, Forget.
-/
import Derived.Test.YtlglhggfhlpbjaaDetMem
namespace Go.Proofs.Ytlglhggfhlpbjaa.Det
set_option linter.unusedVariables false
set_option maxRecDepth 100000
open Go.RowKit Go.Lib Go.Proofs.Ytlglhggfhlpbjaa.His

/-- how many are lost ahead of a packet, and whether it is a new one -/
def dlost (x seq : Int) : Int × Bool := if x < 0 ∨ x = seq ∨ 256 < Ser.fgap x seq then (0, true) else if 0 < Ser.fgap x seq then (Ser.fgap x seq, true) else (0, false)

set_option maxHeartbeats 1000000 in
theorem lost_any (x seq : Int) (w : World) (x0 : -1 ≤ x) (x1 : x < 4294967296) (s0 : 0 ≤ seq) (s1 : seq < 4294967296) :
    Calls Try.prog 31 #[.agg (exc x).toArray, .int .u32 seq] w fun e w' => e = .returned (.tuple #[.int .i64 (dlost x seq).1, .bool (dlost x seq).2]) ∧ Ext w w' := by
  have FIN : ∀ c, Hid (Ext w (w.alloc (.cells c 51))) := fun c => hid ((Ext.refl w).alloc _)
  by_cases q0 : x < 0
  · have e : dlost x seq = (0, true) := by unfold dlost; rw [if_pos (.inl q0)]
    rw [e]
    have GP := hid (Ser.gap_any 0 seq (by decide) s0 (by decide) s1)
    have r := Ser.fgap_room 0 seq
    generalize Ser.fgap 0 seq = g at *
    unfold exc
    rw [exs_neg q0, exi_neg q0]
    clear e
    go_enter Try.func31, Try.ntmps31
    go_wp2_with fail
    refine (GP.out _).mono ?_
    rintro e w1 ⟨rfl, rfl⟩
    go_wp2_with fail
    refine bodyPost_ret (results_tmp2 Try.results31 _ _ _) rfl ?_
    exact ⟨rfl, (FIN _).out⟩
  · have GP := hid (Ser.gap_any x seq (by omega) s0 x1 s1)
    have r := Ser.fgap_room x seq
    have ED : Hid (dlost x seq = if x < 0 ∨ x = seq ∨ 256 < Ser.fgap x seq then (0, true) else if 0 < Ser.fgap x seq then (Ser.fgap x seq, true) else (0, false)) := rfl
    generalize dlost x seq = z at *
    obtain ⟨z1, z2⟩ := z
    generalize Ser.fgap x seq = g at *
    unfold exc
    rw [exs_pos (by omega), exi_pos (by omega)]
    simp only
    by_cases q1 : x = seq
    · have E := ED.out
      rw [if_pos (.inr (.inl q1))] at E
      simp only [Prod.mk.injEq] at E
      obtain ⟨rfl, rfl⟩ := E
      subst q1
      clear ED
      go_enter Try.func31, Try.ntmps31
      go_wp2_with fail
      refine (GP.out _).mono ?_
      rintro e w1 ⟨rfl, rfl⟩
      go_wp2_with fail
      refine bodyPost_ret (results_tmp2 Try.results31 _ _ _) rfl ?_
      exact ⟨rfl, (FIN _).out⟩
    have q1' : (seq == x) = false := by rw [beq_eq_false_iff_ne]; exact fun h => q1 h.symm
    by_cases q2 : 256 < g
    · have E := ED.out
      rw [if_pos (.inr (.inr q2))] at E
      simp only [Prod.mk.injEq] at E
      obtain ⟨rfl, rfl⟩ := E
      clear ED
      go_enter Try.func31, Try.ntmps31
      go_wp2_with fail
      refine (GP.out _).mono ?_
      rintro e w1 ⟨rfl, rfl⟩
      go_wp2_with fail
      refine bodyPost_ret (results_tmp2 Try.results31 _ _ _) rfl ?_
      exact ⟨rfl, (FIN _).out⟩
    by_cases q3 : 0 < g
    · have E := ED.out
      rw [if_neg (by omega), if_pos q3] at E
      simp only [Prod.mk.injEq] at E
      obtain ⟨rfl, rfl⟩ := E
      clear ED
      go_enter Try.func31, Try.ntmps31
      go_wp2_with fail
      refine (GP.out _).mono ?_
      rintro e w1 ⟨rfl, rfl⟩
      go_wp2_with fail
      refine bodyPost_ret (results_tmp2 Try.results31 _ _ _) rfl ?_
      exact ⟨rfl, (FIN _).out⟩
    · have E := ED.out
      rw [if_neg (by omega), if_neg q3] at E
      simp only [Prod.mk.injEq] at E
      obtain ⟨rfl, rfl⟩ := E
      clear ED
      go_enter Try.func31, Try.ntmps31
      go_wp2_with fail
      refine (GP.out _).mono ?_
      rintro e w1 ⟨rfl, rfl⟩
      go_wp2_with fail
      refine bodyPost_ret (results_tmp2 Try.results31 _ _ _) rfl ?_
      exact ⟨rfl, (FIN _).out⟩

set_option maxHeartbeats 1000000 in
theorem isEvent_any (b h : Nat) (s : DS) (rtt : Int) (w : World) (d : DetV w b h s) :
    Calls Try.prog 33 #[.pointer (some ⟨b, 0, none⟩), .int .i64 rtt] w fun e w' => e = .returned (.bool (decide (s.2.2.2.1 = false ∨ rtt < s.2.2.2.2 - s.2.2.1))) ∧ Ext w w' := by
  have c17 := d.cell 17 _ rfl
  have c18 := d.cell 18 _ rfl
  have c19 := d.cell 19 _ rfl
  obtain ⟨b0, b1⟩ := d.1.2.2.2.1
  obtain ⟨l0, l1⟩ := d.1.2.2.2.2
  obtain ⟨nx, hs, bg, sm, ls⟩ := s
  simp only at c17 c18 c19 b0 b1 l0 l1 ⊢
  clear d
  have q17 : ∀ n, (w.drewN n).cell? ⟨b, 17, none⟩ = some (.int .i64 bg) := fun n => c17
  have q18 : ∀ n, (w.drewN n).cell? ⟨b, 18, none⟩ = some (.bool sm) := fun n => c18
  have q19 : ∀ n, (w.drewN n).cell? ⟨b, 19, none⟩ = some (.int .i64 ls) := fun n => c19
  cases sm with
  | false =>
    rw [decide_eq_true (Or.inl rfl)]
    go_enter Try.func33, Try.ntmps33
    go_wp2_with fail
    go_quiet (fail)
    go_wp2_with fail
    go_ret
    exact ⟨rfl, (Ext.refl w).drewN _⟩
  | true =>
    rw [show decide (true = false ∨ rtt < ls - bg) = decide (rtt < ls - bg) by simp]
    go_enter Try.func33, Try.ntmps33
    go_wp2_with fail
    go_quiet (fail)
    go_wp2_with fail
    go_ret
    exact ⟨rfl, (Ext.refl w).drewN _⟩

theorem forget_bad (b : Nat) (n : Int) (w : World) (q : n < 0 ∨ 8 ≤ n) : Calls Try.prog 19 #[.pointer (some ⟨b, 0, none⟩), .int .i64 n] w fun e w' => e = .returned (.tuple #[]) ∧ w' = w := by
  have L := isLayer_any n w
  rw [show (decide (0 ≤ n) && decide (n < 8)) = false by simp; omega] at L
  have LL := hid L
  clear L
  go_enter Try.func19, Try.ntmps19
  go_wp2_with fail
  refine LL.out.mono ?_
  rintro e w1 ⟨rfl, rfl⟩
  go_wp2_with fail
  refine bodyPost_end (results_none Try.results19 _ _ _) rfl ?_
  exact ⟨rfl, rfl⟩

set_option maxHeartbeats 1000000 in
theorem forget_any (b h : Nat) (s : DS) (k : Nat) (w : World) (d : DetV w b h s) (hk : k < 8) : Calls Try.prog 19 #[.pointer (some ⟨b, 0, none⟩), .int .i64 (k : Int)] w fun e w' => e = .returned (.tuple #[]) ∧ DetV w' b h (s.1.set k (-1), s.2) ∧ Kept (fun q => q ≠ b) w w' := by
  have L := isLayer_any (k : Int) w
  rw [show (decide (0 ≤ (k : Int)) && decide ((k : Int) < 8)) = true by simp; omega] at L
  have LL := hid L
  have i1 : (k : Int) < 8 := by omega
  have i2 : (0 : Int) ≤ (k : Int) := by omega
  have nf := next_fit d.1 k (-1) hk (by decide) (by decide)
  have OW := hid (d.own (s' := (s.1.set k (-1), s.2)) ⟨nf.1, nf.2, d.1.2.2⟩ rfl _ (show (splice (dlist h s) (k * 2) (exc (-1))).toArray = drow h (s.1.set k (-1), s.2) by rw [d_put h s k (-1) hk d.1.1]; rfl))
  have ST := hid (store_part w b (k * 2) 51 56 (exc (-1)) (dlist h s) d.2.1 size_ex (by rw [d_len]; simp [exc]; omega) (exc_one (-1)))
  obtain ⟨W1, e1⟩ : ∃ W1, W1 = w.setRow b (splice (dlist h s) (k * 2) (exc (-1))).toArray := ⟨_, rfl⟩
  rw [← e1] at OW ST
  clear L d nf e1
  go_enter Try.func19, Try.ntmps19
  go_wp2_with fail
  refine LL.out.mono ?_
  rintro e w1 ⟨rfl, rfl⟩
  go_wp2_with (refine wpList_store_known rfl 51 _ _ rfl _ _ rfl rfl ST.out ?_)
  refine bodyPost_end (results_none Try.results19 _ _ _) rfl ?_
  exact ⟨rfl, OW.out.1, OW.out.2⟩
end Go.Proofs.Ytlglhggfhlpbjaa.Det
