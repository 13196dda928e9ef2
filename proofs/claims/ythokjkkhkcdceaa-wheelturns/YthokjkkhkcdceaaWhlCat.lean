/-
  Walks of slices.Grow and slices.Concat over a wheel's spokes.
-/
import Derived.Test.YthokjkkhkcdceaaWhlCopy
import Derived.Test.YthokjkkhkcdceaaWhlSort
namespace Go.Proofs.Ythokjkkhkcdceaa
set_option linter.unusedVariables false
set_option maxRecDepth 100000
open Go.RowKit Go.Lib

theorem run_append_zeros_nil {P : Program} (w : World) (t tn ty e : TypeId) (i : TypeInfo) (z : Value) (k kn : IntKind) (ht : P.underlying t = some (.slice e)) (htn : P.underlying tn = some (.int kn)) (hi : P.info? e = some i) (hz : i.zero = some z)
    (n : Nat) (h0 : 0 < n) (hs : 0 < i.size) (h63 : (n : Int) ≤ 9223372036854775807) (h48 : n * i.bytes ≤ 281474976710656) (hfit : Builtin.nextslicecap n 0 * i.bytes ≤ 281474976710656) :
    (Builtin.append_ #[t, tn] ty #[.slice none 0 0, .int k n]).run P w =
      .ok (.slice (some ⟨w.heap.size, 0, none⟩) n (grownCap w n 0 e)) (w.drew.alloc (.cells (Builtin.zeroCells z.cells n ++ Builtin.zeroCells z.cells (grownCap w n 0 e - n)) e)) := by
  have hn : ¬ (n = 0) := by omega
  have hw : IntKind.i64.wrap (n : Int) = n := by rw [IntKind.wrap_i64]; omega
  have h63' : ¬ (9223372036854775807 < (n : Int)) := by omega
  have h48' : ¬ (281474976710656 < Builtin.nextslicecap n 0 * i.bytes) := by omega
  have h48i : ¬ (281474976710656 < (n : Int) * (i.bytes : Int)) := by
    rw [← Int.natCast_mul]
    omega
  have hneg : ¬ ((n : Int) < 0) := by omega
  have hns : ¬ (n * i.size = 0) := Nat.mul_ne_zero (by omega) (by omega)
  simp [Builtin.append_, run_underlying ht, run_underlying htn, sizeOf, typeInfo, zeroValue, hi, hz, asInt, asIntOf, hw, hn, hneg, hns, h63', h48', h48i, Question.forced, newRow, grownCap, Builtin.firstCells]

set_option maxHeartbeats 1000000 in
theorem grow_any (n : Nat) (w : World) (hn : n ≤ 1024) : Calls Try.prog 41 #[.slice none 0 0, .int .i64 n] w fun e w' => ∃ v, e = .returned v ∧ NewT w w' v [] := by
  rcases Nat.eq_zero_or_pos n with rfl | h0
  · have R := hid (NewT.nil w)
    go_enter Try.func41, Try.ntmps41
    go_wp2
    go_ret
    exact ⟨_, rfl, R.out⟩
  · obtain ⟨i0, hi, hz0, hz1, hz2⟩ := info_parts info_timer
    have A := run_append_zeros_nil (P := Try.prog) w 47 3 47 60 i0 _ .i64 .i64 Try.underlying47 Try.underlying3 hi hz0 n h0 (by rw [hz1]; decide) (by omega) (by rw [hz2]; omega) (growslice_fits (by omega) (by rw [hz2]; omega))
    have cge := grownCap_ge w n 0 60
    have cle := grownCap_le_maxLen w n 0 60 (by unfold maxLen; omega)
    obtain ⟨C, eC⟩ : ∃ C, C = grownCap w n 0 60 := ⟨_, rfl⟩
    rw [← eC] at A cge cle
    clear eC
    obtain ⟨Z, eZ⟩ : ∃ Z, Z = Builtin.zeroCells (Value.agg #[.int .i64 0, .int .i64 0]).cells n ++ Builtin.zeroCells (Value.agg #[.int .i64 0, .int .i64 0]).cells (C - n) := ⟨_, rfl⟩
    have zl : Z.size = C * 2 := by
      rw [eZ, Array.size_append, size_zeroCells, size_zeroCells]
      simp [Value.cells]
      omega
    rw [← eZ] at A
    have AA := hid A
    have R : Hid (NewT w (w.drew.alloc (.cells Z 60)) (.slice (some ⟨w.heap.size, 0, none⟩) 0 C) []) := by
      refine ⟨own_of_rowT (Y := Z.toList) rfl ?_ (Nat.zero_le _) cle ?_, fun k hk => ?_, ((Ext.refl w).drewN 1).alloc _⟩
      · rw [show (gcells [] ++ Z.toList).toArray = Z by simp [gcells]]
        exact heap_alloc_new w.drew _
      · simp [gcells, zl]
      · simp [Value.ownBlock] at hk; omega
    unfold maxLen at cle
    clear A eZ zl hi hz0 hz1 hz2
    have p1 : (0 : Int) < (n : Int) := by omega
    have p2 : ¬ (n : Int) < 0 := by omega
    have p3 : (0 : Int) ≤ (C : Int) := by omega
    go_enter Try.func41, Try.ntmps41
    go_wp2_with (at_builtin; refine wpList_append_run _ rfl (.tmp 20) (.tmp 21) 47 3 rfl _ _ rfl rfl _ _ AA.out ?_)
    go_ret
    exact ⟨_, rfl, R.out⟩

/-- the spokes one behind the other -/
def cat (l : Sts) : Nat → Sts
  | 0 => []
  | k + 1 => cat l k ++ sp l k
theorem low_succ (l : Sts) (k : Nat) : (lowk l k ++ sp l k).Perm (lowk l (k + 1)) := by
  induction l with
  | nil => exact List.Perm.refl _
  | cons p r ih =>
    unfold lowk sp at *
    rcases Int.lt_trichotomy (p.2 % 64) (k : Int) with e | e | e
    · rw [List.filter_cons_of_pos (by simp; omega), List.filter_cons_of_neg (by simp; omega), List.filter_cons_of_pos (by simp; omega)]
      exact ih.cons p
    · rw [List.filter_cons_of_neg (by simp; omega), List.filter_cons_of_pos (by simp; omega), List.filter_cons_of_pos (by simp; omega)]
      exact List.perm_middle.trans (ih.cons p)
    · rw [List.filter_cons_of_neg (by simp; omega), List.filter_cons_of_neg (by simp; omega), List.filter_cons_of_neg (by simp; omega)]
      exact ih
theorem cat_low (l : Sts) : ∀ k, (cat l k).Perm (lowk l k)
  | 0 => by
    have : lowk l 0 = [] := by
      unfold lowk
      rw [List.filter_eq_nil_iff]
      intro p _
      have := Int.emod_nonneg p.2 (show (64 : Int) ≠ 0 by decide)
      simp; omega
    rw [this]
    exact List.Perm.refl _
  | k + 1 => ((cat_low l k).append_right _).trans (low_succ l k)
theorem cat_all (l : Sts) : (cat l 64).Perm l := by
  have := cat_low l 64
  rwa [lowk_all] at this
theorem cat_length (l : Sts) (k : Nat) : (cat l k).length = cnt l k := by
  rw [(cat_low l k).length_eq]; rfl

/-- a spoke put behind -/
theorem append_spoke {w wr : World} {v s : Value} {xs ys : Sts} (h : NewT w wr v xs) (hs : OwnT wr s ys) (hl : xs.length + ys.length ≤ 100000) :
    ∃ v' w', (Builtin.append_ #[47, 47] 47 #[v, s]).run Try.prog wr = .ok v' w' ∧ NewT w w' v' (xs ++ ys) := by
  obtain ⟨o, hk, X⟩ := h
  obtain ⟨i0, hi, hz0, hz1, hz2⟩ := info_parts info_timer
  rcases hs.at with ⟨rfl, rfl⟩ | ⟨g, cap, L, rfl, g1, g2, g3, g4, g5⟩
  · refine ⟨v, wr, ?_, ?_⟩
    · obtain ⟨ao, c, e, k1, k2, _⟩ := o.view
      rw [e]
      have k3 : xs.length + 0 ≤ c := by omega
      simp [Builtin.append_, run_underlying Try.underlying47, sizeOf, typeInfo, hi, Builtin.lenOf, k1, Builtin.firstCells, loadCells]
      try (cases ao <;> simp [storeCells])
    · rw [List.append_nil]; exact ⟨o, hk, X⟩
  · obtain ⟨v', w', r, o', gb, hb'⟩ := append_timers wr v xs o g ys.length cap L ys g1 rfl g5 (by omega)
    have x1 := X.size
    refine ⟨v', w', r, o', ?_, X.rowed gb hk⟩
    intro k e
    rcases hb' with q | q
    · rw [q] at e; exact hk k e
    · rw [q] at e
      simp only [Option.some.injEq] at e
      omega

set_option maxHeartbeats 2000000 in
theorem concat_any (b : Nat) (t : Int) (v : Nat → Value) (l : Sts) (w : World) (hw : WhV w b t v l) (hl : l.length ≤ 1024) :
    Calls Try.prog 33 #[.slice (some ⟨b, 1, none⟩) 64 64] w fun e w' => ∃ s, e = .returned s ∧ NewT w w' s (cat l 64) := by
  have HW := hid hw
  clear hw
  go_enter Try.func33, Try.ntmps33
  go_wp2_with fail
  go_loopw [3, 5, 11] (fun n _ i wr => wr = w ∧ ∃ k : Nat, k ≤ 64 ∧ i = .int .i64 (k : Int) ∧ n = .int .i64 (cnt l k : Int)) (fun _ _ i _ => (64 - intOf i).toNat)
  case atStart => exact ⟨rfl, 0, by omega, rfl, by rw [cnt_zero]; rfl⟩
  case round =>
    obtain ⟨rfl, k, hk, rfl, rfl⟩ := hrel
    by_cases h : k < 64
    · have c := HW.out.cell h
      have s := cnt_succ l k
      have c1 := cnt_le l (k + 1)
      obtain ⟨ao, cp, e, k1, k2, _⟩ := (HW.out.own h).view
      rw [e] at c
      unfold maxLen at k2
      have h2 : (k : Int) < 64 := by omega
      have h3 : (0 : Int) ≤ (k : Int) := by omega
      have S := hid s
      generalize (sp l k).length = q at *
      generalize cnt l k = p at *
      have hpq : p + q ≤ 1024 := by omega
      have hp0 : ¬ ((p : Int) + (q : Int) < 0) := by omega
      clear e s
      go_wp2_with fail
      go_roundw
      case rel => exact ⟨trivial, k + 1, by omega, by go_num, by rw [S.out]; go_num⟩
      case measure => simp [intOf]; omega
    · obtain rfl : k = 64 := by omega
      have G := hid (grow_any (cnt l 64) wr (by rw [cnt_all]; exact hl))
      generalize cnt l 64 = n at *
      go_wp2_with fail
      refine G.out.mono ?_
      rintro e w1 ⟨v0, rfl, n1⟩
      have N1 := hid n1
      obtain ⟨a0, m0, c0, e0⟩ := owns_slice n1.1
      subst e0
      clear n1 G
      go_wp2_with fail
      obtain ⟨w8, rfl⟩ : ∃ w8, w8 = wr := ⟨_, rfl⟩
      go_loopw [6, 8, 27] (fun s _ i wr => ∃ k : Nat, k ≤ 64 ∧ i = .int .i64 (k : Int) ∧ Hid (NewT w8 wr s (cat l k))) (fun _ _ i _ => (64 - intOf i).toNat)
      case atStart => exact ⟨0, by omega, rfl, N1⟩
      case round =>
        obtain ⟨k, hk, rfl, N⟩ := hrel
        obtain ⟨a0, m0, c0, e0⟩ := owns_slice N.out.1
        subst e0
        by_cases h : k < 64
        · have c := (HW.out.ext N.out.2.2).cell h
          have l1 := cnt_succ l k
          have l2 := cnt_le l (k + 1)
          obtain ⟨v', w', r, n2⟩ := append_spoke N.out ((HW.out.own h).ext N.out.2.2) (by rw [cat_length]; omega)
          obtain ⟨ao, cp, e, k1, k2, _⟩ := (HW.out.own h).view
          rw [e] at c r
          have R := hid r
          have N2 : Hid (NewT w8 w' v' (cat l (k + 1))) := n2
          obtain ⟨a1, m1, c1, e1⟩ := owns_slice n2.1
          subst e1
          unfold maxLen at k2
          have h2 : (k : Int) < 64 := by omega
          have h3 : (0 : Int) ≤ (k : Int) := by omega
          clear e r n2 l1 l2
          generalize (sp l k).length = q at *
          go_wp2_with (at_builtin; refine wpList_append_run _ rfl (.tmp 31) (.tmp 32) 47 47 rfl _ _ rfl rfl _ _ R.out ?_)
          go_roundw
          case rel => exact ⟨k + 1, by omega, by go_num, N2⟩
          case measure => simp [intOf]; omega
        · obtain rfl : k = 64 := by omega
          go_wp2_with fail
          go_ret
          exact ⟨_, rfl, N.out⟩
end Go.Proofs.Ythokjkkhkcdceaa
