/-
  The walk of MeterSmooths: what is smoothed lies between both numbers, but for what is rounded.
-/
import Derived.Test.YtjdcccienbahjaaAwake4
import Derived.OpenShut
import Derived.Lib.SmallJoins
namespace Go.Proofs.Ytjdcccienbahjaa.meterSmooths
set_option linter.unusedVariables false
open Go.RowKit

/-- a world that is w but for new memory -/
def Ever (w : World) : Type := { W : World // Ext w W }
def Ever.W {w : World} (n : Ever w) : World := n.1
theorem Ever.ok {w : World} (n : Ever w) : Ext w n.W := n.2
theorem Ever.some (w : World) : Nonempty (Ever w) := ⟨⟨w, Ext.refl w⟩⟩

/-- A region that draws its order and whose operations, each of one value, at most make new memory: one walk serves every order. -/
theorem wp_region_ext {P : Program} {id : Nat} {Q : Exit → Act → World → Prop} {a : Act} {w : World} {l : List Oper} (hm : P.follows .mixedOrders = true) (hB : Region.lexB .any l.toArray = true)
    (h : wpQuiet P l.toArray (fun w' => ∃ n : Ever w, w' = n.W) (fun a' => ∀ w', (∃ n : Ever w, w' = n.W) → Q .normal a' w') l a) : (Code.region id l.toArray true).wp P Q a w :=
  wp_region_quiet (C := fun w' => ∃ n : Ever w, w' = n.W) hm hB ⟨⟨_, Below.drew (Ext.refl w)⟩, rfl⟩ (by simpa using h)

theorem div_diff (a b h : Int) (hh : 1 ≤ h) (hab : a ≤ b) : b / h - a / h ≤ b - a ∧ 0 ≤ b / h - a / h := by
  have h0 : 0 < h := by omega
  have e1 := Int.mul_ediv_add_emod a h
  have e2 := Int.mul_ediv_add_emod b h
  have m2 := Int.emod_nonneg b (show h ≠ 0 by omega)
  have l1 := Int.emod_lt_of_pos a h0
  have mono : a / h ≤ b / h := Int.ediv_le_ediv h0 hab
  refine ⟨?_, by omega⟩
  have top : h * (b / h - a / h) ≤ b - a + (h - 1) := by rw [Int.mul_sub]; omega
  rcases Int.lt_or_le (b - a) (b / h - a / h) with c | c
  · have x1 : h * (b - a + 1) ≤ h * (b / h - a / h) := Int.mul_le_mul_of_nonneg_left (by omega) (by omega)
    have x2 : 0 ≤ (h - 1) * (b - a) := Int.mul_nonneg (by omega) (by omega)
    rw [Int.mul_add, Int.mul_one] at x1
    rw [Int.sub_mul, Int.one_mul] at x2
    omega
  · exact c

/-- the smoothed number and its neighbours -/
theorem smooth_facts (a b k : Int) (ha : 0 ≤ a) (ha' : a ≤ 18446744073709551615) (hb : 0 ≤ b) (hb' : b ≤ 18446744073709551615) (hk : 1 ≤ k) (hk' : k < 64) :
    fsmooth a b k = a - a / 2 ^ k.toNat + b / 2 ^ k.toNat ∧ 0 ≤ fsmooth a b k ∧ fsmooth a b k ≤ 18446744073709551615 ∧ fsmooth a b k ≤ max a b + 1 ∧ min a b ≤ fsmooth a b k + 1 ∧ 0 ≤ a / 2 ^ k.toNat ∧ a / 2 ^ k.toNat ≤ a ∧ 0 ≤ b / 2 ^ k.toNat := by
  have hp : (1 : Int) ≤ 2 ^ k.toNat := Int.pow_pos (by decide)
  have a1 : fhalf a k = a / 2 ^ k.toNat := by unfold fhalf; rw [if_neg (by omega), if_neg (by omega)]
  have b1 : fhalf b k = b / 2 ^ k.toNat := by unfold fhalf; rw [if_neg (by omega), if_neg (by omega)]
  have r1 := fhalf_range a k ha (by omega)
  have r2 := fhalf_range b k hb (by omega)
  have r3 := fhalf_range 18446744073709551615 k (by omega) (by omega)
  rw [a1] at r1
  rw [b1] at r2
  generalize h2 : (2 : Int) ^ k.toNat = h at *
  have d1 := div_diff a 18446744073709551615 h hp ha'
  have d2 := div_diff b 18446744073709551615 h hp hb'
  have m1 : a - a / h + b / h ≤ 18446744073709551615 := by omega
  have s1 : fsmooth a b k = a - a / h + b / h := by
    unfold fsmooth fadd fsub
    rw [if_neg (by omega), a1, b1, if_neg (by omega), if_neg (by omega)]
  rw [s1]
  refine ⟨rfl, by omega, m1, ?_, ?_, by omega, by omega, by omega⟩
  · rcases Int.lt_or_le b a with c | c
    · have := (div_diff b a h hp (by omega)); omega
    · have := (div_diff a b h hp (by omega)); omega
  · rcases Int.lt_or_le b a with c | c
    · have := (div_diff b a h hp (by omega)); omega
    · have := (div_diff a b h hp (by omega)); omega

set_option maxHeartbeats 4000000 in
theorem walk (a0 : Int) (a1 : Int) (a2 : Int) (w0 : (Lit.int .u64 a0).wf = true) (w1 : (Lit.int .u64 a1).wf = true) (w2 : (Lit.int .i64 a2).wf = true) (w : World) :
    Calls Try.prog 6 #[.int .u64 a0, .int .u64 a1, .int .i64 a2] w fun e w' => e = .returned (.bool true) ∧ Below w.heap.size w w' := by
  obtain ⟨b0, b0'⟩ := bounds_u64 w0
  obtain ⟨b1, b1'⟩ := bounds_u64 w1
  obtain ⟨b2, b2'⟩ := bounds_i64 w2
  clear w0 w1 w2
  have c0 := fun W => smooth_any a0 a1 a2 b0 (by omega) b1 (by omega) W
  by_cases k1 : a2 < 1
  · rw [show fsmooth a0 a1 a2 = a1 by unfold fsmooth; rw [if_pos k1]] at c0
    have C0 := hid c0
    clear c0
    go_enter Try.func6, Try.ntmps6
    go_wp2_with fail
    refine (C0.out _).mono ?_
    rintro e w' ⟨rfl, rfl⟩
    go_wp2_with fail
    refine (awake4_any _).mono ?_
    rintro e w' ⟨rfl, X⟩
    go_wp2_with fail
    go_ret
    exact ⟨rfl, X⟩
  · by_cases k2 : 64 ≤ a2
    · have e1 : fsmooth a0 a1 a2 = a0 := by
        unfold fsmooth fadd fsub fhalf
        simp [show ¬ a2 < 1 by omega, show 63 < a2 by omega]
        omega
      rw [e1] at c0
      have C0 := hid c0
      clear c0 e1
      go_enter Try.func6, Try.ntmps6
      go_wp2_with fail
      refine (C0.out _).mono ?_
      rintro e w' ⟨rfl, rfl⟩
      go_wp2_with fail
      refine (awake4_any _).mono ?_
      rintro e w' ⟨rfl, X⟩
      go_wp2_with fail
      go_ret
      exact ⟨rfl, X⟩
    · obtain ⟨f1, f2, f3, f4, f5, f6, f7, f8⟩ := smooth_facts a0 a1 a2 b0 b0' b1 b1' (by omega) (by omega)
      have g := smooth_facts a0 a0 a2 b0 b0' b0 b0' (by omega) (by omega)
      have c1 := fun W => smooth_any a0 a0 a2 b0 (by omega) b0 (by omega) W
      rw [show fsmooth a0 a0 a2 = a0 by rw [g.1]; omega] at c1
      obtain ⟨Z, eZ⟩ : ∃ Z, Z = fsmooth a0 a1 a2 := ⟨_, rfl⟩
      rw [← eZ] at c0 f1 f2 f3 f4 f5
      obtain ⟨U, eU⟩ : ∃ U, max a0 a1 = U := ⟨_, rfl⟩
      obtain ⟨L, eL⟩ : ∃ L, min a0 a1 = L := ⟨_, rfl⟩
      have u1 : 0 ≤ U ∧ U ≤ 18446744073709551615 := by omega
      have q1 := fun W => add_any Z 1 f2 (by omega) (by omega) (by omega) W
      have q2 := fun W => add_any U 1 u1.1 (by omega) (by omega) (by omega) W
      have e1 : IntKind.u64.wrap (a0 - a0 / 2 ^ a2.toNat) = a0 - a0 / 2 ^ a2.toNat := IntWalk.u64_in _ (by omega)
      have e2 : IntKind.u64.wrap (a0 - a0 / 2 ^ a2.toNat + a1 / 2 ^ a2.toNat) = Z := by rw [← f1]; exact IntWalk.u64_in _ (by omega)
      have g1 : L ≤ fadd Z 1 := by unfold fadd; split <;> omega
      have g2 : Z ≤ fadd U 1 := by unfold fadd; split <;> omega
      obtain ⟨P1, eP1⟩ : ∃ P1, P1 = fadd Z 1 := ⟨_, rfl⟩
      obtain ⟨P2, eP2⟩ : ∃ P2, P2 = fadd U 1 := ⟨_, rfl⟩
      rw [← eP1] at q1 g1
      rw [← eP2] at q2 g2
      have C0 := hid c0
      have C1 := hid c1
      have Q1 := hid q1
      have Q2 := hid q2
      clear c0 c1 g q1 q2 eZ eP1 eP2 f1 f4 f5 u1
      have X := Ext.refl w
      go_enter Try.func6, Try.ntmps6
      go_wp2_with fail
      refine (C0.out _).mono ?_
      rintro e w' ⟨rfl, rfl⟩
      go_wp2_with fail
      refine wp_region_ext (by kernel_rfl) (by kernel_rfl) ?_
      have some := Ever.some w'
      repeat (go_big_quiet_step (first
        | (first | (go_at_call_of 18 Z; refine (Q1.out _).mono ?_; rintro e w' ⟨rfl, rfl⟩; exact ⟨rfl, ⟨_, Ever.ok _⟩, rfl⟩) | (go_at_call_of 18 U; refine (Q2.out _).mono ?_; rintro e w' ⟨rfl, rfl⟩; exact ⟨rfl, ⟨_, Ever.ok _⟩, rfl⟩))
        | (go_at_call 17; refine (C1.out _).mono ?_; rintro e w' ⟨rfl, rfl⟩; exact ⟨rfl, ⟨_, Ever.ok _⟩, rfl⟩)
        | (go_at_call 7; refine (awake4_any _).mono ?_; rintro e w' ⟨rfl, Y⟩; exact ⟨rfl, ⟨_, (Ever.ok _).trans Y⟩, rfl⟩)))
      refine wpQuiet_nil ?_
      rintro w2 ⟨⟨_, X2⟩, rfl⟩
      go_wp2_with fail
      go_ret
      exact ⟨rfl, X2⟩
end Go.Proofs.Ytjdcccienbahjaa.meterSmooths
