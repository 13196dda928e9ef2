/-
  The walk of WheelFull: there are as many timers as the document allows.
-/
import Derived.Test.YthokjkkhkcdceaaWhlState
namespace Go.Proofs.Ythokjkkhkcdceaa.wheelFull
set_option linter.unusedVariables false
set_option maxRecDepth 100000
open Go.RowKit Go.Lib

/-- what was set so far: numbers are sevens' multiples below -/
def Fills (l : Sts) (i : Nat) : Prop := l.length = min i 1024 ∧ ∀ p ∈ l, p.1 < 7 * (i : Int)
theorem fills_step {l : Sts} {i : Nat} (h : Fills l i) : Fills (callv l 1 ((i : Int) * 7) ((i : Int) % 100)).1 (i + 1) ∧ (callv l 1 ((i : Int) * 7) ((i : Int) % 100)).2 = if i < 1024 then 0 else 15 := by
  have ht : ¬ ((1 : Int) ≠ 3 ∧ ((i : Int) % 100 < 0 ∨ 2199023255552 < (i : Int) % 100)) := by omega
  have hn : has l ((i : Int) * 7) = false := has_not fun p hp e => by have := h.2 p hp; omega
  unfold callv
  rw [if_neg ht, if_pos rfl, if_neg (by rw [hn]; simp)]
  by_cases hi : i < 1024
  · have hl : ¬ 1024 ≤ l.length := by rw [h.1]; omega
    rw [if_neg hl, if_pos hi]
    refine ⟨⟨by rw [ins_length, h.1]; omega, fun p hp => ?_⟩, rfl⟩
    rcases mem_ins.1 hp with rfl | hp
    · simp only; omega
    · have := h.2 p hp; omega
  · have hl : 1024 ≤ l.length := by rw [h.1]; omega
    rw [if_pos hl, if_neg hi]
    exact ⟨⟨by rw [h.1]; omega, fun p hp => by have := h.2 p hp; omega⟩, rfl⟩

set_option maxHeartbeats 1000000 in
theorem walk (n : Int) (w : World) : Calls Try.prog 6 #[.int .i64 n] w fun e w' => e = .returned (.bool true) ∧ Ext w w' := by
  have N := hid (new_any w)
  have NW := hid (new_wheel w)
  have X1 : Hid (Ext w (w.alloc (.cells newCells 50 (0, 0)))) := (Ext.refl w).alloc _
  have AW := hid (fun W => awake9_any W)
  by_cases h1 : n < 0
  · go_enter Try.func6, Try.ntmps6
    go_wp2_with fail
    refine N.out.mono ?_
    rintro e w1 ⟨rfl, rfl⟩
    generalize w.alloc (.cells newCells 50 (0, 0)) = w1 at *
    go_wp2_with fail
    refine (AW.out _).mono ?_
    rintro e w2 ⟨rfl, x2⟩
    have X2 := hid (X1.out.trans x2)
    clear x2
    go_wp2_with fail
    go_ret
    exact ⟨rfl, X2.out⟩
  · by_cases h2 : 1100 < n
    · go_enter Try.func6, Try.ntmps6
      go_wp2_with fail
      refine N.out.mono ?_
      rintro e w1 ⟨rfl, rfl⟩
      generalize w.alloc (.cells newCells 50 (0, 0)) = w1 at *
      go_wp2_with fail
      refine (AW.out _).mono ?_
      rintro e w2 ⟨rfl, x2⟩
      have X2 := hid (X1.out.trans x2)
      clear x2
      go_wp2_with fail
      go_ret
      exact ⟨rfl, X2.out⟩
    · obtain ⟨m, rfl⟩ : ∃ m : Nat, n = (m : Int) := ⟨n.toNat, by omega⟩
      go_enter Try.func6, Try.ntmps6
      go_wp2_with fail
      refine N.out.mono ?_
      rintro e w1 ⟨rfl, rfl⟩
      generalize w.alloc (.cells newCells 50 (0, 0)) = w1 at *
      obtain ⟨b, eb⟩ : ∃ b, b = w.heap.size := ⟨_, rfl⟩
      rw [← eb]
      rw [← eb] at NW
      have EB := hid eb
      clear eb N
      go_wp2_with fail
      go_loopw [4, 5, 23] (fun _ _ i wr => ∃ (k : Nat) (l : Sts), k ≤ m ∧ i = .int .i64 (k : Int) ∧ Hid (WhK (fun i => i < b) wr b 0 l ∧ Fills l k ∧ Kept (fun i => i < b) w1 wr)) (fun _ _ i _ => (m - intOf i).toNat)
      case atStart => exact ⟨0, [], by omega, rfl, NW.out, ⟨rfl, fun p hp => by cases hp⟩, Kept.refl _ _⟩
      case round =>
        obtain ⟨k, l, hk, rfl, S⟩ := hrel
        by_cases h : k < m
        · obtain ⟨s1, s2, s3⟩ := S.out
          have F := fills_step s2
          have C := set_any _ b 0 l ((k : Int) * 7) ((k : Int) % 100) wr s1
          obtain ⟨R, eR⟩ : ∃ R, R = callv l 1 ((k : Int) * 7) ((k : Int) % 100) := ⟨_, rfl⟩
          rw [← eR] at C F
          have FF := hid F.1
          have e2 := F.2
          rw [e2] at C
          have CC := hid C
          have K3 := hid s3
          have t1 : ((k : Int)).tmod 100 = (k : Int) % 100 := Int.tmod_eq_emod_of_nonneg (by omega)
          have i1 : (k : Int) < (m : Int) := by omega
          clear S s1 s2 s3 F C e2 eR
          by_cases hq : k < 1024
          · rw [if_pos hq] at CC
            have hq' : (k : Int) < 1024 := by omega
            go_wp2_with fail
            refine CC.out.mono ?_
            rintro e w2 ⟨rfl, u2, k2⟩
            have U2 : Hid (WhK (fun i => i < b) w2 b 0 R.1 ∧ Fills R.1 (k + 1) ∧ Kept (fun i => i < b) w1 w2) := ⟨u2, FF.out, K3.out.trans k2⟩
            clear CC u2 k2
            go_wp2_with fail
            go_roundw
            case rel => exact ⟨k + 1, R.1, by omega, by go_num, U2⟩
            case measure => simp [intOf]; omega
          · rw [if_neg hq] at CC
            have hq' : ¬ (k : Int) < 1024 := by omega
            have hq2 : (1024 : Int) ≤ (k : Int) := by omega
            go_wp2_with fail
            refine CC.out.mono ?_
            rintro e w2 ⟨rfl, u2, k2⟩
            have U2 : Hid (WhK (fun i => i < b) w2 b 0 R.1 ∧ Fills R.1 (k + 1) ∧ Kept (fun i => i < b) w1 w2) := ⟨u2, FF.out, K3.out.trans k2⟩
            clear CC u2 k2
            go_wp2_with fail
            go_roundw
            case rel => exact ⟨k + 1, R.1, by omega, by go_num, U2⟩
            case measure => simp [intOf]; omega
        · obtain rfl : k = m := by omega
          obtain ⟨s1, s2, s3⟩ := S.out
          obtain ⟨v, hu⟩ := s1.un
          have L := len_any b 0 v l wr hu.1 s1.1.2.2.2
          have e1 : (l.length : Int) = min (k : Int) 1024 := by rw [s2.1]; omega
          rw [e1] at L
          have LL := hid L
          have XF : Hid (Ext w wr) := Below.trans X1.out (s3.below X1.out.size (fun i hi => by have := EB.out; omega))
          clear S s1 s2 s3 hu L e1
          go_wp2_with fail
          refine LL.out.mono ?_
          rintro e w2 ⟨rfl, rfl⟩
          clear LL
          go_wp2_with fail
          refine (AW.out _).mono ?_
          rintro e w3 ⟨rfl, x3⟩
          have X3 := hid (XF.out.trans x3)
          clear x3
          go_wp2_with fail
          go_ret
          exact ⟨rfl, X3.out⟩
end Go.Proofs.Ythokjkkhkcdceaa.wheelFull
