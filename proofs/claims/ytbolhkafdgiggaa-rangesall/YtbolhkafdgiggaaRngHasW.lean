/-
  The walk of RangesHas: of any number it is told whether it is in the set, and which one is the next.
-/
import Derived.Test.YtbolhkafdgiggaaRngPlayed
import Derived.Test.YtbolhkafdgiggaaRngAwake
namespace Go.Proofs.Ytbolhkafdgiggaa
set_option linter.unusedVariables false
set_option maxRecDepth 100000
open Go.RowKit Go.Lib

/-- a set behind some calls: what is read of it and of the list -/
theorem Played.view {w wr : World} {b : Nat} {xv : Value} (h : Played w wr b xv) : ∃ v l xs g o c, SetV wr b v l ∧ Good l ∧ Tab xs l ∧ xv = .slice (some ⟨g, o, none⟩) 16384 c ∧ 16384 ≤ c ∧ c ≤ maxLen ∧ xs.length = 16384 ∧ Ext w wr ∧
    (∀ k, k < 16384 → wr.cell? ⟨g, o + k, none⟩ = some (.int .i64 (xs.getD k 0))) ∧ RowK (fun _ => True) wr xv 1 (icells xs) := by
  obtain ⟨K, l, xs, b1, t, hk, x⟩ := h
  obtain ⟨v, sv, _⟩ := b1.2.1
  have r := b1.2.2
  obtain ⟨ao, n, c, e, h1, h2, h3, h4⟩ := b1.2.2
  rw [icells_length, b1.len] at h1
  obtain rfl : n = 16384 := by omega
  obtain ⟨g, o, rfl, _, hc⟩ := h4 (by decide)
  exact ⟨v, l, xs, g, o, c, sv, b1.1.1, t, e, h2, h3, b1.len, x, fun k hk => hc k _ (icells_at xs k (by rw [b1.len]; exact hk)), r.mono (by decide) (fun _ _ _ => trivial)⟩
end Go.Proofs.Ytbolhkafdgiggaa
namespace Go.Proofs.Ytbolhkafdgiggaa.rangesHas
set_option linter.unusedVariables false
set_option maxRecDepth 100000
open Go.RowKit Go.Lib

theorem tab_nat {xs : List Int} {l : Sts} (h : Tab xs l) (k : Nat) (hk : k < 16384) : xs.getD k 0 = if has l (k : Int) = true then 1 else 0 := by
  have := h (k : Int) (by omega) (by omega)
  rwa [Int.toNat_natCast] at this

theorem first_low {l : Sts} (hg : Good l) {n : Int} {a0 k : Nat} (ha : (a0 : Int) = max n 0) (hk : 16384 ≤ k) (hf : ∀ i : Int, (a0 : Int) ≤ i → i < k → has l i = false) {r : Int} {ok : Bool} (F : FirstOf l n r ok) : ok = false ∧ r = 0 := by
  rcases F with ⟨h1, h2, _⟩ | ⟨h1, h2, h3, _⟩
  · exact ⟨h1, h2⟩
  · exfalso
    obtain ⟨p, hp, p1, p2⟩ := (has_iff l r).1 h3
    have := hg.1 p hp
    rw [hf r (by omega) (by omega)] at h3
    cases h3
theorem first_high {l : Sts} (hg : Good l) {n : Int} {a0 k : Nat} (ha : (a0 : Int) = max n 0) (hk : a0 ≤ k) (hh : has l (k : Int) = true) (hf : ∀ i : Int, (a0 : Int) ≤ i → i < k → has l i = false) {r : Int} {ok : Bool} (F : FirstOf l n r ok) : ok = true ∧ r = (k : Int) := by
  rcases F with ⟨_, _, h3⟩ | ⟨h1, h2, h3, h4⟩
  · rw [h3 k (by omega)] at hh; cases hh
  · refine ⟨h1, ?_⟩
    obtain ⟨p, hp, p1, p2⟩ := (has_iff l r).1 h3
    have := hg.1 p hp
    rcases Int.lt_trichotomy r k with q | q | q
    · rw [hf r (by omega) q] at h3; cases h3
    · exact q
    · rw [h4 k (by omega) q] at hh; cases hh

set_option maxHeartbeats 4000000 in
theorem walk (v0 : Value) (os : Ops) (n : Int) (w : World) (hv : RowK (fun _ => True) w v0 3 (ocells os)) :
    Calls Try.prog 4 #[v0, .int .i64 n] w fun e w' => e = .returned (.bool true) ∧ Ext w w' := by
  have HV := hid hv
  obtain ⟨ao, m, c, rfl, h1, h2, h3, _⟩ := hv
  have e : m = os.length := by rw [ocells_length] at h1; omega
  subst e
  unfold maxLen at h3
  clear h1
  by_cases t : 12 < os.length
  · have t' : (12 : Int) < (os.length : Int) := by omega
    go_enter Try.func4, Try.ntmps4
    go_wp2_with fail
    refine (awake8_any _).mono ?_
    rintro e w' ⟨rfl, X⟩
    go_wp2_with fail
    go_ret
    exact ⟨rfl, X⟩
  · have t' : decide ((12 : Int) < (os.length : Int)) = false := by simp; omega
    have C1 := hid (played_any _ w _ os HV.out (by omega))
    clear HV
    go_enter Try.func4, Try.ntmps4
    go_wp2_with fail
    refine C1.out.mono ?_
    rintro e w1 ⟨xv, rfl, P⟩
    obtain ⟨v, l, xs, g, o, cx, sv, hg, tab, rfl, q1, q2, xl, X1, hx, _⟩ := P.view
    have HX := hid hx
    have SV := hid sv
    have HG := hid hg
    have TB := hid tab
    have XX := hid X1
    unfold maxLen at q2
    clear C1 P hx sv hg tab X1 xl
    obtain ⟨b, eb⟩ : ∃ b, b = w.heap.size := ⟨_, rfl⟩
    rw [← eb] at SV ⊢
    clear eb
    have C2 := hid (has_any b n v l w1 SV.out HG.out)
    obtain ⟨B, eB⟩ : ∃ B, has l n = B := ⟨_, rfl⟩
    rw [eB] at C2
    have EB := hid eB
    clear eB
    go_wp2_with fail
    refine C2.out.mono ?_
    rintro e w2 ⟨rfl, x2⟩
    have C3 := hid (first_any b n v l w2 (SV.out.ext x2) HG.out)
    have HX2 : Hid (∀ k, k < 16384 → w2.cell? ⟨g, o + k, none⟩ = some (.int .i64 (xs.getD k 0))) := fun k hk => x2.cell (HX.out k hk)
    have X2 := hid (XX.out.trans x2)
    clear C2 x2 XX HX SV
    obtain ⟨a0, ea0⟩ : ∃ a0 : Nat, (a0 : Int) = max n 0 := ⟨(max n 0).toNat, by omega⟩
    have HA := hid ea0
    clear ea0
    have four : n < 0 ∨ (0 ≤ n ∧ 16384 ≤ n) ∨ (∃ j : Nat, n = (j : Int) ∧ j < 16384 ∧ B = false) ∨ (∃ j : Nat, n = (j : Int) ∧ j < 16384 ∧ B = true) := by
      by_cases n1 : n < 0
      · exact .inl n1
      · by_cases n2 : 16384 ≤ n
        · exact .inr (.inl ⟨by omega, n2⟩)
        · cases B with
          | false => exact .inr (.inr (.inl ⟨n.toNat, by omega, by omega, rfl⟩))
          | true => exact .inr (.inr (.inr ⟨n.toNat, by omega, by omega, rfl⟩))
    rcases four with n1 | ⟨n3, n2⟩ | ⟨j, rfl, n4, rfl⟩ | ⟨j, rfl, n4, rfl⟩
    case' inl =>
      obtain rfl : B = false := by rw [← EB.out]; exact HG.out.out (.inl n1)
      have n2 : ¬ (0 ≤ n) := by omega
      go_wp2_with fail
    case' inr.inl =>
      obtain rfl : B = false := by rw [← EB.out]; exact HG.out.out (.inr n2)
      have n1 : ¬ (n < 0) := by omega
      have n4 : ¬ (n < 16384) := by omega
      go_wp2_with fail
    case' inr.inr.inl =>
      have n5 : (j : Int) < 16384 := by omega
      have n6 : (0 : Int) ≤ (j : Int) := by omega
      have n1 : ¬ ((j : Int) < 0) := by omega
      have y1 := HX2.out j n4
      rw [tab_nat TB.out j n4, EB.out, if_neg (by decide)] at y1
      go_wp2_with fail
      clear y1
    case' inr.inr.inr =>
      have n5 : (j : Int) < 16384 := by omega
      have n6 : (0 : Int) ≤ (j : Int) := by omega
      have n1 : ¬ ((j : Int) < 0) := by omega
      have y1 := HX2.out j n4
      rw [tab_nat TB.out j n4, EB.out, if_pos rfl] at y1
      go_wp2_with fail
      clear y1
    all_goals (
      go_loop [7] (fun t => ∃ k : Nat, a0 ≤ k ∧ t = .int .i64 (k : Int) ∧ Hid (∀ i : Int, (a0 : Int) ≤ i → i < k → has l i = false)) (fun t => (16384 - intOf t).toNat)
      case atStart => exact ⟨a0, Nat.le_refl _, by congr 1; have := HA.out; omega, fun i h1 h2 => by omega⟩
      case round =>
        obtain ⟨k, hk, rfl, HF⟩ := hrel
        by_cases q : k < 16384
        · have y1 := HX2.out k q
          have r1 : (k : Int) < 16384 := by omega
          have r2 : (0 : Int) ≤ (k : Int) := by omega
          rw [tab_nat TB.out k q] at y1
          cases hB : has l (k : Int) with
          | true =>
            rw [hB, if_pos rfl] at y1
            have HB := hid hB
            clear hB
            go_wp2_with fail
            refine C3.out.mono ?_
            rintro e w3 ⟨⟨r, ok, rfl, F⟩, x3⟩
            obtain ⟨rfl, rfl⟩ := first_high HG.out HA.out hk HB.out HF.out F
            have X3 := hid (X2.out.trans x3)
            clear F x3 y1
            go_wp2_with fail
            refine (awake8_any _).mono ?_
            rintro e w4 ⟨rfl, x4⟩
            have X4 := hid (X3.out.trans x4)
            clear x4
            go_wp2_with fail
            go_ret
            exact ⟨rfl, X4.out⟩
          | false =>
            rw [hB, if_neg (by decide)] at y1
            have HF2 : Hid (∀ i : Int, (a0 : Int) ≤ i → i < ((k + 1 : Nat) : Int) → has l i = false) := fun i h1 h2 => by
              by_cases e : i = (k : Int)
              · rw [e]; exact hB
              · exact HF.out i h1 (by omega)
            clear hB
            go_wp2_with fail
            go_round
            case rel => exact ⟨k + 1, by omega, by go_num, HF2⟩
            case measure => simp [intOf]; omega
        · have r1 : ¬ ((k : Int) < 16384) := by omega
          have r2 : (16384 : Int) ≤ (k : Int) := by omega
          go_wp2_with fail
          refine C3.out.mono ?_
          rintro e w3 ⟨⟨r, ok, rfl, F⟩, x3⟩
          obtain ⟨rfl, rfl⟩ := first_low HG.out HA.out (by omega) HF.out F
          have X3 := hid (X2.out.trans x3)
          clear F x3
          go_wp2_with fail
          refine (awake8_any _).mono ?_
          rintro e w4 ⟨rfl, x4⟩
          have X4 := hid (X3.out.trans x4)
          clear x4
          go_wp2_with fail
          go_ret
          exact ⟨rfl, X4.out⟩)
end Go.Proofs.Ytbolhkafdgiggaa.rangesHas
