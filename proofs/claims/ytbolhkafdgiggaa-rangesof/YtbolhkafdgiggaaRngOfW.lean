/-
  The walk of RangesOf: any stretches make a set just if they are as the document says, and then they are its own.
-/
import Derived.Test.YtbolhkafdgiggaaRngOf
import Derived.Test.YtbolhkafdgiggaaRngAwake
import Derived.Test.YtbolhkafdgiggaaRngPairs
namespace Go.Proofs.Ytbolhkafdgiggaa.rangesOf
set_option linter.unusedVariables false
set_option maxRecDepth 100000
open Go.RowKit Go.Lib

set_option maxHeartbeats 4000000 in
theorem walk (v0 : Value) (l : Sts) (w : World) (hv : RowK (fun _ => True) w v0 2 (gcells l)) :
    Calls Try.prog 6 #[v0] w fun e w' => e = .returned (.bool true) ∧ Ext w w' := by
  have HV := hid hv
  obtain ⟨ao, n, c, rfl, h1, h2, h3, h4⟩ := hv
  have e : n = l.length := by rw [gcells_length] at h1; omega
  subst e
  have H4 := hid h4
  unfold maxLen at h3
  clear h1 h4
  by_cases t : 60 < l.length
  · have t' : (60 : Int) < (l.length : Int) := by omega
    go_enter Try.func6, Try.ntmps6
    go_wp2_with fail
    refine (awake8_any _).mono ?_
    rintro e w' ⟨rfl, X⟩
    go_wp2_with fail
    go_ret
    exact ⟨rfl, X⟩
  · have t' : decide ((60 : Int) < (l.length : Int)) = false := by simp; omega
    go_enter Try.func6, Try.ntmps6
    go_wp2_with fail
    go_loopw [3, 4, 15] (fun r a i wr => ∃ (k : Nat) (rt : Bool) (ah : Int), k ≤ l.length ∧ i = .int .i64 (k : Int) ∧ r = .bool rt ∧ a = .int .i64 ah ∧ Hid ((rt && rightB ah (l.drop k)) = rightB (-1) l) ∧ Ext w wr) (fun _ _ i _ => (l.length - intOf i).toNat)
    case atStart => exact ⟨0, true, -1, by omega, rfl, rfl, rfl, rfl, Ext.refl w⟩
    case round =>
      obtain ⟨k, rt, ah, hk, rfl, rfl, rfl, HR, xr⟩ := hrel
      have XR := hid xr
      by_cases q : k < l.length
      · obtain ⟨g, o, rfl, _, hc⟩ := H4.out (by omega)
        have x1 := xr.cell (hc _ _ (gcells_at l k q).1)
        have x2 := xr.cell (hc _ _ (gcells_at l k q).2)
        rw [← Nat.add_assoc] at x2
        rw [drop_step l k q, rightB] at HR
        have i1 : (k : Int) < (l.length : Int) := by omega
        have i2 : (0 : Int) ≤ (k : Int) := by omega
        clear hc xr
        generalize (l.getD k (0, 0)).1 = p at *
        generalize (l.getD k (0, 0)).2 = r at *
        have X2 := hid (XR.out.alloc (.cells #[.int .i64 p, .int .i64 r] 33))
        have NX : ∀ b : Bool, b = (rt && ((decide (ah < p) && decide (p < r)) && decide (r ≤ 16384))) → Hid ((b && rightB r (l.drop (k + 1))) = rightB (-1) l) := by
          intro b hb
          show _ = _
          rw [← HR.out, hb, Bool.and_assoc rt]
        cases rt with
        | false =>
          have N := NX false rfl
          clear NX HR
          go_wp2_with fail
          go_roundw
          case rel => exact ⟨k + 1, false, r, by omega, by go_num, rfl, rfl, N, X2.out⟩
          case measure => simp [intOf]; omega
        | true =>
          by_cases t1 : ah < p
          · by_cases t2 : p < r
            · by_cases t3 : r ≤ 16384
              · have N := NX true (by simp [t1, t2, t3])
                clear NX HR
                go_wp2_with fail
                go_roundw
                case rel => exact ⟨k + 1, true, r, by omega, by go_num, rfl, rfl, N, X2.out⟩
                case measure => simp [intOf]; omega
              · have N := NX false (by simp [t3])
                clear NX HR
                go_wp2_with fail
                go_roundw
                case rel => exact ⟨k + 1, false, r, by omega, by go_num, by first | rfl | (simp; done) | (simp; omega), rfl, N, X2.out⟩
                case measure => simp [intOf]; omega
            · have N := NX false (by simp [t2])
              clear NX HR
              go_wp2_with fail
              go_roundw
              case rel => exact ⟨k + 1, false, r, by omega, by go_num, by first | rfl | (simp; omega), rfl, N, X2.out⟩
              case measure => simp [intOf]; omega
          · have N := NX false (by simp [t1])
            clear NX HR
            go_wp2_with fail
            go_roundw
            case rel => exact ⟨k + 1, false, r, by omega, by go_num, by first | rfl | (simp; omega), rfl, N, X2.out⟩
            case measure => simp [intOf]; omega
      · obtain rfl : k = l.length := by omega
        rw [List.drop_length] at HR
        have hr := HR.out
        rw [show (rt && rightB ah []) = rt by simp [rightB]] at hr
        have HV2 := HV.out.kept (Kept.of_ext xr)
        clear HR xr
        cases rt with
        | false =>
          have C2 := hid (of_no wr _ l HV2 (by omega) hr.symm)
          clear hr HV2
          go_wp2_with fail
          refine C2.out.mono ?_
          rintro e w2 ⟨rfl, x2⟩
          have X2 := hid (XR.out.trans x2)
          clear C2 x2
          go_wp2_with fail
          refine (awake8_any _).mono ?_
          rintro e w3 ⟨rfl, x3⟩
          have X3 := hid (X2.out.trans x3)
          clear x3
          go_wp2_with fail
          go_ret
          exact ⟨rfl, X3.out⟩
        | true =>
          have C2 := hid (of_yes wr _ l HV2 (by omega) ((right_good l).1 hr.symm))
          have RW := hid HV2
          have LN := ((right_good l).1 hr.symm).len
          clear hr HV2
          go_wp2_with fail
          refine C2.out.mono ?_
          rintro e w2 ⟨b, rfl, ⟨v, sv, _⟩, x2⟩
          have C3 := hid (stretches_any b v l w2 sv (by omega))
          have X2 := hid (XR.out.trans x2)
          have RW2 := hid (RW.out.kept (Kept.of_ext x2))
          clear C2 x2 sv RW
          go_wp2_with fail
          refine C3.out.mono ?_
          rintro e w3 ⟨v3, rfl, o3, x3, _⟩
          have C4 := hid (pairs_any _ _ w3 _ _ l l o3.row (RW2.out.kept (Kept.of_ext x3)) (by omega))
          rw [show (l == l) = true by simp] at C4
          have X3 := hid (X2.out.trans x3)
          obtain ⟨a3, n3, c3, e3⟩ := owns_slice o3
          subst e3
          clear C3 o3 x3 RW2
          go_wp2_with fail
          refine C4.out.mono ?_
          rintro e w4 ⟨rfl, n4, rfl⟩
          clear C4
          go_wp2_with fail
          refine (awake8_any _).mono ?_
          rintro e w5 ⟨rfl, x5⟩
          have X5 := hid ((X3.out.drewN n4).trans x5)
          clear x5
          go_wp2_with fail
          go_ret
          exact ⟨rfl, X5.out⟩
end Go.Proofs.Ytbolhkafdgiggaa.rangesOf
