/-
  The walk of the reference's Turn: one bit of a text.
-/
import Derived.Test.YtjmgigfaiaemeaaSimRef
namespace Go.Proofs.Ytjmgigfaiaemeaa.Sim
set_option linter.unusedVariables false
set_option maxRecDepth 100000
open Go.RowKit Go.Lib Go.Proofs.Ytjmgigfaiaemeaa.Crc
open Go.Proofs.Ytjmgigfaiaemeaa.Pip hiding NewR

/-- a byte as it lies in a cell -/
def benc (b : UInt8) : List Value := [.int .u8 (b.toNat : Int)]
theorem encB : Enc benc 1 := ⟨by decide, fun _ => rfl, fun x u h => by
  simp only [benc, List.mem_cons, List.not_mem_nil, or_false] at h
  subst h
  rfl⟩
theorem bcells_f (l : List UInt8) : fcells benc l = bcells l := by
  induction l with
  | nil => rfl
  | cons x l ih => rw [fcells_cons, ih]; rfl

theorem elemsB : Elems 41 5 1 1 (.int .u8 0) := ⟨Try.underlying41, by kernel_rfl, rfl, by decide⟩

theorem index_str (l : List UInt8) (k : Nat) (hk : k < l.length) (w : World) : (Instr.index 9 (.string (str l)) (.int .i64 (k : Int))).run Try.prog w = .ok (.int .u8 ((l.getD k 0).toNat : Int)) w := by
  rw [run_index_string w 9 (str l) .i64 (k : Int) Try.underlying9, dif_pos ⟨by omega, by rw [str_size]; omega⟩]
  congr 3
  rw [List.getD_eq_getElem?_getD, List.getElem?_eq_getElem hk]
  rfl

set_option maxHeartbeats 4000000 in
theorem refTurn_any (l : List UInt8) (bit : Int) (w : World) (hl : l.length ≤ 1000) (b0 : -9223372036854775808 ≤ bit) (b1 : bit ≤ 9223372036854775807) :
    Calls Try.prog 55 #[.string (str l), .int .i64 bit] w fun e w' => e = .returned (.string (str (cturn l bit))) ∧ Ext w w' := by
  have z0 : (str l).size = l.length := str_size l
  rcases Nat.eq_zero_or_pos l.length with h0 | h0
  · have e : l = [] := List.eq_nil_of_length_eq_zero h0
    subst e
    have z1 : (str []).size = 0 := rfl
    have et : cturn [] bit = [] := rfl
    rw [et]
    generalize str [] = S at *
    go_enter Try.func55, Try.ntmps55
    go_wp2_with fail
    go_ret
    exact ⟨rfl, Ext.refl w⟩
  · obtain ⟨A, eA, hA, pA, mA⟩ := place_emod l.length bit h0
    obtain ⟨j, hj, hm, hj2⟩ := cmask_nat bit
    have ej : A % 8 = j := by omega
    have TK := hid (cturn_take l bit)
    have PA := hid pA
    have MK := hid hm
    have EA := hid eA
    have IX := hid (index_str l)
    have FULL : Hid ((cturn l bit).take l.length = cturn l bit) := by
      show _ = _
      rw [← cturn_length l bit]
      exact List.take_length
    have LT : Hid (∀ k, ((cturn l bit).take k).length ≤ k) := fun k => by rw [List.length_take]; omega
    have N0 := hid (NewR.nil benc 5 1 w)
    obtain ⟨n, en⟩ : ∃ n, n = l.length := ⟨_, rfl⟩
    have EN := hid en
    rw [← en] at z0 hl h0 eA hA FULL
    obtain ⟨R, eR⟩ : ∃ R, R = str (cturn l bit) := ⟨_, rfl⟩
    rw [← eR]
    have ER := hid eR
    -- the place, as the program reckons it
    have tm : Int.tmod bit (8 * (n : Int)) = (A : Int) ∨ Int.tmod bit (8 * (n : Int)) = (A : Int) - 8 * (n : Int) := by
      rw [Int.tmod_eq_emod]
      split
      · left; rw [eA]; omega
      · right; rw [eA]; simp; omega
    have n1 : (0 : Int) < (n : Int) := by omega
    clear eA pA hm hj2 mA en eR
    generalize hS : str l = S at *
    have HS := hid hS
    clear hS
    have e8 : ((8 : Int) * (n : Int) == 0) = false := by rw [beq_eq_false_iff_ne]; omega
    obtain ⟨P, hP⟩ : ∃ P, P = A / 8 := ⟨_, rfl⟩
    rw [← hP] at PA
    obtain ⟨aa, haa⟩ : ∃ aa : Int, aa = (A : Int) := ⟨_, rfl⟩
    have d1 : aa / 8 = (P : Int) := by omega
    have d2 : aa % 8 = (j : Int) := by omega
    have a0 : 0 ≤ aa := by omega
    have a1 : aa < 8 * (n : Int) := by omega
    have t1 : Int.tdiv aa 8 = (P : Int) := by rw [Int.tdiv_eq_ediv_of_nonneg a0]; exact d1
    have t2 : Int.tmod aa 8 = (j : Int) := by rw [Int.tmod_eq_emod_of_nonneg a0]; exact d2
    rw [← haa] at tm
    clear haa hP ej EA hA
    have i3 : decide (aa < 0) = false := by simp; omega
    rcases tm with tm | tm
    · have i6 : True := trivial
      go_enter Try.func55, Try.ntmps55
      go_wp2_with fail
      go_loopw [7, 8, 9, 10, 11] (fun o i _ _ _ wr => ∃ (k : Nat) (x : Value), k ≤ n ∧ i = .int .i64 (k : Int) ∧ x = o ∧ Hid (NewR benc 5 1 w wr x ((cturn l bit).take k))) (fun _ i _ _ _ _ => (n - intOf i).toNat)
      case atStart => exact ⟨0, _, by omega, rfl, rfl, N0.out⟩
      case round =>
        obtain ⟨k, out, hk, rfl, rfl, NN⟩ := hrel
        by_cases h : k < n
        · have hk2 : k < l.length := by rw [← EN.out]; exact h
          have ix := IX.out k hk2 wr
          have i1 : (k : Int) < (n : Int) := by omega
          have i2 : (0 : Int) ≤ (k : Int) := by omega
          have LK := LT.out k
          have TK1 := TK.out k hk2
          rw [← PA.out] at TK1
          have BT := bit_turn (l.getD k 0).toNat j (UInt8.toNat_lt _) hj
          have BS := bit_sub (l.getD k 0).toNat j
          have YX : (l.getD k 0 ^^^ cmask bit).toNat = (l.getD k 0).toNat ^^^ 2 ^ j := by rw [UInt8.toNat_xor, MK.out]
          have xr := UInt8.toNat_lt (l.getD k 0)
          rw [← YX] at BT
          have yr := UInt8.toNat_lt (l.getD k 0 ^^^ cmask bit)
          clear IX TK LT MK PA YX N0 FULL hk2 tm
          by_cases hP : k = P
          · rw [if_pos hP] at TK1
            have hP' : ((k : Int) = (P : Int)) := by omega
            obtain ⟨v', w', r, N2, _⟩ := NN.out.step elemsB encB 41 (l.getD k 0 ^^^ cmask bit) (by omega)
            rw [← TK1] at N2
            have r' : (Builtin.append_ #[41, 41] 41 #[out, .slice (some ⟨wr.heap.size, 0, none⟩) 1 1]).run Try.prog (wr.alloc (.cells #[.int .u8 ((l.getD k 0 ^^^ cmask bit).toNat : Int)] 5)) = .ok v' w' := r
            have R2 := hid r'
            have NN2 := hid N2
            obtain ⟨oa, oc, oe, _⟩ := NN.out.slice
            obtain ⟨on, eon⟩ : ∃ on, on = ((cturn l bit).take k).length := ⟨_, rfl⟩
            rw [← eon] at oe
            clear r r' N2 TK1 NN LK eon
            subst oe
            generalize (l.getD k 0 ^^^ cmask bit).toNat = y at *
            generalize (l.getD k 0).toNat = x at *
            have yw : (y : Int) % 256 = (y : Int) := by omega
            obtain ⟨wo, rfl⟩ : ∃ wo, wo = wr := ⟨_, rfl⟩
            subst hP
            go_wp2_with fail
            go_loopw [10, 11] (fun one q wr => ∃ r : Nat, r ≤ j ∧ q = .int .i64 (r : Int) ∧ one = .int .i64 ((2 ^ r : Nat) : Int) ∧ wr = wo) (fun _ q _ => (j - intOf q).toNat)
            case atStart => exact ⟨0, by omega, rfl, rfl, rfl⟩
            case round =>
              obtain ⟨r, hr, rfl, rfl, rfl⟩ := hrel
              by_cases hq : r < j
              · have j1 : (r : Int) < (j : Int) := by omega
                have pw : 2 ^ r ≤ 64 := Nat.pow_le_pow_right (n := 2) (by decide) (show r ≤ 6 by omega)
                have pn : Hid (2 ^ (r + 1) = 2 ^ r * 2) := Nat.pow_succ ..
                generalize 2 ^ r = z at *
                have zw : IntKind.i64.wrap ((z : Int) * 2) = (z : Int) * 2 := IntWalk.i64_in _ (by omega)
                clear BT BS
                go_wp2_with fail
                go_roundw
                case rel => exact ⟨r + 1, by omega, by go_num, by rw [pn.out]; go_num, trivial⟩
                case measure => simp [intOf]; omega
              · obtain rfl : r = j := by omega
                have pw : 2 ^ r ≤ 128 := Nat.pow_le_pow_right (n := 2) (by decide) (show r ≤ 7 by omega)
                have pp : 0 < 2 ^ r := Nat.two_pow_pos r
                generalize 2 ^ r = M at *
                have q1 : Int.tdiv (x : Int) (M : Int) = ((x / M : Nat) : Int) := by rw [Int.tdiv_eq_ediv_of_nonneg (by omega)]; simp
                have q2 : ((M : Int) == 0) = false := by rw [beq_eq_false_iff_ne]; omega
                have dr : x / M ≤ x := Nat.div_le_self ..
                generalize x / M = D at *
                obtain ⟨dd, edd⟩ : ∃ dd : Int, dd = (D : Int) := ⟨_, rfl⟩
                rw [← edd] at q1
                have q3 : (x : Int) / (M : Int) = dd := by rw [← Int.tdiv_eq_ediv_of_nonneg (by omega)]; exact q1
                have dn : 0 ≤ dd := by omega
                have dn2 : dd ≤ 300 := by omega
                by_cases hb : D % 2 = 1
                · have hM := BS hb
                  rw [if_pos hb] at BT
                  have m1 : Int.tmod dd 2 = 1 := by rw [Int.tmod_eq_emod_of_nonneg dn]; omega
                  have m2 : dd % 2 = 1 := by omega
                  have ey : (x : Int) - (M : Int) = (y : Int) := by omega
                  have sw : IntKind.i64.wrap ((x : Int) - (M : Int)) = (y : Int) := by rw [ey]; exact IntWalk.i64_in _ (by omega)
                  clear BS BT hb edd
                  go_wp2_with (at_builtin; refine wpList_append_run _ rfl (.tmp 59) (.tmp 62) 41 41 rfl _ _ rfl rfl _ _ R2.out ?_)
                  go_roundw
                  case rel => exact ⟨k + 1, _, by omega, by go_num, rfl, NN2⟩
                  case measure => simp [intOf]; omega
                · rw [if_neg hb] at BT
                  have m1 : Int.tmod dd 2 = 0 := by rw [Int.tmod_eq_emod_of_nonneg dn]; omega
                  have m2 : dd % 2 = 0 := by omega
                  have ey : (x : Int) + (M : Int) = (y : Int) := by omega
                  have sw : IntKind.i64.wrap ((x : Int) + (M : Int)) = (y : Int) := by rw [ey]; exact IntWalk.i64_in _ (by omega)
                  clear BS BT hb edd
                  go_wp2_with (at_builtin; refine wpList_append_run _ rfl (.tmp 59) (.tmp 62) 41 41 rfl _ _ rfl rfl _ _ R2.out ?_)
                  go_roundw
                  case rel => exact ⟨k + 1, _, by omega, by go_num, rfl, NN2⟩
                  case measure => simp [intOf]; omega
          · rw [if_neg hP] at TK1
            have hP' : ¬ ((k : Int) = (P : Int)) := by omega
            obtain ⟨v', w', r, N2, _⟩ := NN.out.step elemsB encB 41 (l.getD k 0) (by omega)
            rw [← TK1] at N2
            have r' : (Builtin.append_ #[41, 41] 41 #[out, .slice (some ⟨wr.heap.size, 0, none⟩) 1 1]).run Try.prog (wr.alloc (.cells #[.int .u8 ((l.getD k 0).toNat : Int)] 5)) = .ok v' w' := r
            have R2 := hid r'
            have NN2 := hid N2
            clear r r' N2 BT BS TK1 NN LK
            generalize (l.getD k 0).toNat = x at *
            have xw : (x : Int) % 256 = (x : Int) := by omega
            go_wp2_with (at_builtin; refine wpList_append_run _ rfl (.tmp 59) (.tmp 62) 41 41 rfl _ _ rfl rfl _ _ R2.out ?_)
            go_roundw
            case rel => exact ⟨k + 1, _, by omega, by go_num, rfl, NN2⟩
            case measure => simp [intOf]; omega
        · obtain rfl : k = n := by omega
          have NF := NN.out
          rw [FULL.out] at NF
          have CV : (convert 41 9 out).run Try.prog wr = .ok (.string R) wr := by
            have := Bytes.str (RowK.bytes (by rw [← bcells_f]; exact NF.row encB))
            rw [← ER.out] at this
            exact this
          have X := hid NF.2.2
          clear NN NF
          go_wp2_with fail
          go_ret
          exact ⟨rfl, X.out⟩
    · have i4 : aa - 8 * (n : Int) < 0 := by omega
      have i5 : aa - 8 * (n : Int) + 8 * (n : Int) = aa := by omega
      go_enter Try.func55, Try.ntmps55
      go_wp2_with fail
      go_loopw [7, 8, 9, 10, 11] (fun o i _ _ _ wr => ∃ (k : Nat) (x : Value), k ≤ n ∧ i = .int .i64 (k : Int) ∧ x = o ∧ Hid (NewR benc 5 1 w wr x ((cturn l bit).take k))) (fun _ i _ _ _ _ => (n - intOf i).toNat)
      case atStart => exact ⟨0, _, by omega, rfl, rfl, N0.out⟩
      case round =>
        obtain ⟨k, out, hk, rfl, rfl, NN⟩ := hrel
        by_cases h : k < n
        · have hk2 : k < l.length := by rw [← EN.out]; exact h
          have ix := IX.out k hk2 wr
          have i1 : (k : Int) < (n : Int) := by omega
          have i2 : (0 : Int) ≤ (k : Int) := by omega
          have LK := LT.out k
          have TK1 := TK.out k hk2
          rw [← PA.out] at TK1
          have BT := bit_turn (l.getD k 0).toNat j (UInt8.toNat_lt _) hj
          have BS := bit_sub (l.getD k 0).toNat j
          have YX : (l.getD k 0 ^^^ cmask bit).toNat = (l.getD k 0).toNat ^^^ 2 ^ j := by rw [UInt8.toNat_xor, MK.out]
          have xr := UInt8.toNat_lt (l.getD k 0)
          rw [← YX] at BT
          have yr := UInt8.toNat_lt (l.getD k 0 ^^^ cmask bit)
          clear IX TK LT MK PA YX N0 FULL hk2 tm
          by_cases hP : k = P
          · rw [if_pos hP] at TK1
            have hP' : ((k : Int) = (P : Int)) := by omega
            obtain ⟨v', w', r, N2, _⟩ := NN.out.step elemsB encB 41 (l.getD k 0 ^^^ cmask bit) (by omega)
            rw [← TK1] at N2
            have r' : (Builtin.append_ #[41, 41] 41 #[out, .slice (some ⟨wr.heap.size, 0, none⟩) 1 1]).run Try.prog (wr.alloc (.cells #[.int .u8 ((l.getD k 0 ^^^ cmask bit).toNat : Int)] 5)) = .ok v' w' := r
            have R2 := hid r'
            have NN2 := hid N2
            obtain ⟨oa, oc, oe, _⟩ := NN.out.slice
            obtain ⟨on, eon⟩ : ∃ on, on = ((cturn l bit).take k).length := ⟨_, rfl⟩
            rw [← eon] at oe
            clear r r' N2 TK1 NN LK eon
            subst oe
            generalize (l.getD k 0 ^^^ cmask bit).toNat = y at *
            generalize (l.getD k 0).toNat = x at *
            have yw : (y : Int) % 256 = (y : Int) := by omega
            obtain ⟨wo, rfl⟩ : ∃ wo, wo = wr := ⟨_, rfl⟩
            subst hP
            go_wp2_with fail
            go_loopw [10, 11] (fun one q wr => ∃ r : Nat, r ≤ j ∧ q = .int .i64 (r : Int) ∧ one = .int .i64 ((2 ^ r : Nat) : Int) ∧ wr = wo) (fun _ q _ => (j - intOf q).toNat)
            case atStart => exact ⟨0, by omega, rfl, rfl, rfl⟩
            case round =>
              obtain ⟨r, hr, rfl, rfl, rfl⟩ := hrel
              by_cases hq : r < j
              · have j1 : (r : Int) < (j : Int) := by omega
                have pw : 2 ^ r ≤ 64 := Nat.pow_le_pow_right (n := 2) (by decide) (show r ≤ 6 by omega)
                have pn : Hid (2 ^ (r + 1) = 2 ^ r * 2) := Nat.pow_succ ..
                generalize 2 ^ r = z at *
                have zw : IntKind.i64.wrap ((z : Int) * 2) = (z : Int) * 2 := IntWalk.i64_in _ (by omega)
                clear BT BS
                go_wp2_with fail
                go_roundw
                case rel => exact ⟨r + 1, by omega, by go_num, by rw [pn.out]; go_num, trivial⟩
                case measure => simp [intOf]; omega
              · obtain rfl : r = j := by omega
                have pw : 2 ^ r ≤ 128 := Nat.pow_le_pow_right (n := 2) (by decide) (show r ≤ 7 by omega)
                have pp : 0 < 2 ^ r := Nat.two_pow_pos r
                generalize 2 ^ r = M at *
                have q1 : Int.tdiv (x : Int) (M : Int) = ((x / M : Nat) : Int) := by rw [Int.tdiv_eq_ediv_of_nonneg (by omega)]; simp
                have q2 : ((M : Int) == 0) = false := by rw [beq_eq_false_iff_ne]; omega
                have dr : x / M ≤ x := Nat.div_le_self ..
                generalize x / M = D at *
                obtain ⟨dd, edd⟩ : ∃ dd : Int, dd = (D : Int) := ⟨_, rfl⟩
                rw [← edd] at q1
                have q3 : (x : Int) / (M : Int) = dd := by rw [← Int.tdiv_eq_ediv_of_nonneg (by omega)]; exact q1
                have dn : 0 ≤ dd := by omega
                have dn2 : dd ≤ 300 := by omega
                by_cases hb : D % 2 = 1
                · have hM := BS hb
                  rw [if_pos hb] at BT
                  have m1 : Int.tmod dd 2 = 1 := by rw [Int.tmod_eq_emod_of_nonneg dn]; omega
                  have m2 : dd % 2 = 1 := by omega
                  have ey : (x : Int) - (M : Int) = (y : Int) := by omega
                  have sw : IntKind.i64.wrap ((x : Int) - (M : Int)) = (y : Int) := by rw [ey]; exact IntWalk.i64_in _ (by omega)
                  clear BS BT hb edd
                  go_wp2_with (at_builtin; refine wpList_append_run _ rfl (.tmp 59) (.tmp 62) 41 41 rfl _ _ rfl rfl _ _ R2.out ?_)
                  go_roundw
                  case rel => exact ⟨k + 1, _, by omega, by go_num, rfl, NN2⟩
                  case measure => simp [intOf]; omega
                · rw [if_neg hb] at BT
                  have m1 : Int.tmod dd 2 = 0 := by rw [Int.tmod_eq_emod_of_nonneg dn]; omega
                  have m2 : dd % 2 = 0 := by omega
                  have ey : (x : Int) + (M : Int) = (y : Int) := by omega
                  have sw : IntKind.i64.wrap ((x : Int) + (M : Int)) = (y : Int) := by rw [ey]; exact IntWalk.i64_in _ (by omega)
                  clear BS BT hb edd
                  go_wp2_with (at_builtin; refine wpList_append_run _ rfl (.tmp 59) (.tmp 62) 41 41 rfl _ _ rfl rfl _ _ R2.out ?_)
                  go_roundw
                  case rel => exact ⟨k + 1, _, by omega, by go_num, rfl, NN2⟩
                  case measure => simp [intOf]; omega
          · rw [if_neg hP] at TK1
            have hP' : ¬ ((k : Int) = (P : Int)) := by omega
            obtain ⟨v', w', r, N2, _⟩ := NN.out.step elemsB encB 41 (l.getD k 0) (by omega)
            rw [← TK1] at N2
            have r' : (Builtin.append_ #[41, 41] 41 #[out, .slice (some ⟨wr.heap.size, 0, none⟩) 1 1]).run Try.prog (wr.alloc (.cells #[.int .u8 ((l.getD k 0).toNat : Int)] 5)) = .ok v' w' := r
            have R2 := hid r'
            have NN2 := hid N2
            clear r r' N2 BT BS TK1 NN LK
            generalize (l.getD k 0).toNat = x at *
            have xw : (x : Int) % 256 = (x : Int) := by omega
            go_wp2_with (at_builtin; refine wpList_append_run _ rfl (.tmp 59) (.tmp 62) 41 41 rfl _ _ rfl rfl _ _ R2.out ?_)
            go_roundw
            case rel => exact ⟨k + 1, _, by omega, by go_num, rfl, NN2⟩
            case measure => simp [intOf]; omega
        · obtain rfl : k = n := by omega
          have NF := NN.out
          rw [FULL.out] at NF
          have CV : (convert 41 9 out).run Try.prog wr = .ok (.string R) wr := by
            have := Bytes.str (RowK.bytes (by rw [← bcells_f]; exact NF.row encB))
            rw [← ER.out] at this
            exact this
          have X := hid NF.2.2
          clear NN NF
          go_wp2_with fail
          go_ret
          exact ⟨rfl, X.out⟩
end Go.Proofs.Ytjmgigfaiaemeaa.Sim
