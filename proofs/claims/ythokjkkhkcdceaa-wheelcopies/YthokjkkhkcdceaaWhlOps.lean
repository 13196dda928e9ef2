/-
  Walks of Stop, Move, Set: the wheel's list as callv tells.
-/
import Derived.Test.YthokjkkhkcdceaaWhlTake
import Derived.Test.YthokjkkhkcdceaaWhlLay
namespace Go.Proofs.Ythokjkkhkcdceaa
set_option linter.unusedVariables false
set_option maxRecDepth 100000
open Go.RowKit Go.Lib

set_option maxHeartbeats 1000000 in
theorem stop_any (K : Nat → Prop) (b : Nat) (t : Int) (l : Sts) (id tick : Int) (w : World) (hw : WhK K w b t l) :
    Calls Try.prog 18 #[.pointer (some ⟨b, 0, none⟩), .int .i64 id] w fun e w' =>
      e = .returned (.int .i64 (callv l 3 id tick).2) ∧ WhK K w' b t (callv l 3 id tick).1 ∧ Kept K w w' := by
  obtain ⟨v, hu⟩ := hw.un
  have F := hid (find_any b id t v l w hu.1)
  have HW := hid hw
  clear hu hw
  obtain ⟨R, eR⟩ : ∃ R, R = callv l 3 id tick := ⟨_, rfl⟩
  have ER := hid eR
  rw [← eR]
  clear eR
  go_enter Try.func18, Try.ntmps18
  go_wp2_with fail
  refine F.out.mono ?_
  rintro e w1 ⟨r, rfl, hr, x1⟩
  have X1 := hid x1
  clear F
  rcases hr with ⟨rfl, hr⟩ | ⟨k, j, rfl, hk, hj, ej⟩
  · have e2 : R = (l, 14) := by rw [ER.out]; unfold callv; rw [if_neg (by simp), if_neg (by decide), if_pos (has_not hr)]
    subst e2
    clear hr x1
    go_wp2_with fail
    go_ret
    exact ⟨rfl, HW.out.ext X1.out, Kept.of_ext X1.out⟩
  · have e2 : R = (wo id l, 0) := by
      have hm := (mem_sp.1 (getD_mem hj)).1
      rw [ER.out]; unfold callv; rw [if_neg (by simp), if_neg (by decide), if_neg (by rw [has_of hm ej]; simp), if_pos rfl]
    subst e2
    have T := take_any K b t l k j w1 (HW.out.ext x1) hk hj
    rw [ej] at T
    have TT := hid T
    clear T ej hj x1 ER
    go_wp2_with fail
    refine TT.out.mono ?_
    rintro e w2 ⟨rfl, u2, k2⟩
    have U2 := hid u2
    have K2 := hid k2
    clear u2 k2 TT
    go_wp2_with fail
    go_ret
    exact ⟨rfl, U2.out, (Kept.of_ext X1.out).trans K2.out⟩

set_option maxHeartbeats 1000000 in
theorem move_any (K : Nat → Prop) (b : Nat) (t : Int) (l : Sts) (id tick : Int) (w : World) (hw : WhK K w b t l) :
    Calls Try.prog 20 #[.pointer (some ⟨b, 0, none⟩), .int .i64 id, .int .i64 tick] w fun e w' =>
      e = .returned (.int .i64 (callv l 2 id tick).2) ∧ WhK K w' b t (callv l 2 id tick).1 ∧ Kept K w w' := by
  have N := hid (within_any tick w)
  have HW := hid hw
  clear hw
  obtain ⟨R, eR⟩ : ∃ R, R = callv l 2 id tick := ⟨_, rfl⟩
  have ER := hid eR
  rw [← eR]
  clear eR
  by_cases ht : 0 ≤ tick ∧ tick ≤ 2199023255552
  · have e1 : decide (0 ≤ tick ∧ tick ≤ 2199023255552) = true := by simp [ht]
    rw [e1] at N
    have S := hid (stop_any K b t l id tick w HW.out)
    clear e1
    obtain ⟨Q, eQ⟩ : ∃ Q, Q = callv l 3 id tick := ⟨_, rfl⟩
    rw [← eQ] at S
    have EQ := hid eQ
    clear eQ
    cases hh : has l id with
    | false =>
      have e2 : R = (l, 14) := by rw [ER.out]; unfold callv; rw [if_neg (by omega), if_neg (by decide), if_pos hh]
      have e3 : Q = (l, 14) := by rw [EQ.out]; unfold callv; rw [if_neg (by simp), if_neg (by decide), if_pos hh]
      subst e2 e3
      clear hh ER EQ
      go_enter Try.func20, Try.ntmps20
      go_wp2_with fail
      refine N.out.mono ?_
      rintro e w' ⟨rfl, rfl⟩
      clear N
      go_wp2_with fail
      refine S.out.mono ?_
      rintro e w2 ⟨rfl, u2, k2⟩
      have U2 := hid u2
      have K2 := hid k2
      clear S u2 k2
      go_wp2_with fail
      go_ret
      exact ⟨rfl, U2.out, K2.out⟩
    | true =>
      have e2 : R = (ins (id, tick) (wo id l), 0) := by rw [ER.out]; unfold callv; rw [if_neg (by omega), if_neg (by decide), if_neg (by rw [hh]; simp), if_neg (by decide)]
      have e3 : Q = (wo id l, 0) := by rw [EQ.out]; unfold callv; rw [if_neg (by simp), if_neg (by decide), if_neg (by rw [hh]; simp), if_pos rfl]
      subst e2 e3
      have LL : Hid ((wo id l).length < 1024) := by
        obtain ⟨p, hp, e⟩ := has_yes hh
        have h1 := wo_lt hp e
        have h2 := HW.out.1.2.2.2
        show _ < _
        omega
      clear hh ER EQ
      go_enter Try.func20, Try.ntmps20
      go_wp2_with fail
      refine N.out.mono ?_
      rintro e w' ⟨rfl, rfl⟩
      clear N
      go_wp2_with fail
      refine S.out.mono ?_
      rintro e w2 ⟨rfl, u2, k2⟩
      have P := hid (put_any K b t (wo id l) id tick w2 u2 (wo_has_no l id) ht LL.out)
      have K2 := hid k2
      clear S u2 k2
      go_wp2_with fail
      refine P.out.mono ?_
      rintro e w3 ⟨rfl, u3, k3⟩
      have U3 := hid u3
      have K3 := hid k3
      clear P u3 k3
      go_wp2_with fail
      go_ret
      exact ⟨rfl, U3.out, K2.out.trans K3.out⟩
  · have e1 : decide (0 ≤ tick ∧ tick ≤ 2199023255552) = false := by simp only [decide_eq_false_iff_not]; exact ht
    rw [e1] at N
    have e2 : R = (l, 11) := by rw [ER.out]; unfold callv; rw [if_pos ⟨by decide, by omega⟩]
    subst e2
    clear e1 ER ht
    go_enter Try.func20, Try.ntmps20
    go_wp2_with fail
    refine N.out.mono ?_
    rintro e w' ⟨rfl, rfl⟩
    clear N
    go_wp2_with fail
    go_ret
    exact ⟨rfl, HW.out, Kept.refl _ _⟩

set_option maxHeartbeats 1000000 in
theorem set_any (K : Nat → Prop) (b : Nat) (t : Int) (l : Sts) (id tick : Int) (w : World) (hw : WhK K w b t l) :
    Calls Try.prog 16 #[.pointer (some ⟨b, 0, none⟩), .int .i64 id, .int .i64 tick] w fun e w' =>
      e = .returned (.int .i64 (callv l 1 id tick).2) ∧ WhK K w' b t (callv l 1 id tick).1 ∧ Kept K w w' := by
  obtain ⟨v, hu⟩ := hw.un
  have N := hid (within_any tick w)
  have F := hid (find_any b id t v l w hu.1)
  have HV := hid hu.1
  have HW := hid hw
  clear hw hu
  obtain ⟨R, eR⟩ : ∃ R, R = callv l 1 id tick := ⟨_, rfl⟩
  have ER := hid eR
  rw [← eR]
  clear eR
  by_cases ht : 0 ≤ tick ∧ tick ≤ 2199023255552
  · have e1 : decide (0 ≤ tick ∧ tick ≤ 2199023255552) = true := by simp [ht]
    rw [e1] at N
    clear e1
    go_enter Try.func16, Try.ntmps16
    go_wp2_with fail
    refine N.out.mono ?_
    rintro e w' ⟨rfl, rfl⟩
    clear N
    go_wp2_with fail
    refine F.out.mono ?_
    rintro e w1 ⟨r, rfl, hr, x1⟩
    have X1 := hid x1
    clear F
    rcases hr with ⟨rfl, hr⟩ | ⟨k, j, rfl, hk, hj, ej⟩
    · have HR := hid hr
      have L := hid (len_any b t v l w1 (HV.out.ext x1) HW.out.1.2.2.2)
      have l2 := HW.out.1.2.2.2
      clear x1 hr
      by_cases hl : 1024 ≤ l.length
      · have e2 : R = (l, 15) := by rw [ER.out]; unfold callv; rw [if_neg (by omega), if_pos rfl, if_neg (by rw [has_not HR.out]; simp), if_pos hl]
        subst e2
        have l3 : (l.length : Int) = 1024 := by omega
        rw [l3] at L
        clear ER l3 hl l2
        go_wp2_with fail
        refine L.out.mono ?_
        rintro e w' ⟨rfl, rfl⟩
        clear L
        go_wp2_with fail
        go_ret
        exact ⟨rfl, HW.out.ext X1.out, Kept.of_ext X1.out⟩
      · have e2 : R = (ins (id, tick) l, 0) := by rw [ER.out]; unfold callv; rw [if_neg (by omega), if_pos rfl, if_neg (by rw [has_not HR.out]; simp), if_neg hl]
        subst e2
        have l3 : ¬ ((l.length : Int) = 1024) := by omega
        have P := hid (put_any K b t l id tick w1 (HW.out.ext X1.out) HR.out ht (by omega))
        generalize (l.length : Int) = N at *
        clear ER hl l2
        go_wp2_with fail
        refine L.out.mono ?_
        rintro e w' ⟨rfl, rfl⟩
        clear L
        go_wp2_with fail
        refine P.out.mono ?_
        rintro e w3 ⟨rfl, u3, k3⟩
        have U3 := hid u3
        have K3 := hid k3
        clear P u3 k3
        go_wp2_with fail
        go_ret
        exact ⟨rfl, U3.out, (Kept.of_ext X1.out).trans K3.out⟩
    · have e2 : R = (l, 13) := by
        have hm := (mem_sp.1 (getD_mem hj)).1
        rw [ER.out]; unfold callv; rw [if_neg (by omega), if_pos rfl, if_pos (has_of hm ej)]
      subst e2
      clear ER hj ej x1
      go_wp2_with fail
      go_ret
      exact ⟨rfl, HW.out.ext X1.out, Kept.of_ext X1.out⟩
  · have e1 : decide (0 ≤ tick ∧ tick ≤ 2199023255552) = false := by simp only [decide_eq_false_iff_not]; exact ht
    rw [e1] at N
    have e2 : R = (l, 11) := by rw [ER.out]; unfold callv; rw [if_pos ⟨by decide, by omega⟩]
    subst e2
    clear e1 ER ht
    go_enter Try.func16, Try.ntmps16
    go_wp2_with fail
    refine N.out.mono ?_
    rintro e w' ⟨rfl, rfl⟩
    clear N
    go_wp2_with fail
    go_ret
    exact ⟨rfl, HW.out, Kept.refl _ _⟩
end Go.Proofs.Ythokjkkhkcdceaa
