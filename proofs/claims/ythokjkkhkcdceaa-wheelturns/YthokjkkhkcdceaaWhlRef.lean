/-
  Walks of the reference: Find, Put, Without, Call.
-/
import Derived.Test.YthokjkkhkcdceaaWhlOrd
namespace Go.Proofs.Ythokjkkhkcdceaa
set_option linter.unusedVariables false
set_option maxRecDepth 100000
open Go.RowKit Go.Lib

theorem RowK.view {K : Nat → Prop} {w : World} {v : Value} {l : Sts} (h : RowK K w v 2 (gcells l)) :
    ∃ ao c, v = .slice ao l.length c ∧ l.length ≤ c ∧ c ≤ maxLen ∧ ∀ k, k < l.length → ∃ g o, ao = some ⟨g, o, none⟩ ∧ w.cell? ⟨g, o + k * 2, none⟩ = some (.int .i64 (l.getD k (0, 0)).1) ∧ w.cell? ⟨g, o + k * 2 + 1, none⟩ = some (.int .i64 (l.getD k (0, 0)).2) := by
  obtain ⟨ao, n, c, e, q1, q2, q3, q4⟩ := h
  rw [gcells_length] at q1
  obtain rfl : l.length = n := by omega
  refine ⟨ao, c, e, q2, q3, fun k hk => ?_⟩
  obtain ⟨g, o, ea, _, hc⟩ := q4 (by omega)
  have := gcells_at l k hk
  exact ⟨g, o, ea, hc _ _ this.1, by rw [Nat.add_assoc]; exact hc _ _ this.2⟩
theorem drop_at {l : Sts} {k : Nat} (h : k < l.length) : l.drop k = ((l.getD k (0, 0)).1, (l.getD k (0, 0)).2) :: l.drop (k + 1) := by
  rw [List.drop_eq_getElem_cons h, List.getD_eq_getElem?_getD, List.getElem?_eq_getElem h]
  rfl
theorem take_at {l : Sts} {k : Nat} (h : k < l.length) : l.take (k + 1) = l.take k ++ [((l.getD k (0, 0)).1, (l.getD k (0, 0)).2)] := by
  rw [List.take_add_one, List.getElem?_eq_getElem h, List.getD_eq_getElem?_getD, List.getElem?_eq_getElem h]
  rfl

set_option maxHeartbeats 400000 in
theorem refFind_any (K : Nat → Prop) (lv : Value) (l : Sts) (id : Int) (w : World) (hl : RowK K w lv 2 (gcells l)) :
    Calls Try.prog 12 #[lv, .int .i64 id] w fun e w' => w' = w ∧ ∃ r : Int, e = .returned (.int .i64 r) ∧ ((r = -1 ∧ ∀ p ∈ l, p.1 ≠ id) ∨ ∃ k : Nat, r = k ∧ k < l.length ∧ (l.getD k (0, 0)).1 = id) := by
  obtain ⟨ao, c, rfl, k1, k2, vw⟩ := hl.view
  have VW := hid vw
  clear vw hl
  unfold maxLen at k2
  obtain ⟨n, en⟩ : ∃ n, n = l.length := ⟨_, rfl⟩
  rw [← en] at k1 VW
  rw [← en]
  have EN := hid en
  clear en
  go_enter Try.func12, Try.ntmps12
  go_wp2
  go_loopw [5] (fun i wr => wr = w ∧ ∃ k : Nat, k ≤ n ∧ i = .int .i64 (k : Int) ∧ Hid (∀ j, j < k → (l.getD j (0, 0)).1 ≠ id)) (fun i _ => (n - intOf i).toNat)
  case atStart => exact ⟨rfl, 0, by omega, rfl, fun j hj => by omega⟩
  case round =>
    obtain ⟨rfl, k, hk, rfl, A⟩ := hrel
    by_cases h : k < n
    · obtain ⟨g, o, rfl, x1, x2⟩ := VW.out k h
      have AA : Hid ((l.getD k (0, 0)).1 ≠ id → ∀ j, j < k + 1 → (l.getD j (0, 0)).1 ≠ id) := fun h2 j hj => by
        rcases Nat.lt_or_eq_of_le (show j ≤ k by omega) with q | q
        · exact A.out j q
        · rw [q]; exact h2
      have BB : Hid ((l.getD k (0, 0)).1 = id → ∃ k' : Nat, (k : Int) = k' ∧ k' < n ∧ (l.getD k' (0, 0)).1 = id) := fun h2 => ⟨k, rfl, h, h2⟩
      have i1 : (k : Int) < (n : Int) := by omega
      have i2 : (0 : Int) ≤ (k : Int) := by omega
      clear x2
      generalize (l.getD k (0, 0)).1 = a at *
      by_cases h2 : a = id
      · have BB2 := hid (BB.out h2)
        subst h2
        go_wp2_with fail
        go_ret
        exact ⟨rfl, _, rfl, .inr BB2.out⟩
      · have AA2 := hid (AA.out h2)
        go_wp2_with fail
        go_roundw
        case rel => exact ⟨trivial, k + 1, by omega, by go_num, AA2⟩
        case measure => simp [intOf]; omega
    · obtain rfl : k = n := by omega
      have N : Hid (∀ p ∈ l, p.1 ≠ id) := fun p hp => by
        obtain ⟨j, hj, e⟩ := List.mem_iff_getElem.1 hp
        have := A.out j (by rw [EN.out]; exact hj)
        rw [List.getD_eq_getElem?_getD, List.getElem?_eq_getElem hj] at this
        rw [← e]; exact this
      go_wp2_with fail
      go_ret
      exact ⟨rfl, _, rfl, .inl ⟨rfl, N.out⟩⟩

set_option maxHeartbeats 400000 in
theorem refWithout_any (K : Nat → Prop) (lv : Value) (l : Sts) (at_ : Nat) (w : World) (hl : RowK K w lv 2 (gcells l)) (ha : at_ < l.length) (hb : l.length ≤ 1024) :
    Calls Try.prog 32 #[lv, .int .i64 (at_ : Int)] w fun e w' => ∃ v, e = .returned v ∧ NewG w w' v (l.take at_ ++ l.drop (at_ + 1)) := by
  obtain ⟨ao, c, rfl, k1, k2, vw⟩ := hl.view
  have VW := hid vw
  clear vw hl
  unfold maxLen at k2
  have HT := hid (fun k (h : k < l.length) => take_at (l := l) h)
  have HD := hid (fun k (h : k < l.length) => drop_at (l := l) h)
  have HZ : Hid (l.drop l.length = []) := by show _ = _; simp
  obtain ⟨n, en⟩ : ∃ n, n = l.length := ⟨_, rfl⟩
  rw [← en] at k1 VW ha hb HT HD HZ
  rw [← en]
  have EN := hid en
  clear en
  go_enter Try.func32, Try.ntmps32
  go_wp2
  go_loopw [5, 6] (fun s i wr => ∃ (k : Nat) (x : Sts), k ≤ n ∧ i = .int .i64 (k : Int) ∧ x.length ≤ k ∧ Hid (NewG w wr s x) ∧ Hid ((k ≤ at_ → x = l.take k) ∧ (at_ < k → x ++ l.drop k = l.take at_ ++ l.drop (at_ + 1)))) (fun _ i _ => (n - intOf i).toNat)
  case atStart => exact ⟨0, [], by omega, rfl, by simp, NewG.nil w, fun _ => rfl, fun h => by omega⟩
  case round =>
    obtain ⟨k, x, hk, rfl, hx, N, A⟩ := hrel
    obtain ⟨a0, m0, c0, e0⟩ := owns_slice N.out.1
    subst e0
    by_cases h : k < n
    · obtain ⟨g, o, rfl, x1, x2⟩ := VW.out k h
      have y1 := N.out.2.2.cell x1
      have y2 := N.out.2.2.cell x2
      have i1 : (k : Int) < (n : Int) := by omega
      have i2 : (0 : Int) ≤ (k : Int) := by omega
      by_cases h2 : k = at_
      · subst h2
        have A2 : Hid ((k + 1 ≤ k → x = l.take (k + 1)) ∧ (k < k + 1 → x ++ l.drop (k + 1) = l.take k ++ l.drop (k + 1))) := ⟨fun h => by omega, fun _ => by rw [A.out.1 (Nat.le_refl _)]⟩
        clear x1 x2 y1 y2
        go_wp2_with fail
        go_roundw
        case rel => exact ⟨k + 1, x, by omega, by go_num, by omega, N, A2⟩
        case measure => simp [intOf]; omega
      · obtain ⟨v', w', r, n2⟩ := N.out.step (l.getD k (0, 0)).1 (l.getD k (0, 0)).2 (by omega)
        have A2 : Hid ((k + 1 ≤ at_ → x ++ [((l.getD k (0, 0)).1, (l.getD k (0, 0)).2)] = l.take (k + 1)) ∧ (at_ < k + 1 → (x ++ [((l.getD k (0, 0)).1, (l.getD k (0, 0)).2)]) ++ l.drop (k + 1) = l.take at_ ++ l.drop (at_ + 1))) := by
          refine ⟨fun h3 => ?_, fun h3 => ?_⟩
          · rw [HT.out k h, A.out.1 (by omega)]
          · rw [← A.out.2 (by omega), HD.out k h]; simp
        have hx2 : (x ++ [((l.getD k (0, 0)).1, (l.getD k (0, 0)).2)]).length ≤ k + 1 := by simp; omega
        have R := hid r
        have N2 := hid n2
        obtain ⟨a2, m2, c2, e2⟩ := owns_slice n2.1
        subst e2
        have h3 : ¬ ((k : Int) = (at_ : Int)) := by omega
        clear x1 x2 r n2
        generalize (l.getD k (0, 0)).1 = pi at *
        generalize (l.getD k (0, 0)).2 = tk at *
        go_wp2_with (at_builtin; refine wpList_append_run _ rfl (.tmp 16) (.tmp 21) 26 26 rfl _ _ rfl rfl _ _ R.out ?_)
        go_roundw
        case rel => exact ⟨k + 1, _, by omega, by go_num, hx2, N2, A2⟩
        case measure => simp [intOf]; omega
    · obtain rfl : k = n := by omega
      have e3 : Hid (NewG w wr (.slice a0 m0 c0) (l.take at_ ++ l.drop (at_ + 1))) := by
        have := A.out.2 ha
        rw [HZ.out, List.append_nil] at this
        rw [← this]; exact N.out
      go_wp2_with fail
      go_ret
      exact ⟨_, rfl, e3.out⟩

set_option maxHeartbeats 1000000 in
theorem refPut_any (K : Nat → Prop) (lv : Value) (l : Sts) (id tick : Int) (w : World) (hl : RowK K w lv 2 (gcells l)) (hb : l.length ≤ 1024) :
    Calls Try.prog 31 #[lv, .int .i64 id, .int .i64 tick] w fun e w' => ∃ v, e = .returned v ∧ NewG w w' v (ins (id, tick) l) := by
  obtain ⟨ao, c, rfl, k1, k2, vw⟩ := hl.view
  have VW := hid vw
  clear vw hl
  unfold maxLen at k2
  have HT := hid (fun k (h : k < l.length) => take_at (l := l) h)
  have HD := hid (fun k (h : k < l.length) => drop_at (l := l) h)
  have HZ : Hid (l.drop l.length = [] ∧ l.take l.length = l) := by constructor <;> simp
  obtain ⟨I, eI⟩ : ∃ I, I = ins (id, tick) l := ⟨_, rfl⟩
  have EI := hid eI
  rw [← eI]
  clear eI
  obtain ⟨n, en⟩ : ∃ n, n = l.length := ⟨_, rfl⟩
  rw [← en] at k1 VW hb HT HD HZ
  rw [← en]
  clear en
  go_enter Try.func31, Try.ntmps31
  go_wp2
  go_loopw [7, 8, 9] (fun s dn i wr => ∃ (k : Nat) (x : Sts), k ≤ n ∧ i = .int .i64 (k : Int) ∧ x.length ≤ k + 1 ∧ Hid (NewG w wr s x) ∧ ((dn = .bool false ∧ Hid (x = l.take k ∧ I = l.take k ++ ins (id, tick) (l.drop k))) ∨ (dn = .bool true ∧ Hid (I = x ++ l.drop k)))) (fun _ _ i _ => (n - intOf i).toNat)
  case atStart => exact ⟨0, [], by omega, rfl, by simp, NewG.nil w, .inl ⟨rfl, rfl, by rw [EI.out]; rfl⟩⟩
  case round =>
    obtain ⟨k, x, hk, rfl, hx, N, A⟩ := hrel
    obtain ⟨a0, m0, c0, e0⟩ := owns_slice N.out.1
    subst e0
    by_cases h : k < n
    · obtain ⟨g, o, rfl, x1, x2⟩ := VW.out k h
      have y1 := N.out.2.2.cell x1
      have y2 := N.out.2.2.cell x2
      have i1 : (k : Int) < (n : Int) := by omega
      have i2 : (0 : Int) ≤ (k : Int) := by omega
      have ht := HT.out k h
      have hd := HD.out k h
      generalize (l.getD k (0, 0)).1 = pi at *
      generalize (l.getD k (0, 0)).2 = tk at *
      have HT2 := hid ht
      have HD2 := hid hd
      have XA := hid x1
      have XB := hid x2
      clear ht hd x1 x2
      rcases A with ⟨rfl, A⟩ | ⟨rfl, A⟩
      · have hx3 : x.length ≤ k := by rw [A.out.1, List.length_take]; omega
        by_cases hlt : blt (id, tick) (pi, tk)
        · obtain ⟨v1, w1, r1, n1⟩ := N.out.step id tick (by omega)
          obtain ⟨v2, w2, r2, n2⟩ := n1.step pi tk (by simp; omega)
          have A2 : Hid (I = (x ++ [(id, tick)] ++ [(pi, tk)]) ++ l.drop (k + 1)) := by
            rw [A.out.2, A.out.1, HD2.out, ins_cons, if_pos hlt]
            show _ = _
            simp
          have hx2 : (x ++ [(id, tick)] ++ [(pi, tk)]).length ≤ k + 1 + 1 := by simp; omega
          have u1 := n1.2.2.cell XA.out
          have u2 := n1.2.2.cell XB.out
          have R1 := hid r1
          have R2 := hid r2
          have N2 := hid n2
          obtain ⟨a1, m1, c1, e1⟩ := owns_slice n1.1
          subst e1
          obtain ⟨a2, m2, c2, e2⟩ := owns_slice n2.1
          subst e2
          clear r1 r2 n1 n2
          by_cases c1 : tick < tk
          · have c1' : decide (tick < tk) = true := by simp [c1]
            go_wp2_with (at_builtin; first | refine wpList_append_run _ rfl (.tmp 45) (.tmp 49) 26 26 rfl _ _ rfl rfl _ _ R1.out ?_ | refine wpList_append_run _ rfl (.tmp 51) (.tmp 56) 26 26 rfl _ _ rfl rfl _ _ R2.out ?_)
            go_roundw
            case rel => exact ⟨k + 1, _, by omega, by go_num, hx2, N2, .inr ⟨rfl, A2⟩⟩
            case measure => simp [intOf]; omega
          · have q : tk = tick ∧ id < pi := by unfold blt at hlt; simp only at hlt; omega
            obtain ⟨rfl, c2⟩ := q
            clear hlt
            go_wp2_with (at_builtin; first | refine wpList_append_run _ rfl (.tmp 45) (.tmp 49) 26 26 rfl _ _ rfl rfl _ _ R1.out ?_ | refine wpList_append_run _ rfl (.tmp 51) (.tmp 56) 26 26 rfl _ _ rfl rfl _ _ R2.out ?_)
            go_roundw
            case rel => exact ⟨k + 1, _, by omega, by go_num, hx2, N2, .inr ⟨rfl, A2⟩⟩
            case measure => simp [intOf]; omega
        · obtain ⟨v2, w2, r2, n2⟩ := N.out.step pi tk (by omega)
          have A2 : Hid (x ++ [(pi, tk)] = l.take (k + 1) ∧ I = l.take (k + 1) ++ ins (id, tick) (l.drop (k + 1))) := by
            refine ⟨by rw [HT2.out, A.out.1], ?_⟩
            rw [A.out.2, HD2.out, ins_cons, if_neg hlt, HT2.out]
            simp
          have hx2 : (x ++ [(pi, tk)]).length ≤ k + 1 + 1 := by simp; omega
          have R2 := hid r2
          have N2 := hid n2
          obtain ⟨a2, m2, c2, e2⟩ := owns_slice n2.1
          subst e2
          clear r2 n2
          have c1 : ¬ tick < tk := by unfold blt at hlt; simp only at hlt; omega
          by_cases c3 : tk = tick
          · subst c3
            have c2 : ¬ id < pi := fun q => hlt (.inr ⟨rfl, q⟩)
            clear hlt
            go_wp2_with (at_builtin; refine wpList_append_run _ rfl (.tmp 51) (.tmp 56) 26 26 rfl _ _ rfl rfl _ _ R2.out ?_)
            go_roundw
            case rel => exact ⟨k + 1, _, by omega, by go_num, hx2, N2, .inl ⟨rfl, A2⟩⟩
            case measure => simp [intOf]; omega
          · clear hlt
            go_wp2_with (at_builtin; refine wpList_append_run _ rfl (.tmp 51) (.tmp 56) 26 26 rfl _ _ rfl rfl _ _ R2.out ?_)
            go_roundw
            case rel => exact ⟨k + 1, _, by omega, by go_num, hx2, N2, .inl ⟨rfl, A2⟩⟩
            case measure => simp [intOf]; omega
      · obtain ⟨v2, w2, r2, n2⟩ := N.out.step pi tk (by omega)
        have A2 : Hid (I = (x ++ [(pi, tk)]) ++ l.drop (k + 1)) := by
          rw [A.out, HD2.out]
          show _ = _
          simp
        have hx2 : (x ++ [(pi, tk)]).length ≤ k + 1 + 1 := by simp; omega
        have R2 := hid r2
        have N2 := hid n2
        obtain ⟨a2, m2, c2, e2⟩ := owns_slice n2.1
        subst e2
        clear r2 n2
        go_wp2_with (at_builtin; refine wpList_append_run _ rfl (.tmp 51) (.tmp 56) 26 26 rfl _ _ rfl rfl _ _ R2.out ?_)
        go_roundw
        case rel => exact ⟨k + 1, _, by omega, by go_num, hx2, N2, .inr ⟨rfl, A2⟩⟩
        case measure => simp [intOf]; omega
    · obtain rfl : k = n := by omega
      rcases A with ⟨rfl, A⟩ | ⟨rfl, A⟩
      · obtain ⟨v2, w2, r2, n2⟩ := N.out.step id tick (by omega)
        have e3 : x ++ [(id, tick)] = I := by rw [A.out.2, HZ.out.1, A.out.1]; rfl
        rw [e3] at n2
        have R2 := hid r2
        have N2 := hid n2
        obtain ⟨a2, m2, c2, e2⟩ := owns_slice n2.1
        subst e2
        clear r2 n2 e3
        go_wp2_with (at_builtin; refine wpList_append_run _ rfl (.tmp 60) (.tmp 64) 26 26 rfl _ _ rfl rfl _ _ R2.out ?_)
        go_ret
        exact ⟨_, rfl, N2.out⟩
      · have e3 : Hid (NewG w wr (.slice a0 m0 c0) I) := by
          rw [A.out, HZ.out.1, List.append_nil]; exact N.out
        go_wp2_with fail
        go_ret
        exact ⟨_, rfl, e3.out⟩

/-- where what Call tells may lie -/
def Grew (K : Nat → Prop) (w w' : World) : Nat → Prop := fun i => K i ∨ (w.heap.size ≤ i ∧ i < w'.heap.size)
theorem NewG.grew {K : Nat → Prop} {w w' : World} {v : Value} {l : Sts} (h : NewG w w' v l) : RowK (Grew K w w') w' v 2 (gcells l) := h.row.mono (by decide) (fun i _ hi => .inr hi)

set_option maxHeartbeats 1000000 in
theorem refCall_any (K : Nat → Prop) (lv : Value) (l : Sts) (kind id tick : Int) (w : World) (hl : RowK K w lv 2 (gcells l)) (hw : Wl l) (hk : kind = 1 ∨ kind = 2 ∨ kind = 3) :
    Calls Try.prog 21 #[lv, .int .i64 kind, .int .i64 id, .int .i64 tick] w fun e w' => ∃ v, e = .returned (.tuple #[v, .int .i64 (callv l kind id tick).2]) ∧ RowK (Grew K w w') w' v 2 (gcells (callv l kind id tick).1) ∧ Ext w w' := by
  have F := hid (refFind_any K lv l id w hl)
  have HL := hid hl
  have HW := hid hw
  have HS : Hid (RowK (Grew K w w) w lv 2 (gcells l)) := hl.mono (by decide) (fun i _ hi => .inl hi)
  obtain ⟨ao, c, rfl, k1, k2, vw⟩ := hl.view
  have LL := hw.2.2.2
  clear hl hw vw
  unfold maxLen at k2
  obtain ⟨R, eR⟩ : ∃ R, R = callv l kind id tick := ⟨_, rfl⟩
  have ER := hid eR
  rw [← eR]
  clear eR
  obtain ⟨n, en⟩ : ∃ n, n = l.length := ⟨_, rfl⟩
  rw [← en] at F k1 HL HS LL
  rw [← en]
  have EN := hid en
  clear en
  go_enter Try.func21, Try.ntmps21
  go_wp2_with fail
  refine F.out.mono ?_
  rintro e w1 ⟨rfl, r, rfl, hr⟩
  clear F
  have HR := hid hr
  clear hr
  by_cases ht : kind ≠ 3 ∧ (tick < 0 ∨ 2199023255552 < tick)
  · have e2 : R = (l, 11) := by rw [ER.out]; unfold callv; rw [if_pos ht]
    subst e2
    clear ER
    obtain ⟨h3, h4⟩ := ht
    by_cases h5 : tick < 0
    · go_wp2_with fail
      go_ret2
      exact ⟨_, rfl, HS.out, Ext.refl _⟩
    · have h6 : 2199023255552 < tick := by omega
      clear h4
      go_wp2_with fail
      go_ret2
      exact ⟨_, rfl, HS.out, Ext.refl _⟩
  · have hmem : Hid (∀ k : Nat, k < n → (l.getD k (0, 0)).1 = id → has l id = true ∧ wo id l = l.take k ++ l.drop (k + 1)) := fun k hk2 e => by
      rw [EN.out] at hk2
      refine ⟨has_of (p := l.getD k (0, 0)) ?_ e, wo_at l k HW.out.2.1 hk2 e⟩
      rw [List.getD_eq_getElem?_getD, List.getElem?_eq_getElem hk2]
      exact List.getElem_mem hk2
    by_cases h1 : kind = 1
    · subst h1
      have t1 : ¬ tick < 0 := by omega
      have t2 : ¬ 2199023255552 < tick := by omega
      rcases HR.out with ⟨rfl, hn⟩ | ⟨k, rfl, hk2, e⟩
      · have hh := has_not hn
        by_cases h2 : 1024 ≤ l.length
        · have e2 : R = (l, 15) := by rw [ER.out]; unfold callv; rw [if_neg ht, if_pos rfl, if_neg (by rw [hh]; simp), if_pos h2]
          subst e2
          have h3 : (1024 : Int) ≤ (n : Int) := by rw [EN.out]; omega
          clear ER ht hn hh h2
          go_wp2_with fail
          go_ret2
          exact ⟨_, rfl, HS.out, Ext.refl _⟩
        · have e2 : R = (ins (id, tick) l, 0) := by rw [ER.out]; unfold callv; rw [if_neg ht, if_pos rfl, if_neg (by rw [hh]; simp), if_neg h2]
          subst e2
          have h3 : ¬ (1024 : Int) ≤ (n : Int) := by rw [EN.out]; omega
          have P := hid (refPut_any K _ l id tick w1 HL.out (by rw [← EN.out]; exact LL))
          clear ER ht hn hh h2
          go_wp2_with fail
          refine P.out.mono ?_
          rintro e w2 ⟨v2, rfl, n2⟩
          have N2 := hid n2
          obtain ⟨a2, m2, c2, e2⟩ := owns_slice n2.1
          subst e2
          clear P n2
          go_wp2_with fail
          go_ret2
          exact ⟨_, rfl, N2.out.grew, N2.out.2.2⟩
      · obtain ⟨hh, _⟩ := hmem.out k hk2 e
        have e2 : R = (l, 13) := by rw [ER.out]; unfold callv; rw [if_neg ht, if_pos rfl, if_pos hh]
        subst e2
        have k0 : (0 : Int) ≤ (k : Int) := by omega
        clear ER ht hh e
        go_wp2_with fail
        go_ret2
        exact ⟨_, rfl, HS.out, Ext.refl _⟩
    · by_cases h3 : kind = 3
      · subst h3
        rcases HR.out with ⟨rfl, hn⟩ | ⟨k, rfl, hk2, e⟩
        · have hh := has_not hn
          have e2 : R = (l, 14) := by rw [ER.out]; unfold callv; rw [if_neg ht, if_neg h1, if_pos hh]
          subst e2
          clear ER ht hn hh
          go_wp2_with fail
          go_ret2
          exact ⟨_, rfl, HS.out, Ext.refl _⟩
        · obtain ⟨hh, hwo⟩ := hmem.out k hk2 e
          have e2 : R = (wo id l, 0) := by rw [ER.out]; unfold callv; rw [if_neg ht, if_neg h1, if_neg (by rw [hh]; simp), if_pos rfl]
          subst e2
          have P := refWithout_any K _ l k w1 HL.out (by rw [← EN.out]; exact hk2) (by rw [← EN.out]; exact LL)
          rw [← hwo] at P
          have PP := hid P
          have k0 : ¬ (k : Int) < 0 := by omega
          clear ER ht hh e hwo P
          go_wp2_with fail
          refine PP.out.mono ?_
          rintro e w2 ⟨v2, rfl, n2⟩
          have N2 := hid n2
          obtain ⟨a2, m2, c2, e2⟩ := owns_slice n2.1
          subst e2
          clear PP n2
          go_wp2_with fail
          go_ret2
          exact ⟨_, rfl, N2.out.grew, N2.out.2.2⟩
      · obtain rfl : kind = 2 := by omega
        have t1 : ¬ tick < 0 := by omega
        have t2 : ¬ 2199023255552 < tick := by omega
        rcases HR.out with ⟨rfl, hn⟩ | ⟨k, rfl, hk2, e⟩
        · have hh := has_not hn
          have e2 : R = (l, 14) := by rw [ER.out]; unfold callv; rw [if_neg ht, if_neg h1, if_pos hh]
          subst e2
          clear ER ht hn hh
          go_wp2_with fail
          go_ret2
          exact ⟨_, rfl, HS.out, Ext.refl _⟩
        · obtain ⟨hh, hwo⟩ := hmem.out k hk2 e
          have e2 : R = (ins (id, tick) (wo id l), 0) := by rw [ER.out]; unfold callv; rw [if_neg ht, if_neg h1, if_neg (by rw [hh]; simp), if_neg h3]
          subst e2
          have P := refWithout_any K _ l k w1 HL.out (by rw [← EN.out]; exact hk2) (by rw [← EN.out]; exact LL)
          rw [← hwo] at P
          have PP := hid P
          have k0 : ¬ (k : Int) < 0 := by omega
          have WLE : Hid ((wo id l).length ≤ 1024) := Nat.le_trans (wo_length_le id l) (by rw [← EN.out]; exact LL)
          clear ER ht hh e hwo P
          go_wp2_with fail
          refine PP.out.mono ?_
          rintro e w2 ⟨v2, rfl, n2⟩
          have Q := hid (refPut_any _ _ (wo id l) id tick w2 n2.row WLE.out)
          have X2 := hid n2.2.2
          obtain ⟨a2, m2, c2, e2⟩ := owns_slice n2.1
          subst e2
          clear PP n2
          go_wp2_with fail
          refine Q.out.mono ?_
          rintro e w3 ⟨v3, rfl, n3⟩
          have N3 : Hid (NewG w1 w3 v3 (ins (id, tick) (wo id l))) := ⟨n3.1, fun q hq => Nat.le_trans X2.out.size (n3.2.1 q hq), X2.out.trans n3.2.2⟩
          obtain ⟨a3, m3, c3, e3⟩ := owns_slice n3.1
          subst e3
          clear Q n3
          go_wp2_with fail
          go_ret2
          exact ⟨_, rfl, N3.out.grew, N3.out.2.2⟩
end Go.Proofs.Ythokjkkhkcdceaa
