/-
  The walk of DrawsCopies: a copy goes on as the first one would, by itself; the list that it was made of is not kept.
-/
import Derived.Test.YtpdgicnapidkeaaDrwTwo
namespace Go.Proofs.Ytpdgicnapidkeaa.drawsCopies
set_option linter.unusedVariables false
set_option maxRecDepth 100000
open Go.RowKit Go.Lib

set_option maxHeartbeats 8000000 in
theorem walk (v0 : Value) (l : List Int) (n m : Int) (w : World) (hl : IsU32s w v0 l) :
    Calls Try.prog 6 #[v0, .int .i64 n, .int .i64 m] w fun e w' => e = .returned (.bool true) ∧ Ext w w' := by
  have HL := hid hl
  obtain ⟨⟨ao, p, c0, rfl, e1, e2, e3, _⟩, _, _⟩ := hl
  have em : p = l.length := by rw [ucells_length] at e1; omega
  subst em
  unfold maxLen at e3
  clear e1
  by_cases t1 : 60 < l.length
  · have t1' : (60 : Int) < (l.length : Int) := by omega
    go_enter Try.func6, Try.ntmps6
    go_wp2_with fail
    refine (awake_any _).mono ?_
    rintro e w' ⟨rfl, X⟩
    go_wp2_with fail
    go_ret
    exact ⟨rfl, X⟩
  have t1' : decide ((60 : Int) < (l.length : Int)) = false := by simp; omega
  have LB := hid (Nat.le_of_not_lt t1)
  clear t1
  by_cases t2 : n < 0
  · have z := t2
    go_enter Try.func6, Try.ntmps6
    go_wp2_with fail
    refine (awake_any _).mono ?_
    rintro e w' ⟨rfl, X⟩
    go_wp2_with fail
    go_ret
    exact ⟨rfl, X⟩
  by_cases t3 : 100 < n
  · have z := t3
    go_enter Try.func6, Try.ntmps6
    go_wp2_with fail
    refine (awake_any _).mono ?_
    rintro e w' ⟨rfl, X⟩
    go_wp2_with fail
    go_ret
    exact ⟨rfl, X⟩
  by_cases t4 : m < 0
  · have z := t4
    go_enter Try.func6, Try.ntmps6
    go_wp2_with fail
    refine (awake_any _).mono ?_
    rintro e w' ⟨rfl, X⟩
    go_wp2_with fail
    go_ret
    exact ⟨rfl, X⟩
  by_cases t5 : 100 < m
  · have z := t5
    go_enter Try.func6, Try.ntmps6
    go_wp2_with fail
    refine (awake_any _).mono ?_
    rintro e w' ⟨rfl, X⟩
    go_wp2_with fail
    go_ret
    exact ⟨rfl, X⟩
  obtain ⟨N, rfl⟩ : ∃ N : Nat, n = (N : Int) := ⟨n.toNat, by omega⟩
  obtain ⟨M, rfl⟩ : ∃ M : Nat, m = (M : Int) := ⟨m.toNat, by omega⟩
  have n0 : (0 : Int) ≤ (N : Int) := by omega
  have n1 : (N : Int) ≤ 100 := by omega
  have m0 : (0 : Int) ≤ (M : Int) := by omega
  have m1 : (M : Int) ≤ 100 := by omega
  clear t2 t3 t4 t5
  have N0 := NewU.made w
  obtain ⟨vo, w1, r1, N1⟩ := append_u32s N0 (HL.out.1.kept (.of_ext N0.2)) HL.out.2.1 (by have := LB.out; simp; omega)
  rw [List.nil_append] at N1
  have R1 := hid r1
  have U1 := hid N1
  have OB : Hid (∀ g, vo.ownBlock = some g → w.heap.size ≤ g ∧ g < w1.heap.size) := fun g hg => N1.1.lt g hg
  have C1 := hid (new_any _ w1 vo l N1.row N1.plain (by have := LB.out; omega) HL.out.2.2)
  have X1 := hid N1.2
  obtain ⟨oa, on, oc, eo, h1, h2, h3, _⟩ := N1.row
  have en : on = l.length := by rw [ucells_length] at h1; omega
  subst en
  unfold maxLen at h3
  subst eo
  clear N0 r1 N1 h1
  go_enter Try.func6, Try.ntmps6
  go_wp2_with (at_builtin; refine wpList_append_run rfl (.tmp 34) (.tmp 35) 22 rfl _ _ _ _ rfl rfl R1.out ?_)
  refine C1.out.mono ?_
  rintro e w2 ⟨b, rfl, D, X⟩
  have B1 : Hid (w1.heap.size ≤ b) := D.its
  have D2 := hid D
  have U2 := hid (U1.out.ext X)
  clear D X C1 R1 U1
  go_wp2_with fail
  go_loopw [42] (fun i wr => ∃ k : Nat, k ≤ N ∧ i = .int .i64 (k : Int) ∧ Drw (fun i => w1.heap.size ≤ i) wr b l k ∧ NewU w wr (.slice oa l.length oc) l) (fun i _ => (N - intOf i).toNat)
  case atStart => exact ⟨0, by omega, rfl, D2.out, U2.out⟩
  case round =>
    obtain ⟨k, hk, rfl, D, U⟩ := hrel
    obtain ⟨w3, rfl⟩ : ∃ w3, w3 = wr := ⟨_, rfl⟩
    clear D2 U2
    by_cases q : k < N
    · have CN := hid (next_any _ b l k w3 D (by omega))
      have D4 := hid (D.tells (k + 1))
      have U4 := hid (U.tells (Nat.le_trans X1.out.size B1.out) (fun h => by have := (OB.out b h).2; have := B1.out; omega) (k + 1))
      have i1 : (k : Int) < (N : Int) := by omega
      clear D U
      go_wp2_with fail
      refine CN.out.mono ?_
      rintro e w4 ⟨rfl, rfl⟩
      go_wp2_with fail
      go_roundw
      case rel => exact ⟨k + 1, by omega, by go_num, D4.out, U4.out⟩
      case measure => simp [intOf]; omega
    · obtain rfl : k = N := by omega
      have CC := hid (copy_any _ b l k w3 D (by omega))
      have D3 := hid D
      have U3 := hid U
      have L3 := hid D.lt
      clear D U q
      go_wp2_with fail
      refine CC.out.mono ?_
      rintro e w4 ⟨c, rfl, D, X⟩
      have B4 : Hid (w3.heap.size ≤ c) := D.its
      have DB : Hid (Drw (fun i => i ≠ c ∧ w1.heap.size ≤ i) w4 b l k) := (D3.out.mono (L := fun i => i ≠ c ∧ w1.heap.size ≤ i) (fun i hi hs => ⟨by have := B4.out; omega, hs⟩)).ext X
      have DC : Hid (Drw (fun i => i ≠ b ∧ w1.heap.size ≤ i) w4 c l k) := D.mono (fun i hi hs => ⟨by have := L3.out; omega, by have := L3.out; have := B1.out; omega⟩)
      have U4 := hid (U3.out.ext X)
      have S4 := hid X.size
      have LC := hid D.lt
      clear D X CC D3 U3
      go_wp2_with fail
      go_loopw [53] (fun i wr => ∃ (j : Nat) (xs : List Int), j ≤ l.length ∧ i = .int .i64 (j : Int) ∧ xs.length = l.length ∧ NewU w wr (.slice oa l.length oc) xs ∧ Kept (fun i => w1.heap.size ≤ i) w4 wr) (fun i _ => (l.length - intOf i).toNat)
      case atStart => exact ⟨0, l, by omega, rfl, rfl, U4.out, Kept.refl _ _⟩
      case round =>
        obtain ⟨j, xs, hj, rfl, hx, U, KP⟩ := hrel
        obtain ⟨w5, rfl⟩ : ∃ w5, w5 = wr := ⟨_, rfl⟩
        clear U4
        by_cases q : j < l.length
        · obtain ⟨g, cap, ev, _, _, og, cg, fg, put⟩ := U.put j (by omega)
          have GB := hid (OB.out g og).2
          simp only [Value.slice.injEq] at ev
          obtain ⟨rfl, _, rfl⟩ := ev
          have P5 : Hid (∀ y, NewU w (w5.setCell ⟨g, j, none⟩ (.int .u32 y)) (.slice (some ⟨g, 0, none⟩) l.length oc) (xs.set j y) ∧ Kept (fun i => w1.heap.size ≤ i) w4 (w5.setCell ⟨g, j, none⟩ (.int .u32 y))) :=
            fun y => ⟨put y, KP.setCell (p := ⟨g, j, none⟩) (fun h => by have := GB.out; have h : w1.heap.size ≤ g := h; omega) _⟩
          have HX := hid hx
          have i1 : (j : Int) < (l.length : Int) := by omega
          have i2 : (0 : Int) ≤ (j : Int) := by omega
          clear put U KP hx og
          generalize xs.getD j 0 = x at *
          go_wp2_with fail
          go_roundw
          case rel => exact ⟨j + 1, xs.set j _, by omega, by go_num, by rw [List.length_set]; exact HX.out, P5.out _⟩
          case measure => simp [intOf]; omega
        · obtain rfl : j = l.length := by omega
          have D5 := hid (DB.out.kept (KP.mono fun i hi => hi.2))
          have E5 := hid (DC.out.kept (KP.mono fun i hi => hi.2))
          have X5 := hid U.2
          have S5 := hid KP.size
          have CA := hid (refAll_any _ w5 _ l (k + M) (HL.out.1.kept (.of_ext U.2)) HL.out.2.2 (by have := LB.out; omega) (by omega))
          rw [show ((k + M : Nat) : Int) = (k : Int) + (M : Int) by omega] at CA
          clear U KP q DB DC hx
          go_wp2_with fail
          refine CA.out.mono ?_
          rintro e w6 ⟨v', rfl, NU⟩
          have T6 : Hid (Two w w6 b c v' l k k (k + M)) :=
            ⟨(D5.out.ext NU.2).mono (fun i _ hs => hs.1), (E5.out.ext NU.2).mono (fun i _ hs => hs.1), NU.row.mono (by decide) (fun i hi hs => by have := L3.out; have := LC.out; have := S4.out; have := S5.out; constructor <;> omega), X5.out.trans NU.2, Nat.le_trans X1.out.size B1.out, Nat.le_trans (Nat.le_trans X1.out.size B1.out) (Nat.le_trans (Nat.le_of_lt L3.out) B4.out)⟩
          obtain ⟨va, vn, vc, ev, h1, h5, h6, _⟩ := NU.row
          have en : vn = k + M := by rw [ucells_length, drs_length] at h1; omega
          subst en
          subst ev
          unfold maxLen at h6
          clear NU CA D5 E5 X5 S5 S4 h1 B4 L3 LC OB
          obtain ⟨N, rfl⟩ : ∃ N, N = k := ⟨_, rfl⟩
          go_wp2_with fail
          go_loopw [69] (fun i wr => ∃ k : Nat, k ≤ M ∧ i = .int .i64 (k : Int) ∧ Two w wr b c (.slice va (N + M) vc) l N (N + k) (N + M)) (fun i _ => (M - intOf i).toNat)
          case atStart => exact ⟨0, by omega, rfl, T6.out⟩
          case round =>
            obtain ⟨k, hk, rfl, T⟩ := hrel
            obtain ⟨w7, rfl⟩ : ∃ w7, w7 = wr := ⟨_, rfl⟩
            clear T6
            by_cases q : k < M
            · obtain ⟨g, o, cap, ev, gb, gc, x0⟩ := T.drew.at (N + k) (by omega)
              simp only [Value.slice.injEq] at ev
              obtain ⟨rfl, _, rfl⟩ := ev
              have x1 := hid x0
              have T1 := T.drew
              obtain ⟨W, eW⟩ : ∃ W, W = w7.drew := ⟨_, rfl⟩
              rw [← eW] at T1 x0
              have CN := hid (next_any _ c l (N + k) W T1.2.1 (by omega))
              have T2 := hid (T1.right (N + k + 1))
              have KC : Hid ((tells W c (N + k + 1)).cell? ⟨g, o + (N + k), none⟩ = some (.int .u32 (dr l (N + k)))) := (tells_kept W c (N + k + 1) (K := fun i => i ≠ c) (fun h => h rfl)).cell (a := ⟨g, o + (N + k), none⟩) gc x0
              have EW := hid eW
              have i1 : (k : Int) < (M : Int) := by omega
              have i2 : (0 : Int) ≤ (k : Int) := by omega
              have i3 : IntKind.i64.wrap ((N : Int) + (k : Int)) = (N : Int) + (k : Int) := by rw [IntKind.wrap_i64]; omega
              have i4 : ((N : Int) + (k : Int)).toNat = N + k := by omega
              have i5 : (0 : Int) ≤ (N : Int) + (k : Int) := by omega
              clear T T1 eW x0 gb gc
              go_wp2_with fail
              refine wp_region_held_drew (S := fun V => V.cell? ⟨g, o + (N + k), none⟩ = some (.int .u32 (dr l (N + k)))) (by kernel_rfl) x1.out (fun hHeld => ?_)
              rw [← EW.out] at hHeld
              rw [← EW.out]
              refine takeE (v := ?_) 0 72 rfl rfl (by kernel_rfl) (by kernel_rfl) (by kernel_rfl) (fun _ _ _ h => h) (Or.inl ⟨by rfl, fun V hV => ?_⟩) hHeld ?_
              rotate_left
              · (go_simp; try with_reducible rfl)
              simp only [Act.put, List.setIfInBounds_toArray, List.set_cons_zero, List.set_cons_succ]
              refine takeE (v := ?_) 2 74 rfl rfl (by kernel_rfl) (by kernel_rfl) (by kernel_rfl) (fun _ _ _ h => h) (Or.inl ⟨by rfl, fun V hV => ?_⟩) hHeld ?_
              rotate_left
              · (go_simp; try with_reducible rfl)
              simp only [Act.put, List.setIfInBounds_toArray, List.set_cons_zero, List.set_cons_succ]
              refine takeE (v := ?_) 3 75 rfl rfl (by kernel_rfl) (by kernel_rfl) (by kernel_rfl) (fun _ _ _ h => h) (Or.inl ⟨by rfl, fun V hV => ?_⟩) hHeld ?_
              rotate_left
              · (go_simp; try with_reducible rfl)
              simp only [Act.put, List.setIfInBounds_toArray, List.set_cons_zero, List.set_cons_succ]
              refine takeE (v := ?_) 4 76 rfl rfl (by kernel_rfl) (by kernel_rfl) (by kernel_rfl) (fun _ _ _ h => h) (Or.inl ⟨by rfl, fun V hV => ?_⟩) hHeld ?_
              rotate_left
              · (go_simp; try with_reducible rfl)
              simp only [Act.put, List.setIfInBounds_toArray, List.set_cons_zero, List.set_cons_succ]
              refine takeE (v := ?_) 5 77 rfl rfl (by kernel_rfl) (by kernel_rfl) (by kernel_rfl) (fun _ _ _ h => h) (Or.inl ⟨by rfl, fun V hV => ?_⟩) hHeld ?_
              rotate_left
              · (go_simp; try with_reducible rfl)
              simp only [Act.put, List.setIfInBounds_toArray, List.set_cons_zero, List.set_cons_succ]
              refine takeE (v := ?_) 6 78 rfl rfl (by kernel_rfl) (by kernel_rfl) (by kernel_rfl) (fun _ _ _ h => h) (Or.inl ⟨by rfl, fun V hV => ?_⟩) hHeld ?_
              rotate_left
              · (go_simp; try with_reducible rfl)
              simp only [Act.put, List.setIfInBounds_toArray, List.set_cons_zero, List.set_cons_succ]
              refine takeE (v := ?_) 7 79 rfl rfl (by kernel_rfl) (by kernel_rfl) (by kernel_rfl) (fun _ _ _ h => h) (Or.inl ⟨by rfl, fun V hV => ?_⟩) hHeld ?_
              rotate_left
              · (have hV2 : V.cell? ⟨g, o + (N + k), none⟩ = some (.int .u32 (dr l (N + k))) := hV; go_simp; try with_reducible rfl)
              simp only [Act.put, List.setIfInBounds_toArray, List.set_cons_zero, List.set_cons_succ]
              refine callE 1 73 rfl rfl (by kernel_rfl) (by rfl) (by go_simp; first | exact ⟨rfl, rfl⟩ | rfl) ?_
              refine CN.out.mono ?_
              rintro e w9 ⟨rfl, e9⟩
              have hHeld : w9.cell? ⟨g, o + (N + k), none⟩ = some (.int .u32 (dr l (N + k))) := by rw [e9]; exact KC.out
              refine ⟨_, rfl, hHeld, ?_⟩
              simp only [Act.put, List.setIfInBounds_toArray, List.set_cons_zero, List.set_cons_succ]
              refine takeE (v := ?_) 8 80 rfl rfl (by kernel_rfl) (by kernel_rfl) (by kernel_rfl) (fun _ _ _ h => h) (Or.inl ⟨by rfl, fun V hV => ?_⟩) hHeld ?_
              rotate_left
              · (go_simp; try with_reducible rfl)
              simp only [Act.put, List.setIfInBounds_toArray, List.set_cons_zero, List.set_cons_succ]
              refine wpAnyH_done (by kernel_rfl) ?_ _
              have T3 : Hid (Two w w9 b c (.slice (some ⟨g, o, none⟩) (N + M) vc) l N (N + (k + 1)) (N + M)) := by rw [e9]; exact T2.out
              clear T2 e9 KC CN x1 EW
              go_wp2_with fail
              go_roundw
              case rel => exact ⟨k + 1, by omega, by go_num, T3.out⟩
              case measure => simp [intOf]; omega
            · obtain rfl : k = M := by omega
              have T6 := hid T
              obtain ⟨M, rfl⟩ : ∃ M, M = k := ⟨_, rfl⟩
              clear T q
              go_wp2_with fail
              go_loopw [83] (fun i wr => ∃ k : Nat, k ≤ M ∧ i = .int .i64 (k : Int) ∧ Two w wr b c (.slice va (N + M) vc) l (N + k) (N + M) (N + M)) (fun i _ => (M - intOf i).toNat)
              case atStart => exact ⟨0, by omega, rfl, T6.out⟩
              case round =>
                obtain ⟨k, hk, rfl, T⟩ := hrel
                obtain ⟨w7, rfl⟩ : ∃ w7, w7 = wr := ⟨_, rfl⟩
                clear T6
                by_cases q : k < M
                · obtain ⟨g, o, cap, ev, gb, gc, x0⟩ := T.drew.at (N + k) (by omega)
                  simp only [Value.slice.injEq] at ev
                  obtain ⟨rfl, _, rfl⟩ := ev
                  have x1 := hid x0
                  have T1 := T.drew
                  obtain ⟨W, eW⟩ : ∃ W, W = w7.drew := ⟨_, rfl⟩
                  rw [← eW] at T1 x0
                  have CN := hid (next_any _ b l (N + k) W T1.1 (by omega))
                  have T2 := hid (T1.left (N + k + 1))
                  have KC : Hid ((tells W b (N + k + 1)).cell? ⟨g, o + (N + k), none⟩ = some (.int .u32 (dr l (N + k)))) := (tells_kept W b (N + k + 1) (K := fun i => i ≠ b) (fun h => h rfl)).cell (a := ⟨g, o + (N + k), none⟩) gb x0
                  have EW := hid eW
                  have i1 : (k : Int) < (M : Int) := by omega
                  have i2 : (0 : Int) ≤ (k : Int) := by omega
                  have i3 : IntKind.i64.wrap ((N : Int) + (k : Int)) = (N : Int) + (k : Int) := by rw [IntKind.wrap_i64]; omega
                  have i4 : ((N : Int) + (k : Int)).toNat = N + k := by omega
                  have i5 : (0 : Int) ≤ (N : Int) + (k : Int) := by omega
                  clear T T1 eW x0 gb gc
                  go_wp2_with fail
                  refine wp_region_held_drew (S := fun V => V.cell? ⟨g, o + (N + k), none⟩ = some (.int .u32 (dr l (N + k)))) (by kernel_rfl) x1.out (fun hHeld => ?_)
                  rw [← EW.out] at hHeld
                  rw [← EW.out]
                  refine takeE (v := ?_) 0 86 rfl rfl (by kernel_rfl) (by kernel_rfl) (by kernel_rfl) (fun _ _ _ h => h) (Or.inl ⟨by rfl, fun V hV => ?_⟩) hHeld ?_
                  rotate_left
                  · (go_simp; try with_reducible rfl)
                  simp only [Act.put, List.setIfInBounds_toArray, List.set_cons_zero, List.set_cons_succ]
                  refine takeE (v := ?_) 2 88 rfl rfl (by kernel_rfl) (by kernel_rfl) (by kernel_rfl) (fun _ _ _ h => h) (Or.inl ⟨by rfl, fun V hV => ?_⟩) hHeld ?_
                  rotate_left
                  · (go_simp; try with_reducible rfl)
                  simp only [Act.put, List.setIfInBounds_toArray, List.set_cons_zero, List.set_cons_succ]
                  refine takeE (v := ?_) 3 89 rfl rfl (by kernel_rfl) (by kernel_rfl) (by kernel_rfl) (fun _ _ _ h => h) (Or.inl ⟨by rfl, fun V hV => ?_⟩) hHeld ?_
                  rotate_left
                  · (go_simp; try with_reducible rfl)
                  simp only [Act.put, List.setIfInBounds_toArray, List.set_cons_zero, List.set_cons_succ]
                  refine takeE (v := ?_) 4 90 rfl rfl (by kernel_rfl) (by kernel_rfl) (by kernel_rfl) (fun _ _ _ h => h) (Or.inl ⟨by rfl, fun V hV => ?_⟩) hHeld ?_
                  rotate_left
                  · (go_simp; try with_reducible rfl)
                  simp only [Act.put, List.setIfInBounds_toArray, List.set_cons_zero, List.set_cons_succ]
                  refine takeE (v := ?_) 5 91 rfl rfl (by kernel_rfl) (by kernel_rfl) (by kernel_rfl) (fun _ _ _ h => h) (Or.inl ⟨by rfl, fun V hV => ?_⟩) hHeld ?_
                  rotate_left
                  · (go_simp; try with_reducible rfl)
                  simp only [Act.put, List.setIfInBounds_toArray, List.set_cons_zero, List.set_cons_succ]
                  refine takeE (v := ?_) 6 92 rfl rfl (by kernel_rfl) (by kernel_rfl) (by kernel_rfl) (fun _ _ _ h => h) (Or.inl ⟨by rfl, fun V hV => ?_⟩) hHeld ?_
                  rotate_left
                  · (go_simp; try with_reducible rfl)
                  simp only [Act.put, List.setIfInBounds_toArray, List.set_cons_zero, List.set_cons_succ]
                  refine takeE (v := ?_) 7 93 rfl rfl (by kernel_rfl) (by kernel_rfl) (by kernel_rfl) (fun _ _ _ h => h) (Or.inl ⟨by rfl, fun V hV => ?_⟩) hHeld ?_
                  rotate_left
                  · (have hV2 : V.cell? ⟨g, o + (N + k), none⟩ = some (.int .u32 (dr l (N + k))) := hV; go_simp; try with_reducible rfl)
                  simp only [Act.put, List.setIfInBounds_toArray, List.set_cons_zero, List.set_cons_succ]
                  refine callE 1 87 rfl rfl (by kernel_rfl) (by rfl) (by go_simp; first | exact ⟨rfl, rfl⟩ | rfl) ?_
                  refine CN.out.mono ?_
                  rintro e w9 ⟨rfl, e9⟩
                  have hHeld : w9.cell? ⟨g, o + (N + k), none⟩ = some (.int .u32 (dr l (N + k))) := by rw [e9]; exact KC.out
                  refine ⟨_, rfl, hHeld, ?_⟩
                  simp only [Act.put, List.setIfInBounds_toArray, List.set_cons_zero, List.set_cons_succ]
                  refine takeE (v := ?_) 8 94 rfl rfl (by kernel_rfl) (by kernel_rfl) (by kernel_rfl) (fun _ _ _ h => h) (Or.inl ⟨by rfl, fun V hV => ?_⟩) hHeld ?_
                  rotate_left
                  · (go_simp; try with_reducible rfl)
                  simp only [Act.put, List.setIfInBounds_toArray, List.set_cons_zero, List.set_cons_succ]
                  refine wpAnyH_done (by kernel_rfl) ?_ _
                  have T3 : Hid (Two w w9 b c (.slice (some ⟨g, o, none⟩) (N + M) vc) l (N + (k + 1)) (N + M) (N + M)) := by rw [e9]; exact T2.out
                  clear T2 e9 KC CN x1 EW
                  go_wp2_with fail
                  go_roundw
                  case rel => exact ⟨k + 1, by omega, by go_num, T3.out⟩
                  case measure => simp [intOf]; omega
                · obtain rfl : k = M := by omega
                  have T9 := hid T
                  have CT := hid (told_any _ b l (N + k) w7 T.1)
                  have CU := hid (told_any _ c l (N + k) w7 T.2.1)
                  rw [show ((N + k : Nat) : Int) = (N : Int) + (k : Int) by omega] at CT CU
                  have X7 := hid T.2.2.2.1
                  clear T T9 q
                  go_wp2_with fail
                  refine CT.out.mono ?_
                  rintro e w8 ⟨rfl, rfl⟩
                  go_wp2_with fail
                  refine CU.out.mono ?_
                  rintro e w8 ⟨rfl, rfl⟩
                  go_wp2_with fail
                  refine (awake_any _).mono ?_
                  rintro e w10 ⟨rfl, X10⟩
                  have Y := hid (X7.out.trans X10)
                  clear X10
                  go_wp2_with fail
                  go_ret
                  exact ⟨rfl, Y.out⟩
end Go.Proofs.Ytpdgicnapidkeaa.drawsCopies
