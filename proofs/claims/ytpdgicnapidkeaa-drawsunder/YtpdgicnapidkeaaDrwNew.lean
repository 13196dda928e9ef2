/-
  Walks of slices.Clone, New, Next, At, Told, Under, Share, Copy.
-/
import Derived.Test.YtpdgicnapidkeaaDrwOps
import Derived.Test.YtpdgicnapidkeaaEverMore
import Derived.Lib.BufferMore
namespace Go.Proofs.Ytpdgicnapidkeaa
set_option linter.unusedVariables false
set_option maxRecDepth 100000
open Go.RowKit Go.Lib

theorem slice_of {K : Nat → Prop} {w : World} {v : Value} {z : Nat} {l : List Value} (h : RowK K w v z l) : ∃ a n c, v = .slice a n c := by
  obtain ⟨a, n, c, e, _⟩ := h
  exact ⟨a, n, c, e⟩

set_option maxHeartbeats 1000000 in
theorem clone_any (K : Nat → Prop) (w : World) (v : Value) (l : List Int) (h : RowK K w v 1 (ucells l)) (hp : Plain v) (hl : l.length ≤ 1000) :
    Calls Try.prog 16 #[v] w fun e w' => ∃ v', e = .returned v' ∧ NewU w w' v' l := by
  have R0 := h
  have P0 := hp
  rcases hp with rfl | ⟨a, n, c, rfl⟩
  · have hn := Lib.run_eql_slice_nil_nil (P := Try.prog) w 0 0 Try.underlying22
    have e : l = [] := by
      obtain ⟨ao, n', c', e, h1, _⟩ := h
      simp only [Value.slice.injEq] at e
      rw [ucells_length] at h1
      exact List.eq_nil_of_length_eq_zero (by omega)
    subst e
    have R := hid (NewU.nil w)
    clear R0 P0 h hl
    go_enter Try.func16, Try.ntmps16
    go_wp2
    go_ret
    exact ⟨_, rfl, R.out⟩
  · obtain ⟨w1, e1⟩ : ∃ w1, w1 = w.alloc (.cells #[] 27) := ⟨_, rfl⟩
    have N1 := NewU.made w
    rw [← e1] at N1
    have R1 : RowK (fun _ => True) w1 (.slice (some a) n c) 1 (ucells l) := (h.mono (by decide) (fun _ _ _ => True.intro)).kept (.of_ext N1.2)
    obtain ⟨v', w', r, N⟩ := append_u32s N1 R1 P0 (by simp; omega)
    rw [List.nil_append] at N
    have T := hid N
    obtain ⟨a', n', c', e'⟩ := slice_of N.row
    subst e'
    have R := hid r
    have E1 := hid e1
    have h2 : n ≤ c ∧ c ≤ 2 ^ 63 - 1 := by
      obtain ⟨ao, m, c2, e, h1, h2, h3, _⟩ := h
      simp only [Value.slice.injEq] at e
      obtain ⟨_, rfl, rfl⟩ := e
      exact ⟨h2, h3⟩
    obtain ⟨h4, h5⟩ := h2
    clear N1 R1 r N e1 R0 P0 h
    have hn := Lib.run_eql_slice_some_nil (P := Try.prog) w a n c Try.underlying22
    go_enter Try.func16, Try.ntmps16
    go_wp2_with (at_builtin; rw [← E1.out]; refine wpList_append_run rfl (.tmp 5) (.tmp 6) 22 rfl _ _ _ _ rfl rfl R.out ?_)
    go_ret
    exact ⟨_, rfl, T.out⟩

set_option maxHeartbeats 1000000 in
theorem new_any (K : Nat → Prop) (w : World) (v : Value) (l : List Int) (h : RowK K w v 1 (ucells l)) (hp : Plain v) (hl : l.length ≤ 1000) (hr : Room l) :
    Calls Try.prog 8 #[v] w fun e w' => ∃ b, e = .returned (.pointer (some ⟨b, 0, none⟩)) ∧ Drw (fun i => w.heap.size ≤ i) w' b l 0 ∧ Ext w w' := by
  have C := hid (clone_any K w v l h hp hl)
  obtain ⟨a, n, c, rfl⟩ := slice_of h
  clear h hp
  go_enter Try.func8, Try.ntmps8
  go_wp2_with fail
  refine C.out.mono ?_
  rintro e w1 ⟨v', rfl, N⟩
  have T : Hid (Drw (fun i => w.heap.size ≤ i) (w1.alloc (.cells #[v', .int .i64 0] 47 (0, 0))) w1.heap.size l 0 ∧ Ext w (w1.alloc (.cells #[v', .int .i64 0] 47 (0, 0)))) :=
    ⟨⟨v', heap_alloc_new w1 _, (N.row.mono (by decide) (fun i hi hs => ⟨hs.1, by omega⟩)).kept (.of_ext ((Ext.refl w1).alloc _)), N.plain, N.2.size, hr, hl⟩, N.2.alloc _⟩
  obtain ⟨a', n', c', e'⟩ := slice_of N.row
  subst e'
  clear N C
  go_wp2_with fail
  go_ret
  exact ⟨_, rfl, T.out⟩

set_option maxHeartbeats 1000000 in
theorem told_any (S : Nat → Prop) (b : Nat) (l : List Int) (n : Nat) (w : World) (h : Drw S w b l n) :
    Calls Try.prog 11 #[.pointer (some ⟨b, 0, none⟩)] w fun e w' => e = .returned (.int .i64 (n : Int)) ∧ w' = w := by
  have c1 := h.cell
  have c0 : w.cell? ⟨b, 0, none⟩ = some (.int .i64 (n : Int)) ∨ True := .inr True.intro
  have C := hid (word_load ⟨b, 1, none⟩ n w c1)
  obtain ⟨v, h1, _⟩ := h
  have c2 : w.cell? ⟨b, 0, none⟩ = some v := by rw [cell_of_row w b 0 _ _ _ h1]; rfl
  clear h1 c0
  go_enter Try.func11, Try.ntmps11
  go_wp2_with fail
  refine C.out.mono ?_
  rintro e w' ⟨rfl, rfl⟩
  go_wp2_with fail
  go_ret
  exact ⟨rfl, rfl⟩

set_option maxHeartbeats 1000000 in
theorem next_any (S : Nat → Prop) (b : Nat) (l : List Int) (n : Nat) (w : World) (h : Drw S w b l n) (hn : n ≤ 900000) :
    Calls Try.prog 12 #[.pointer (some ⟨b, 0, none⟩)] w fun e w' => e = .returned (.int .u32 (dr l n)) ∧ w' = tells w b (n + 1) := by
  have c1 := h.cell
  have C := hid (word_add ⟨b, 1, none⟩ n w c1 h.cool (by omega) (by omega))
  have D := hid (draw_any S b l (n + 1) n (tells w b (n + 1)) (h.tells (n + 1)) (by omega))
  have EW : Hid (w.setCell ⟨b, 1, none⟩ (.int .i64 ((n : Int) + 1)) = tells w b (n + 1)) := rfl
  obtain ⟨v, h1, _⟩ := h
  have c2 : w.cell? ⟨b, 0, none⟩ = some v := by rw [cell_of_row w b 0 _ _ _ h1]; rfl
  clear h1
  go_enter Try.func12, Try.ntmps12
  go_wp2_with fail
  refine C.out.mono ?_
  rintro e w' ⟨rfl, rfl⟩
  rw [EW.out]
  go_wp2_with fail
  refine D.out.mono ?_
  rintro e w' ⟨rfl, rfl⟩
  go_wp2_with fail
  go_ret
  exact ⟨rfl, rfl⟩

set_option maxHeartbeats 1000000 in
theorem at_any (S : Nat → Prop) (b : Nat) (l : List Int) (n i : Nat) (w : World) (h : Drw S w b l n) (hi : i ≤ 65536) :
    Calls Try.prog 10 #[.pointer (some ⟨b, 0, none⟩), .int .i64 (i : Int)] w fun e w' => e = .returned (.int .u32 (dr l i)) ∧ w' = w := by
  have D := hid (draw_any S b l n i w h (by omega))
  have i1 : (0 : Int) ≤ (i : Int) := by omega
  have i2 : (i : Int) ≤ 65536 := by omega
  clear h hi
  go_enter Try.func10, Try.ntmps10
  go_wp2_with fail
  refine D.out.mono ?_
  rintro e w' ⟨rfl, rfl⟩
  go_wp2_with fail
  go_ret
  exact ⟨rfl, rfl⟩

set_option maxHeartbeats 1000000 in
theorem at_none (b : Nat) (i : Int) (w : World) (hi : i < 0 ∨ 65536 < i) :
    Calls Try.prog 10 #[.pointer (some ⟨b, 0, none⟩), .int .i64 i] w fun e w' => e = .returned (.int .u32 0) ∧ w' = w := by
  rcases hi with h | h
  · go_enter Try.func10, Try.ntmps10
    go_wp2_with fail
    go_ret
    exact ⟨rfl, rfl⟩
  · have h1 : ¬ i < 0 := by omega
    go_enter Try.func10, Try.ntmps10
    go_wp2_with fail
    go_ret
    exact ⟨rfl, rfl⟩

set_option maxHeartbeats 1000000 in
theorem share_any (S : Nat → Prop) (b : Nat) (l : List Int) (n : Nat) (w : World) (h : Drw S w b l n) (hn : n ≤ 900000) :
    Calls Try.prog 14 #[.pointer (some ⟨b, 0, none⟩)] w fun e w' => e = .returned (.int .u64 (dr l n + 1)) ∧ w' = tells w b (n + 1) := by
  have D := hid (next_any S b l n w h hn)
  obtain ⟨r1, r2⟩ := dr_room h.room n
  generalize dr l n = x at *
  clear h hn
  go_enter Try.func14, Try.ntmps14
  go_wp2_with fail
  refine D.out.mono ?_
  rintro e w' ⟨rfl, rfl⟩
  go_wp2_with fail
  go_ret
  exact ⟨rfl, rfl⟩

set_option maxHeartbeats 1000000 in
theorem under_none (b : Nat) (k : Int) (w : World) (hi : k < 1 ∨ 2147483648 < k) :
    Calls Try.prog 13 #[.pointer (some ⟨b, 0, none⟩), .int .i64 k] w fun e w' => e = .returned (.int .i64 0) ∧ w' = w := by
  rcases hi with h | h
  · go_enter Try.func13, Try.ntmps13
    go_wp2_with fail
    go_ret
    exact ⟨rfl, rfl⟩
  · have h1 : ¬ k < 1 := by omega
    go_enter Try.func13, Try.ntmps13
    go_wp2_with fail
    go_ret
    exact ⟨rfl, rfl⟩

set_option maxHeartbeats 1000000 in
theorem under_any (S : Nat → Prop) (b : Nat) (l : List Int) (n : Nat) (k : Int) (w : World) (h : Drw S w b l n) (hn : n ≤ 900000) (k1 : 1 ≤ k) (k2 : k ≤ 2147483648) :
    Calls Try.prog 13 #[.pointer (some ⟨b, 0, none⟩), .int .i64 k] w fun e w' => e = .returned (.int .i64 (dr l n * k / 4294967296)) ∧ w' = tells w b (n + 1) := by
  have D := hid (next_any S b l n w h hn)
  obtain ⟨r1, r2⟩ := dr_room h.room n
  generalize dr l n = x at *
  have m1 : 0 ≤ x * k := Int.mul_nonneg r1 (by omega)
  have m2 : x * k ≤ 4294967295 * 2147483648 := Int.mul_le_mul (by omega) k2 (by omega) (by omega)
  have mw : IntKind.u64.wrap (x * k) = x * k := by rw [IntKind.wrap_u64]; omega
  have i1 : ¬ k < 1 := by omega
  have M1 := hid m1
  have M2 := hid m2
  clear h hn m1 m2
  go_enter Try.func13, Try.ntmps13
  go_wp2_with fail
  refine D.out.mono ?_
  rintro e w' ⟨rfl, rfl⟩
  go_wp2_with fail
  go_ret
  exact ⟨ret_int (by have := M1.out; have := M2.out; unfold wrap64; omega), rfl⟩

set_option maxHeartbeats 4000000 in
theorem copy_any (S : Nat → Prop) (b : Nat) (l : List Int) (n : Nat) (w : World) (h : Drw S w b l n) (hn : n ≤ 900000) :
    Calls Try.prog 15 #[.pointer (some ⟨b, 0, none⟩)] w fun e w' => ∃ c, e = .returned (.pointer (some ⟨c, 0, none⟩)) ∧ Drw (fun i => w.heap.size ≤ i) w' c l n ∧ Ext w w' := by
  have H := hid h
  obtain ⟨v, h1, h2, h3, h4, h5, h6⟩ := h
  have c2 : w.cell? ⟨b, 0, none⟩ = some v := by rw [cell_of_row w b 0 _ _ _ h1]; rfl
  have C := hid (new_any _ w v l h2 h3 h6 h5)
  obtain ⟨a, m, c, rfl⟩ := slice_of h2
  clear h1 h2 h3 h4 h5 h6
  go_enter Try.func15, Try.ntmps15
  go_wp2_with fail
  refine C.out.mono ?_
  rintro e w1 ⟨d, rfl, N, X⟩
  have DN := hid N
  have XN := hid X
  have L1 := hid ((H.out.ext X).ext (Below.drew (Ext.refl w1)))
  have K1 := hid (N.ext (Below.drew (Ext.refl w1)))
  obtain ⟨W, eW⟩ : ∃ W, W = w1.drew := ⟨_, rfl⟩
  rw [← eW] at L1 K1
  have XW : Hid (Ext w W) := by rw [eW]; exact Below.drew X
  have C1 := hid (word_load ⟨b, 1, none⟩ n W L1.out.cell)
  have C2 := hid (word_store ⟨d, 1, none⟩ _ n W K1.out.cell K1.out.cool)
  have T : Hid (Drw (fun i => w.heap.size ≤ i) (tells W d n) d l n ∧ Ext w (tells W d n)) := ⟨K1.out.tells n, XW.out.setCell (p := ⟨d, 1, none⟩) N.its _⟩
  have EW := hid eW
  clear N X C H DN XN L1 K1 XW c2 eW
  go_wp2_with fail
  refine wp_region_held_drew (S := fun _ => True) (by kernel_rfl) True.intro (fun hHeld => ?_)
  rw [← EW.out]
  refine takeE (v := ?_) 0 9 rfl rfl (by kernel_rfl) (by kernel_rfl) (by kernel_rfl) (fun _ _ _ h => h) (Or.inl ⟨by rfl, fun V hV => ?_⟩) hHeld ?_
  rotate_left
  · (go_simp; try with_reducible rfl)
  simp only [Act.put, List.setIfInBounds_toArray, List.set_cons_zero, List.set_cons_succ]
  refine takeE (v := ?_) 1 10 rfl rfl (by kernel_rfl) (by kernel_rfl) (by kernel_rfl) (fun _ _ _ h => h) (Or.inl ⟨by rfl, fun V hV => ?_⟩) hHeld ?_
  rotate_left
  · (go_simp; try with_reducible rfl)
  simp only [Act.put, List.setIfInBounds_toArray, List.set_cons_zero, List.set_cons_succ]
  refine takeE (v := ?_) 2 11 rfl rfl (by kernel_rfl) (by kernel_rfl) (by kernel_rfl) (fun _ _ _ h => h) (Or.inl ⟨by rfl, fun V hV => ?_⟩) hHeld ?_
  rotate_left
  · (go_simp; try with_reducible rfl)
  simp only [Act.put, List.setIfInBounds_toArray, List.set_cons_zero, List.set_cons_succ]
  refine takeE (v := ?_) 3 12 rfl rfl (by kernel_rfl) (by kernel_rfl) (by kernel_rfl) (fun _ _ _ h => h) (Or.inl ⟨by rfl, fun V hV => ?_⟩) hHeld ?_
  rotate_left
  · (go_simp; try with_reducible rfl)
  simp only [Act.put, List.setIfInBounds_toArray, List.set_cons_zero, List.set_cons_succ]
  refine takeE (v := ?_) 4 13 rfl rfl (by kernel_rfl) (by kernel_rfl) (by kernel_rfl) (fun _ _ _ h => h) (Or.inl ⟨by rfl, fun V hV => ?_⟩) hHeld ?_
  rotate_left
  · (go_simp; try with_reducible rfl)
  simp only [Act.put, List.setIfInBounds_toArray, List.set_cons_zero, List.set_cons_succ]
  refine takeE (v := ?_) 5 14 rfl rfl (by kernel_rfl) (by kernel_rfl) (by kernel_rfl) (fun _ _ _ h => h) (Or.inl ⟨by rfl, fun V hV => ?_⟩) hHeld ?_
  rotate_left
  · (go_simp; try with_reducible rfl)
  simp only [Act.put, List.setIfInBounds_toArray, List.set_cons_zero, List.set_cons_succ]
  refine callE 6 15 rfl rfl (by kernel_rfl) (by rfl) (by go_simp; first | exact ⟨rfl, rfl⟩ | rfl) ?_
  refine C1.out.mono ?_
  rintro e w2 ⟨rfl, rfl⟩
  refine ⟨_, rfl, hHeld, ?_⟩
  simp only [Act.put, List.setIfInBounds_toArray, List.set_cons_zero, List.set_cons_succ]
  refine callE 7 16 rfl rfl (by kernel_rfl) (by rfl) (by go_simp; first | exact ⟨rfl, rfl⟩ | rfl) ?_
  refine C2.out.mono ?_
  rintro e w2 ⟨rfl, rfl⟩
  refine ⟨_, rfl, hHeld, ?_⟩
  simp only [Act.put, List.setIfInBounds_toArray, List.set_cons_zero, List.set_cons_succ]
  refine wpAnyH_done (by kernel_rfl) ?_ _
  have T2 : Hid (Drw (fun i => w.heap.size ≤ i) (w2.setCell ⟨d, 1, none⟩ (.int .i64 (n : Int))) d l n ∧ Ext w (w2.setCell ⟨d, 1, none⟩ (.int .i64 (n : Int)))) := T
  go_wp2_with fail
  go_ret
  exact ⟨_, rfl, T2.out⟩
end Go.Proofs.Ytpdgicnapidkeaa
