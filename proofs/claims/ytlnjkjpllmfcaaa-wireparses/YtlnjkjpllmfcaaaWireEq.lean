/-
  Walks of slices.Equal at rates, ranges and bytes; arrays of numbers compared.
-/
import Derived.Test.YtlnjkjpllmfcaaaWireKinds
import Derived.ChangeKeysEq
namespace Go.Proofs.Ytlnjkjpllmfcaaa
set_option linter.unusedVariables false
set_option maxRecDepth 100000
open Go.RowKit Go.Lib

/-- arrays of numbers, compared -/
theorem part_int (w : World) (e : TypeId) (k : IntKind) (a : List Int) (i : Nat) (he : Try.prog.underlying e = some (.int k)) (hi : i < a.length) :
    (part e (a.map (Value.int k)).toArray i).run Try.prog w = .ok (.int k (a.getD i 0)) w := by
  have hg : (a.map (Value.int k)).toArray[i]? = some (.int k (a.getD i 0)) := by
    rw [List.getElem?_toArray, List.getElem?_map, List.getD_eq_getElem?_getD, List.getElem?_eq_getElem hi]
    rfl
  simp only [part, Sem.run_bind, show (isAgg e).run Try.prog w = .ok false w by simp [isAgg, run_underlying he], Result.andThen_ok, Bool.false_eq_true, if_false, hg]
  rfl
theorem items_ints (w : World) (e : TypeId) (k : IntKind) (d : Nat) (a b : List Int) (he : Try.prog.underlying e = some (.int k)) (hl : a.length = b.length) : ∀ (m i : Nat), i + m = a.length →
    (Op.eqItems (d + 1) e 1 (a.map (Value.int k)).toArray (b.map (Value.int k)).toArray (List.range' i m)).run Try.prog w = .ok (a.drop i == b.drop i) w
  | 0, i, h => by
    rw [List.drop_eq_nil_of_le (by omega), List.drop_eq_nil_of_le (by omega)]
    simp [Op.eqItems]
  | m + 1, i, h => by
    have ha : i < a.length := by omega
    have hb : i < b.length := by omega
    rw [List.range'_succ]
    simp only [Op.eqItems, Sem.run_bind, Nat.mul_one, part_int w e k a i he ha, part_int w e k b i he hb, Result.andThen_ok, run_equalIn_int (P := Try.prog) w d e k k _ _ he]
    rw [List.drop_eq_getElem_cons ha, List.drop_eq_getElem_cons hb, List.cons_beq_cons, List.getD_eq_getElem?_getD, List.getD_eq_getElem?_getD, List.getElem?_eq_getElem ha, List.getElem?_eq_getElem hb]
    simp only [Option.getD_some]
    have ih := items_ints w e k d a b he hl m (i + 1) (by omega)
    by_cases hab : a[i] = b[i]
    · simp only [beq_iff_eq.2 hab, Bool.not_true, Bool.false_eq_true, if_false, Bool.true_and]
      exact ih
    · simp only [beq_eq_false_iff_ne.2 hab, Bool.not_false, if_true, Bool.false_and, Sem.run_pure]
theorem run_ints_eq (w : World) (t e : TypeId) (k : IntKind) (n : Nat) (a b : List Int) (ht : Try.prog.underlying t = some (.array n e)) (he : Try.prog.underlying e = some (.int k)) (hc : Try.prog.cellsOf e = 1) (hi : (Try.prog.info? e).isSome = true) (ha : a.length = n) (hb : b.length = n) :
    (Op.equalIn 10000 t (.agg (a.map (Value.int k)).toArray) (.agg (b.map (Value.int k)).toArray)).run Try.prog w = .ok (a == b) w := by
  obtain ⟨i, hi'⟩ := Option.isSome_iff_exists.1 hi
  have := run_equalIn_array (P := Try.prog) w 9999 (a.map (Value.int k)).toArray (b.map (Value.int k)).toArray ht hi'
  rw [this, hc, List.range_eq_range', items_ints w e k 9998 a b he (by omega) n 0 (by omega)]
  rfl

theorem cells_int1 : Try.prog.cellsOf 3 = 1 := by kernel_rfl
theorem cells_u64 : Try.prog.cellsOf 23 = 1 := by kernel_rfl
theorem info_int1 : (Try.prog.info? 3).isSome = true := by kernel_rfl
theorem info_u64 : (Try.prog.info? 23).isSome = true := by kernel_rfl

theorem pair_eq (w : World) (a b c d : Int) : (Op.equalIn 10000 53 (.agg #[.int .i64 a, .int .i64 b]) (.agg #[.int .i64 c, .int .i64 d])).run Try.prog w = .ok (((a, b) : Int × Int) == (c, d)) w := by
  have := run_ints_eq w 53 3 .i64 2 [a, b] [c, d] Try.underlying53 Try.underlying3 cells_int1 info_int1 rfl rfl
  have e : (([a, b] : List Int) == [c, d]) = (((a, b) : Int × Int) == (c, d)) := by
    rw [Bool.eq_iff_iff, beq_iff_eq, beq_iff_eq]; simp
  rw [e] at this
  exact this
theorem guard_two : Try.prog.eqGuardType Try.prog.depth 53 = false := by kernel_rfl
theorem guard_ten : Try.prog.eqGuardType Try.prog.depth 67 = false := by kernel_rfl

theorem take_eq_all {α : Type} (a b : List α) (hl : a.length = b.length) (h : a.take a.length = b.take a.length) : a = b := by
  rw [List.take_length, hl, List.take_length] at h
  exact h
theorem take_eq_next {α : Type} (a b : List α) (z : α) (k : Nat) (ha : k < a.length) (hb : k < b.length) (h : a.take k = b.take k) (e : a.getD k z = b.getD k z) : a.take (k + 1) = b.take (k + 1) := by
  rw [List.getD_eq_getElem?_getD, List.getD_eq_getElem?_getD, List.getElem?_eq_getElem ha, List.getElem?_eq_getElem hb] at e
  simp only [Option.getD_some] at e
  rw [List.take_succ_eq_append_getElem ha, List.take_succ_eq_append_getElem hb, h, e]
theorem ne_of_at {α : Type} [BEq α] [LawfulBEq α] (a b : List α) (z : α) (k : Nat) (e : a.getD k z ≠ b.getD k z) : (a == b) = false := by
  rw [beq_eq_false_iff_ne]
  intro h
  exact e (by rw [h])
theorem ne_of_length {α : Type} [BEq α] [LawfulBEq α] (a b : List α) (e : a.length ≠ b.length) : (a == b) = false := by
  rw [beq_eq_false_iff_ne]
  intro h
  exact e (by rw [h])

set_option maxHeartbeats 2000000 in
theorem equalA_any (K L : Nat → Prop) (w : World) (u v : Value) (a b : List UInt64) (hu : RowK K w u 1 (acells a)) (hv : RowK L w v 1 (acells b)) (hl : a.length ≤ 100000) :
    Calls Try.prog 27 #[u, v] w fun e w' => e = .returned (.bool (a == b)) ∧ ∃ n, w' = w.drewN n := by
  obtain ⟨ao, n, c, rfl, h1, h2, h3, h4⟩ := hu
  obtain ⟨bo, m, d, rfl, k1, k2, k3, k4⟩ := hv
  have e1 : n = a.length := by rw [acells_length] at h1; omega
  have e2 : m = b.length := by rw [acells_length] at k1; omega
  subst e1 e2
  unfold maxLen at h3 k3
  have H4 := hid h4
  have K4 := hid k4
  clear h1 h4 k1 k4
  by_cases hne : a.length = b.length
  · have i1 : ((a.length : Int) == (b.length : Int)) = true := by rw [beq_iff_eq]; omega
    have NL := hid hne
    go_enter Try.func27, Try.ntmps27
    go_wp2_with fail
    go_loopw [13] (fun i wr => ∃ k n : Nat, k ≤ a.length ∧ i = .int .i64 k ∧ a.take k = b.take k ∧ wr = w.drewN n) (fun i _ => (a.length - intOf i).toNat)
    case atStart => exact ⟨0, 0, by omega, rfl, rfl, rfl⟩
    case round =>
     obtain ⟨k, n, hk, rfl, ht, rfl⟩ := hrel
     by_cases t : k < a.length
     · obtain ⟨g, o, rfl, _, ca⟩ := H4.out (by omega)
       obtain ⟨g', o', rfl, _, cb⟩ := K4.out (by omega)
       have x1 := ca k _ (acells_at a k t)
       have y1 := cb k _ (acells_at b k (by omega))
       have vx : (((a.getD k 0).toNat : Int) = ((b.getD k 0).toNat : Int)) ↔ a.getD k 0 = b.getD k 0 := by
         constructor
         · intro h; exact UInt64.toNat_inj.1 (by omega)
         · intro h; rw [h]
       have VX := hid vx
       have NX := hid (take_eq_next a b 0 k t (by omega) ht)
       have NE := hid (ne_of_at a b 0 k)
       clear vx ca cb ht
       generalize a.getD k 0 = x at *
       generalize b.getD k 0 = y at *
       generalize (x.toNat : Int) = X at *
       generalize (y.toNat : Int) = Y at *
       have t1 : (k : Int) < (a.length : Int) := by omega
       have t2 : (0 : Int) ≤ (k : Int) := by omega
       have t3 : (k : Int) < (b.length : Int) := by omega
       by_cases d : X = Y
       · have EQ : (X == Y) = true := by simp [d]
         have NX2 := hid (NX.out (VX.out.1 d))
         clear NX NE VX d
         go_wp2_with fail
         go_quiet (fail)
         go_wp2_with fail
         go_roundw
         case rel => exact ⟨k + 1, _, by omega, by go_num, NX2.out, rfl⟩
         case measure => simp [intOf]; omega
       · have EQ : (X == Y) = false := by simp [d]
         have NE2 := hid (NE.out (fun h => d (VX.out.2 h)))
         clear NX NE VX d
         go_wp2_with fail
         go_quiet (fail)
         go_wp2_with fail
         go_ret
         exact ⟨by rw [NE2.out]; rfl, _, by rw [World.drewN_drewN]⟩
     · obtain rfl : k = a.length := by omega
       have EE : Hid ((a == b) = true) := by show _ = _; rw [beq_iff_eq]; exact take_eq_all a b NL.out ht
       clear ht
       go_wp2_with fail
       go_ret
       exact ⟨by rw [EE.out]; rfl, _, rfl⟩
  · have i1 : ((a.length : Int) == (b.length : Int)) = false := by rw [beq_eq_false_iff_ne]; omega
    have NE := hid (ne_of_length a b hne)
    clear hne
    go_enter Try.func27, Try.ntmps27
    go_wp2_with fail
    go_ret
    exact ⟨by rw [NE.out]; rfl, 0, rfl⟩

set_option maxHeartbeats 2000000 in
theorem equalD_any (K L : Nat → Prop) (w : World) (u v : Value) (a b : List UInt8) (hu : RowK K w u 1 (bcells a)) (hv : RowK L w v 1 (bcells b)) (hl : a.length ≤ 100000) :
    Calls Try.prog 29 #[u, v] w fun e w' => e = .returned (.bool (a == b)) ∧ ∃ n, w' = w.drewN n := by
  obtain ⟨ao, n, c, rfl, h1, h2, h3, h4⟩ := hu
  obtain ⟨bo, m, d, rfl, k1, k2, k3, k4⟩ := hv
  have e1 : n = a.length := by rw [bcells_length] at h1; omega
  have e2 : m = b.length := by rw [bcells_length] at k1; omega
  subst e1 e2
  unfold maxLen at h3 k3
  have H4 := hid h4
  have K4 := hid k4
  clear h1 h4 k1 k4
  by_cases hne : a.length = b.length
  · have i1 : ((a.length : Int) == (b.length : Int)) = true := by rw [beq_iff_eq]; omega
    have NL := hid hne
    go_enter Try.func29, Try.ntmps29
    go_wp2_with fail
    go_loopw [13] (fun i wr => ∃ k n : Nat, k ≤ a.length ∧ i = .int .i64 k ∧ a.take k = b.take k ∧ wr = w.drewN n) (fun i _ => (a.length - intOf i).toNat)
    case atStart => exact ⟨0, 0, by omega, rfl, rfl, rfl⟩
    case round =>
     obtain ⟨k, n, hk, rfl, ht, rfl⟩ := hrel
     by_cases t : k < a.length
     · obtain ⟨g, o, rfl, _, ca⟩ := H4.out (by omega)
       obtain ⟨g', o', rfl, _, cb⟩ := K4.out (by omega)
       have x1 := ca k _ (bcells_at a k t)
       have y1 := cb k _ (bcells_at b k (by omega))
       have vx : (((a.getD k 0).toNat : Int) = ((b.getD k 0).toNat : Int)) ↔ a.getD k 0 = b.getD k 0 := by
         constructor
         · intro h; exact UInt8.toNat_inj.1 (by omega)
         · intro h; rw [h]
       have VX := hid vx
       have NX := hid (take_eq_next a b 0 k t (by omega) ht)
       have NE := hid (ne_of_at a b 0 k)
       clear vx ca cb ht
       generalize a.getD k 0 = x at *
       generalize b.getD k 0 = y at *
       generalize (x.toNat : Int) = X at *
       generalize (y.toNat : Int) = Y at *
       have t1 : (k : Int) < (a.length : Int) := by omega
       have t2 : (0 : Int) ≤ (k : Int) := by omega
       have t3 : (k : Int) < (b.length : Int) := by omega
       by_cases d : X = Y
       · have EQ : (X == Y) = true := by simp [d]
         have NX2 := hid (NX.out (VX.out.1 d))
         clear NX NE VX d
         go_wp2_with fail
         go_quiet (fail)
         go_wp2_with fail
         go_roundw
         case rel => exact ⟨k + 1, _, by omega, by go_num, NX2.out, rfl⟩
         case measure => simp [intOf]; omega
       · have EQ : (X == Y) = false := by simp [d]
         have NE2 := hid (NE.out (fun h => d (VX.out.2 h)))
         clear NX NE VX d
         go_wp2_with fail
         go_quiet (fail)
         go_wp2_with fail
         go_ret
         exact ⟨by rw [NE2.out]; rfl, _, by rw [World.drewN_drewN]⟩
     · obtain rfl : k = a.length := by omega
       have EE : Hid ((a == b) = true) := by show _ = _; rw [beq_iff_eq]; exact take_eq_all a b NL.out ht
       clear ht
       go_wp2_with fail
       go_ret
       exact ⟨by rw [EE.out]; rfl, _, rfl⟩
  · have i1 : ((a.length : Int) == (b.length : Int)) = false := by rw [beq_eq_false_iff_ne]; omega
    have NE := hid (ne_of_length a b hne)
    clear hne
    go_enter Try.func29, Try.ntmps29
    go_wp2_with fail
    go_ret
    exact ⟨by rw [NE.out]; rfl, 0, rfl⟩

set_option maxHeartbeats 2000000 in
theorem equalG_any (K L : Nat → Prop) (w : World) (u v : Value) (a b : List (Int × Int)) (hu : RowK K w u 2 (gcells a)) (hv : RowK L w v 2 (gcells b)) (hl : a.length ≤ 100000) :
    Calls Try.prog 28 #[u, v] w fun e w' => e = .returned (.bool (a == b)) ∧ ∃ n, w' = w.drewN n := by
  obtain ⟨ao, n, c, rfl, h1, h2, h3, h4⟩ := hu
  obtain ⟨bo, m, d, rfl, k1, k2, k3, k4⟩ := hv
  have e1 : n = a.length := by rw [gcells_length] at h1; omega
  have e2 : m = b.length := by rw [gcells_length] at k1; omega
  subst e1 e2
  unfold maxLen at h3 k3
  have H4 := hid h4
  have K4 := hid k4
  clear h1 h4 k1 k4
  by_cases hne : a.length = b.length
  · have i1 : ((a.length : Int) == (b.length : Int)) = true := by rw [beq_iff_eq]; omega
    have NL := hid hne
    go_enter Try.func28, Try.ntmps28
    go_wp2_with fail
    go_loopw [13] (fun i wr => ∃ k n : Nat, k ≤ a.length ∧ i = .int .i64 k ∧ a.take k = b.take k ∧ wr = w.drewN n) (fun i _ => (a.length - intOf i).toNat)
    case atStart => exact ⟨0, 0, by omega, rfl, rfl, rfl⟩
    case round =>
     obtain ⟨k, n, hk, rfl, ht, rfl⟩ := hrel
     by_cases t : k < a.length
     · obtain ⟨g, o, rfl, _, ca⟩ := H4.out (by omega)
       obtain ⟨g', o', rfl, _, cb⟩ := K4.out (by omega)
       have x1 := ca _ _ (gcells_at a k t).1
       have x2 := ca _ _ (gcells_at a k t).2
       have y1 := cb _ _ (gcells_at b k (by omega)).1
       have y2 := cb _ _ (gcells_at b k (by omega)).2
       rw [← Nat.add_assoc] at x2 y2
       have PE := fun w => pair_eq w (a.getD k (0, 0)).1 (a.getD k (0, 0)).2 (b.getD k (0, 0)).1 (b.getD k (0, 0)).2
       have NX := hid (take_eq_next a b (0, 0) k t (by omega) ht)
       have NE := hid (ne_of_at a b (0, 0) k)
       have GT := guard_two
       clear ca cb ht
       generalize a.getD k (0, 0) = x at *
       generalize b.getD k (0, 0) = y at *
       obtain ⟨x1', x2'⟩ := x
       obtain ⟨y1', y2'⟩ := y
       simp only at x1 x2 y1 y2 PE
       have t1 : (k : Int) < (a.length : Int) := by omega
       have t2 : (0 : Int) ≤ (k : Int) := by omega
       have t3 : (k : Int) < (b.length : Int) := by omega
       by_cases d : ((x1', x2') : Int × Int) = (y1', y2')
       · have EQ : (((x1', x2') : Int × Int) == (y1', y2')) = true := by rw [beq_iff_eq]; exact d
         have NX2 := hid (NX.out d)
         rw [EQ] at PE
         clear NX NE d EQ
         go_wp2_with fail
         go_quiet (fail)
         go_wp2_with fail
         go_roundw
         case rel => exact ⟨k + 1, _, by omega, by go_num, NX2.out, rfl⟩
         case measure => simp [intOf]; omega
       · have EQ : (((x1', x2') : Int × Int) == (y1', y2')) = false := by rw [beq_eq_false_iff_ne]; exact d
         have NE2 := hid (NE.out d)
         rw [EQ] at PE
         clear NX NE d EQ
         go_wp2_with fail
         go_quiet (fail)
         go_wp2_with fail
         go_ret
         exact ⟨by rw [NE2.out]; rfl, _, by rw [World.drewN_drewN]⟩
     · obtain rfl : k = a.length := by omega
       have EE : Hid ((a == b) = true) := by show _ = _; rw [beq_iff_eq]; exact take_eq_all a b NL.out ht
       clear ht
       go_wp2_with fail
       go_ret
       exact ⟨by rw [EE.out]; rfl, _, rfl⟩
  · have i1 : ((a.length : Int) == (b.length : Int)) = false := by rw [beq_eq_false_iff_ne]; omega
    have NE := hid (ne_of_length a b hne)
    clear hne
    go_enter Try.func28, Try.ntmps28
    go_wp2_with fail
    go_ret
    exact ⟨by rw [NE.out]; rfl, 0, rfl⟩
end Go.Proofs.Ytlnjkjpllmfcaaa
