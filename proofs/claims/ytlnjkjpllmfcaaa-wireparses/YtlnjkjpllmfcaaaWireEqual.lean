/-
  Walks of numbers and Equal.
-/
import Derived.Test.YtlnjkjpllmfcaaaWireEq
namespace Go.Proofs.Ytlnjkjpllmfcaaa
set_option linter.unusedVariables false
set_option maxRecDepth 100000
open Go.RowKit Go.Lib

/-- a packet's numbers, as Equal compares them -/
def nlist (p : Pk) : List Int := [IntKind.u64.wrap (p.1 0), IntKind.u64.wrap (p.1 1), IntKind.u64.wrap (p.1 2), IntKind.u64.wrap (p.1 3), IntKind.u64.wrap (p.1 4), IntKind.u64.wrap (p.1 5), IntKind.u64.wrap (p.1 6), IntKind.u64.wrap (p.1 7), IntKind.u64.wrap (p.1 8), p.1 9]
def ncols (p : Pk) : Array Value := ((nlist p).map (Value.int .u64)).toArray
theorem cells_ten : (Try.prog.info? 67).map (·.size) = some 10 := by kernel_rfl
theorem cells_packet : (Try.prog.info? 29).map (·.size) = some 13 := by kernel_rfl

set_option maxHeartbeats 2000000 in
theorem numbers_any (w : World) (p : Pk) (ra rg da : Value) :
    Calls Try.prog 26 #[.agg (prow p ra rg da)] w fun e w' => e = .returned (.agg (ncols p)) ∧ Ext w w' := by
  obtain ⟨w2, e2⟩ : ∃ w2, w2 = (w.alloc (.cells (prow p ra rg da) 29)).alloc (.cells #[.int .u64 0, .int .u64 0, .int .u64 0, .int .u64 0, .int .u64 0, .int .u64 0, .int .u64 0, .int .u64 0, .int .u64 0, .int .u64 0] 67) := ⟨_, rfl⟩
  have X2 : Ext w w2 := by rw [e2]; exact ((Ext.refl w).alloc _).alloc _
  have b1 : w2.heap[w.heap.size]? = some (.cells (prow p ra rg da) 29 (0, 0)) := by rw [e2]; exact heap_alloc2_old w _ _
  have b2 : w2.heap[w.heap.size + 1]? = some (.cells #[.int .u64 0, .int .u64 0, .int .u64 0, .int .u64 0, .int .u64 0, .int .u64 0, .int .u64 0, .int .u64 0, .int .u64 0, .int .u64 0] 67 (0, 0)) := by rw [e2]; exact heap_alloc2_new w _ _
  have E2 := hid e2
  have B2 := hid b2
  have G2 : Hid ((w2.setRow (w.heap.size + 1) (ncols p)).heap[w.heap.size + 1]? = some (.cells (ncols p) 67 (0, 0))) := setRow_heap _ _ _ _ _ _ b2
  have FX : Hid (Ext w (w2.setRow (w.heap.size + 1) (ncols p))) := X2.setRow (by omega) _
  have ON : Hid ((ncols p).all (·.oneCell') = true) := by simp [ncols, nlist, Value.oneCell', Hid]
  have c0 : w2.cell? ⟨w.heap.size, 0, none⟩ = some (.int .i64 (p.1 0)) := by rw [cell_of_row _ _ _ _ _ _ b1]; rfl
  have c1 : w2.cell? ⟨w.heap.size, 1, none⟩ = some (.int .i64 (p.1 1)) := by rw [cell_of_row _ _ _ _ _ _ b1]; rfl
  have c2 : w2.cell? ⟨w.heap.size, 2, none⟩ = some (.int .i64 (p.1 2)) := by rw [cell_of_row _ _ _ _ _ _ b1]; rfl
  have c3 : w2.cell? ⟨w.heap.size, 3, none⟩ = some (.int .u32 (p.1 3)) := by rw [cell_of_row _ _ _ _ _ _ b1]; rfl
  have c4 : w2.cell? ⟨w.heap.size, 4, none⟩ = some (.int .i64 (p.1 4)) := by rw [cell_of_row _ _ _ _ _ _ b1]; rfl
  have c5 : w2.cell? ⟨w.heap.size, 5, none⟩ = some (.int .i64 (p.1 5)) := by rw [cell_of_row _ _ _ _ _ _ b1]; rfl
  have c6 : w2.cell? ⟨w.heap.size, 6, none⟩ = some (.int .i64 (p.1 6)) := by rw [cell_of_row _ _ _ _ _ _ b1]; rfl
  have c7 : w2.cell? ⟨w.heap.size, 7, none⟩ = some (.int .i64 (p.1 7)) := by rw [cell_of_row _ _ _ _ _ _ b1]; rfl
  have c8 : w2.cell? ⟨w.heap.size, 8, none⟩ = some (.int .i64 (p.1 8)) := by rw [cell_of_row _ _ _ _ _ _ b1]; rfl
  have c9 : w2.cell? ⟨w.heap.size, 9, none⟩ = some (.int .u64 (p.1 9)) := by rw [cell_of_row _ _ _ _ _ _ b1]; rfl
  clear e2 X2 b1 b2
  go_enter Try.func26, Try.ntmps26
  go_wp2_with (first | rw [← E2.out] | refine wpList_store_row rfl 67 _ _ rfl (w.heap.size + 1) (ncols p) rfl rfl 67 #[.int .u64 0, .int .u64 0, .int .u64 0, .int .u64 0, .int .u64 0, .int .u64 0, .int .u64 0, .int .u64 0, .int .u64 0, .int .u64 0] B2.out cells_ten rfl ON.out ?_)
  (try simp only [Exit.inBlock, Exit.then])
  refine bodyPost_ret (results_cell_row Try.results26 _ _ (w.heap.size + 1) 67 (ncols p) (0, 0) _ rfl G2.out Try.underlying67 rfl cells_ten) rfl ?_
  exact ⟨rfl, FX.out⟩

/-- a value that is a packet -/
def PVal (w : World) (v : Value) (p : Pk) : Prop := ∃ ra rg da, v = .agg (prow p ra rg da) ∧ PL (fun _ => True) w p ra rg da
theorem PVal.ext {w w' : World} {v : Value} {p : Pk} (h : PVal w v p) (e : Ext w w') : PVal w' v p := by
  obtain ⟨ra, rg, da, h1, h2⟩ := h
  exact ⟨ra, rg, da, h1, h2.kept (.of_ext e)⟩
/-- lists that a walk can go through -/
def slim (p : Pk) : Prop := p.2.1.length ≤ 1000 ∧ p.2.2.1.length ≤ 1000 ∧ p.2.2.2.length ≤ 1000
/-- Equal's answer -/
def sameB (p q : Pk) : Bool := (nlist p == nlist q) && ((p.2.1 == q.2.1) && ((p.2.2.1 == q.2.2.1) && (p.2.2.2 == q.2.2.2)))

set_option maxHeartbeats 8000000 in
theorem equal_any (w : World) (u v : Value) (p q : Pk) (hu : PVal w u p) (hv : PVal w v q) (hl : slim p) :
    Calls Try.prog 14 #[u, v] w fun e w' => e = .returned (.bool (sameB p q)) ∧ Ext w w' := by
  obtain ⟨ra, rg, da, rfl, pl⟩ := hu
  obtain ⟨ra', rg', da', rfl, pl'⟩ := hv
  obtain ⟨w2, e2⟩ : ∃ w2, w2 = (w.alloc (.cells (prow p ra rg da) 29)).alloc (.cells (prow q ra' rg' da') 29) := ⟨_, rfl⟩
  have X2 : Ext w w2 := by rw [e2]; exact ((Ext.refl w).alloc _).alloc _
  have b1 : w2.heap[w.heap.size]? = some (.cells (prow p ra rg da) 29 (0, 0)) := by rw [e2]; exact heap_alloc2_old w _ _
  have b2 : w2.heap[w.heap.size + 1]? = some (.cells (prow q ra' rg' da') 29 (0, 0)) := by rw [e2]; exact heap_alloc2_new w _ _
  have R1 : Hid (∀ W, (∃ n : Ever w2, W = n.W) → W.heap[w.heap.size]? = some (.cells (prow p ra rg da) 29 (0, 0))) := by rintro W ⟨n, rfl⟩; exact n.ok.row b1
  have R2 : Hid (∀ W, (∃ n : Ever w2, W = n.W) → W.heap[w.heap.size + 1]? = some (.cells (prow q ra' rg' da') 29 (0, 0))) := by rintro W ⟨n, rfl⟩; exact n.ok.row b2
  have c1 : ∀ n : Ever w2, n.W.cell? ⟨w.heap.size, 10, none⟩ = some ra := fun n => by rw [cell_of_row _ _ _ _ _ _ (n.ok.row b1)]; rfl
  have c2 : ∀ n : Ever w2, n.W.cell? ⟨w.heap.size, 11, none⟩ = some rg := fun n => by rw [cell_of_row _ _ _ _ _ _ (n.ok.row b1)]; rfl
  have c3 : ∀ n : Ever w2, n.W.cell? ⟨w.heap.size, 12, none⟩ = some da := fun n => by rw [cell_of_row _ _ _ _ _ _ (n.ok.row b1)]; rfl
  have d1 : ∀ n : Ever w2, n.W.cell? ⟨w.heap.size + 1, 10, none⟩ = some ra' := fun n => by rw [cell_of_row _ _ _ _ _ _ (n.ok.row b2)]; rfl
  have d2 : ∀ n : Ever w2, n.W.cell? ⟨w.heap.size + 1, 11, none⟩ = some rg' := fun n => by rw [cell_of_row _ _ _ _ _ _ (n.ok.row b2)]; rfl
  have d3 : ∀ n : Ever w2, n.W.cell? ⟨w.heap.size + 1, 12, none⟩ = some da' := fun n => by rw [cell_of_row _ _ _ _ _ _ (n.ok.row b2)]; rfl
  have N1 : Hid (∀ n : Ever w2, Calls Try.prog 26 #[.agg (prow p ra rg da)] n.W fun e w' => e = .returned (.agg (ncols p)) ∧ Ext n.W w') := fun n => numbers_any _ _ _ _ _
  have N2 : Hid (∀ n : Ever w2, Calls Try.prog 26 #[.agg (prow q ra' rg' da')] n.W fun e w' => e = .returned (.agg (ncols q)) ∧ Ext n.W w') := fun n => numbers_any _ _ _ _ _
  have S1 : Hid (∀ n : Ever w2, Calls Try.prog 27 #[ra, ra'] n.W fun e w' => e = .returned (.bool (p.2.1 == q.2.1)) ∧ Ext n.W w') := fun n =>
    (equalA_any _ _ _ _ _ _ _ (pl.1.kept (.of_ext (X2.trans n.ok))) (pl'.1.kept (.of_ext (X2.trans n.ok))) (by have := hl.1; omega)).mono fun e w' ⟨h1, k, h2⟩ => ⟨h1, by rw [h2]; exact (Ext.refl _).drewN k⟩
  have S2 : Hid (∀ n : Ever w2, Calls Try.prog 28 #[rg, rg'] n.W fun e w' => e = .returned (.bool (p.2.2.1 == q.2.2.1)) ∧ Ext n.W w') := fun n =>
    (equalG_any _ _ _ _ _ _ _ (pl.2.1.kept (.of_ext (X2.trans n.ok))) (pl'.2.1.kept (.of_ext (X2.trans n.ok))) (by have := hl.2.1; omega)).mono fun e w' ⟨h1, k, h2⟩ => ⟨h1, by rw [h2]; exact (Ext.refl _).drewN k⟩
  have S3 : Hid (∀ n : Ever w2, Calls Try.prog 29 #[da, da'] n.W fun e w' => e = .returned (.bool (p.2.2.2 == q.2.2.2)) ∧ Ext n.W w') := fun n =>
    (equalD_any _ _ _ _ _ _ _ (pl.2.2.kept (.of_ext (X2.trans n.ok))) (pl'.2.2.kept (.of_ext (X2.trans n.ok))) (by have := hl.2.2; omega)).mono fun e w' ⟨h1, k, h2⟩ => ⟨h1, by rw [h2]; exact (Ext.refl _).drewN k⟩
  have EQ : ∀ W, (Op.equalIn 10000 67 (.agg (ncols p)) (.agg (ncols q))).run Try.prog W = .ok (nlist p == nlist q) W := fun W =>
    run_ints_eq W 67 23 .u64 10 (nlist p) (nlist q) Try.underlying67 Try.underlying23 cells_u64 info_u64 rfl rfl
  have EG := guard_ten
  have SB : Hid (sameB p q = ((nlist p == nlist q) && ((p.2.1 == q.2.1) && ((p.2.2.1 == q.2.2.1) && (p.2.2.2 == q.2.2.2))))) := rfl
  have E2 := hid e2
  have XX := hid X2
  generalize (nlist p == nlist q) = B1 at *
  generalize (p.2.1 == q.2.1) = B2 at *
  generalize (p.2.2.1 == q.2.2.1) = B3 at *
  generalize (p.2.2.2 == q.2.2.2) = B4 at *
  generalize ncols p = C1 at *
  generalize ncols q = C2 at *
  have z1 : (prow p ra rg da).size = 13 := rfl
  have z2 : (prow q ra' rg' da').size = 13 := rfl
  generalize prow p ra rg da = A1 at *
  generalize prow q ra' rg' da' = A2 at *
  have Z1 : Hid ((Try.prog.info? 29).map (·.size) = some A1.size) := by rw [z1]; exact cells_packet
  have Z2 : Hid ((Try.prog.info? 29).map (·.size) = some A2.size) := by rw [z2]; exact cells_packet
  clear e2 X2 b1 b2 pl pl' hl z1 z2
  cases B1
  · go_enter Try.func14, Try.ntmps14
    go_wp2_with (rw [← E2.out])
    refine wp_region_ext (by kernel_rfl) (by kernel_rfl) ?_
    have some := Ever.some w2
    (go_big_quiet_want; refine quiet_load_row 29 (.tmp 2) rfl w.heap.size rfl 29 A1 (0, 0) _ R1.out Try.underlying29 rfl Z1.out ?_; simp [Act.put]; go_big_quiet_on)
    go_big_quiet_step ((go_at_call 26; refine (N1.out _).mono ?_; rintro e w' ⟨rfl, Y⟩; exact ⟨rfl, ⟨_, (Ever.ok _).trans Y⟩, rfl⟩))
    (go_big_quiet_want; refine quiet_load_row 29 (.tmp 3) rfl (w.heap.size + 1) rfl 29 A2 (0, 0) _ R2.out Try.underlying29 rfl Z2.out ?_; simp [Act.put]; go_big_quiet_on)
    go_big_quiet_step ((go_at_call 26; refine (N2.out _).mono ?_; rintro e w' ⟨rfl, Y⟩; exact ⟨rfl, ⟨_, (Ever.ok _).trans Y⟩, rfl⟩))
    repeat (go_big_quiet_step (first
      | (go_at_call 27; refine (S1.out _).mono ?_; rintro e w' ⟨rfl, Y⟩; exact ⟨rfl, ⟨_, (Ever.ok _).trans Y⟩, rfl⟩)
      | (go_at_call 28; refine (S2.out _).mono ?_; rintro e w' ⟨rfl, Y⟩; exact ⟨rfl, ⟨_, (Ever.ok _).trans Y⟩, rfl⟩)
      | (go_at_call 29; refine (S3.out _).mono ?_; rintro e w' ⟨rfl, Y⟩; exact ⟨rfl, ⟨_, (Ever.ok _).trans Y⟩, rfl⟩)))
    refine wpQuiet_nil ?_
    rintro w3 ⟨⟨_, x3⟩, rfl⟩
    have X3 := hid (XX.out.trans x3)
    clear x3 c1 c2 c3 d1 d2 d3 N1 N2 S1 S2 S3 EQ EG some
    go_wp2_with fail
    go_ret
    exact ⟨by rw [SB.out]; rfl, X3.out⟩
  · cases B2
    · go_enter Try.func14, Try.ntmps14
      go_wp2_with (rw [← E2.out])
      refine wp_region_ext (by kernel_rfl) (by kernel_rfl) ?_
      have some := Ever.some w2
      (go_big_quiet_want; refine quiet_load_row 29 (.tmp 2) rfl w.heap.size rfl 29 A1 (0, 0) _ R1.out Try.underlying29 rfl Z1.out ?_; simp [Act.put]; go_big_quiet_on)
      go_big_quiet_step ((go_at_call 26; refine (N1.out _).mono ?_; rintro e w' ⟨rfl, Y⟩; exact ⟨rfl, ⟨_, (Ever.ok _).trans Y⟩, rfl⟩))
      (go_big_quiet_want; refine quiet_load_row 29 (.tmp 3) rfl (w.heap.size + 1) rfl 29 A2 (0, 0) _ R2.out Try.underlying29 rfl Z2.out ?_; simp [Act.put]; go_big_quiet_on)
      go_big_quiet_step ((go_at_call 26; refine (N2.out _).mono ?_; rintro e w' ⟨rfl, Y⟩; exact ⟨rfl, ⟨_, (Ever.ok _).trans Y⟩, rfl⟩))
      repeat (go_big_quiet_step (first
        | (go_at_call 27; refine (S1.out _).mono ?_; rintro e w' ⟨rfl, Y⟩; exact ⟨rfl, ⟨_, (Ever.ok _).trans Y⟩, rfl⟩)
        | (go_at_call 28; refine (S2.out _).mono ?_; rintro e w' ⟨rfl, Y⟩; exact ⟨rfl, ⟨_, (Ever.ok _).trans Y⟩, rfl⟩)
        | (go_at_call 29; refine (S3.out _).mono ?_; rintro e w' ⟨rfl, Y⟩; exact ⟨rfl, ⟨_, (Ever.ok _).trans Y⟩, rfl⟩)))
      refine wpQuiet_nil ?_
      rintro w3 ⟨⟨_, x3⟩, rfl⟩
      have X3 := hid (XX.out.trans x3)
      clear x3 c1 c2 c3 d1 d2 d3 N1 N2 S1 S2 S3 EQ EG some
      go_wp2_with fail
      go_ret
      exact ⟨by rw [SB.out]; rfl, X3.out⟩
    · cases B3
      · go_enter Try.func14, Try.ntmps14
        go_wp2_with (rw [← E2.out])
        refine wp_region_ext (by kernel_rfl) (by kernel_rfl) ?_
        have some := Ever.some w2
        (go_big_quiet_want; refine quiet_load_row 29 (.tmp 2) rfl w.heap.size rfl 29 A1 (0, 0) _ R1.out Try.underlying29 rfl Z1.out ?_; simp [Act.put]; go_big_quiet_on)
        go_big_quiet_step ((go_at_call 26; refine (N1.out _).mono ?_; rintro e w' ⟨rfl, Y⟩; exact ⟨rfl, ⟨_, (Ever.ok _).trans Y⟩, rfl⟩))
        (go_big_quiet_want; refine quiet_load_row 29 (.tmp 3) rfl (w.heap.size + 1) rfl 29 A2 (0, 0) _ R2.out Try.underlying29 rfl Z2.out ?_; simp [Act.put]; go_big_quiet_on)
        go_big_quiet_step ((go_at_call 26; refine (N2.out _).mono ?_; rintro e w' ⟨rfl, Y⟩; exact ⟨rfl, ⟨_, (Ever.ok _).trans Y⟩, rfl⟩))
        repeat (go_big_quiet_step (first
          | (go_at_call 27; refine (S1.out _).mono ?_; rintro e w' ⟨rfl, Y⟩; exact ⟨rfl, ⟨_, (Ever.ok _).trans Y⟩, rfl⟩)
          | (go_at_call 28; refine (S2.out _).mono ?_; rintro e w' ⟨rfl, Y⟩; exact ⟨rfl, ⟨_, (Ever.ok _).trans Y⟩, rfl⟩)
          | (go_at_call 29; refine (S3.out _).mono ?_; rintro e w' ⟨rfl, Y⟩; exact ⟨rfl, ⟨_, (Ever.ok _).trans Y⟩, rfl⟩)))
        refine wpQuiet_nil ?_
        rintro w3 ⟨⟨_, x3⟩, rfl⟩
        have X3 := hid (XX.out.trans x3)
        clear x3 c1 c2 c3 d1 d2 d3 N1 N2 S1 S2 S3 EQ EG some
        go_wp2_with fail
        go_ret
        exact ⟨by rw [SB.out]; rfl, X3.out⟩
      · go_enter Try.func14, Try.ntmps14
        go_wp2_with (rw [← E2.out])
        refine wp_region_ext (by kernel_rfl) (by kernel_rfl) ?_
        have some := Ever.some w2
        (go_big_quiet_want; refine quiet_load_row 29 (.tmp 2) rfl w.heap.size rfl 29 A1 (0, 0) _ R1.out Try.underlying29 rfl Z1.out ?_; simp [Act.put]; go_big_quiet_on)
        go_big_quiet_step ((go_at_call 26; refine (N1.out _).mono ?_; rintro e w' ⟨rfl, Y⟩; exact ⟨rfl, ⟨_, (Ever.ok _).trans Y⟩, rfl⟩))
        (go_big_quiet_want; refine quiet_load_row 29 (.tmp 3) rfl (w.heap.size + 1) rfl 29 A2 (0, 0) _ R2.out Try.underlying29 rfl Z2.out ?_; simp [Act.put]; go_big_quiet_on)
        go_big_quiet_step ((go_at_call 26; refine (N2.out _).mono ?_; rintro e w' ⟨rfl, Y⟩; exact ⟨rfl, ⟨_, (Ever.ok _).trans Y⟩, rfl⟩))
        repeat (go_big_quiet_step (first
          | (go_at_call 27; refine (S1.out _).mono ?_; rintro e w' ⟨rfl, Y⟩; exact ⟨rfl, ⟨_, (Ever.ok _).trans Y⟩, rfl⟩)
          | (go_at_call 28; refine (S2.out _).mono ?_; rintro e w' ⟨rfl, Y⟩; exact ⟨rfl, ⟨_, (Ever.ok _).trans Y⟩, rfl⟩)
          | (go_at_call 29; refine (S3.out _).mono ?_; rintro e w' ⟨rfl, Y⟩; exact ⟨rfl, ⟨_, (Ever.ok _).trans Y⟩, rfl⟩)))
        refine wpQuiet_nil ?_
        rintro w3 ⟨⟨_, x3⟩, rfl⟩
        have X3 := hid (XX.out.trans x3)
        clear x3 c1 c2 c3 d1 d2 d3 N1 N2 S1 S2 S3 EQ EG some
        go_wp2_with fail
        go_ret
        exact ⟨by rw [SB.out]; rfl, X3.out⟩
end Go.Proofs.Ytlnjkjpllmfcaaa
