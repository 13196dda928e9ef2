/-
  Walks of what makes the fields of a Kind.
-/
import Derived.Test.YtlnjkjpllmfcaaaWireApart
namespace Go.Proofs.Ytlnjkjpllmfcaaa
set_option linter.unusedVariables false
set_option maxRecDepth 100000
open Go.RowKit Go.Lib

/-- a pointer to the head of a block -/
abbrev ptr (g : Nat) : Value := .pointer (some ⟨g, 0, none⟩)
/-- the four functions of a field, by its letter; what they hold on to lies in blocks of K -/
def FieldAt (K : Nat → Prop) (w : World) (c : Nat) (vp vg vf vd : Value) : Prop :=
  (∃ pf i top pb tb, IsNum c pf i top ∧ vp = .func (.func 95) #[] #[ptr pb] ∧ vg = .func (.func 97) #[] #[ptr pb] ∧ vf = .func (.func 99) #[] #[ptr pb, ptr tb] ∧ vd = .func (.func 100) #[] #[ptr pb] ∧
    K pb ∧ K tb ∧ w.heap[pb]? = some (.cells #[.func (.func pf) #[] #[]] 90 (0, 0)) ∧ w.heap[tb]? = some (.cells #[.int .i64 top] 3 (0, 0))) ∨
  (c = 83 ∧ vp = .func (.func 53) #[] #[] ∧ vg = .func (.func 55) #[] #[] ∧ vf = .func (.func 57) #[] #[] ∧ vd = .func (.func 58) #[] #[]) ∨
  (c = 82 ∧ vp = .func (.func 68) #[] #[] ∧ vg = .func (.func 70) #[] #[] ∧ vf = .func (.func 72) #[] #[] ∧ vd = .func (.func 73) #[] #[]) ∨
  (c = 65 ∧ vp = .func (.func 74) #[] #[] ∧ vg = .func (.func 76) #[] #[] ∧ vf = .func (.func 78) #[] #[] ∧ vd = .func (.func 79) #[] #[]) ∨
  (c = 71 ∧ vp = .func (.func 84) #[] #[] ∧ vg = .func (.func 87) #[] #[] ∧ vf = .func (.func 90) #[] #[] ∧ vd = .func (.func 92) #[] #[]) ∨
  (c = 68 ∧ vp = .func (.func 61) #[] #[] ∧ vg = .func (.func 63) #[] #[] ∧ vf = .func (.func 65) #[] #[] ∧ vd = .func (.func 67) #[] #[])
theorem FieldAt.kept {K : Nat → Prop} {w w' : World} {c : Nat} {vp vg vf vd : Value} (h : FieldAt K w c vp vg vf vd) (k : Kept K w w') : FieldAt K w' c vp vg vf vd := by
  rcases h with ⟨pf, i, top, pb, tb, hn, e1, e2, e3, e4, k1, k2, b1, b2⟩ | h
  · exact .inl ⟨pf, i, top, pb, tb, hn, e1, e2, e3, e4, k1, k2, k.row k1 b1, k.row k2 b2⟩
  · exact .inr h
theorem FieldAt.mono {K L : Nat → Prop} {w : World} {c : Nat} {vp vg vf vd : Value} (h : FieldAt K w c vp vg vf vd) (hL : ∀ i, i < w.heap.size → K i → L i) : FieldAt L w c vp vg vf vd := by
  rcases h with ⟨pf, i, top, pb, tb, hn, e1, e2, e3, e4, k1, k2, b1, b2⟩ | h
  · exact .inl ⟨pf, i, top, pb, tb, hn, e1, e2, e3, e4, hL pb (lt_of_row b1) k1, hL tb (lt_of_row b2) k2, b1, b2⟩
  · exact .inr h

/-- four functions, as a field is laid in a row -/
theorem cells_field : (Try.prog.info? 64).map (·.size) = some 4 := by kernel_rfl
/-- a number's four functions -/
def ncells (pb tb : Nat) : Array Value := #[.func (.func 95) #[] #[ptr pb], .func (.func 97) #[] #[ptr pb], .func (.func 99) #[] #[ptr pb, ptr tb], .func (.func 100) #[] #[ptr pb]]
theorem ncells_one (pb tb : Nat) : (ncells pb tb).all (·.oneCell') = true := by simp [ncells, Value.oneCell']


set_option maxHeartbeats 1000000 in
theorem numberField_any {c pf i : Nat} {top : Int} (hn : IsNum c pf i top) (w : World) :
    Calls Try.prog 51 #[.func (.func pf) #[] #[], .int .i64 top] w fun e w' => ∃ vp vg vf vd, e = .returned (.agg #[vp, vg, vf, vd]) ∧ FieldAt (fun i => w.heap.size ≤ i) w' c vp vg vf vd ∧ Ext w w' := by
  obtain ⟨w2, e2⟩ : ∃ w2, w2 = (w.alloc (.cells #[.func (.func pf) #[] #[]] 90)).alloc (.cells #[.int .i64 top] 3) := ⟨_, rfl⟩
  have X2 : Ext w w2 := by rw [e2]; exact ((Ext.refl w).alloc _).alloc _
  have s2 : w2.heap.size = w.heap.size + 1 + 1 := by rw [e2]; simp
  have b1 : w2.heap[w.heap.size]? = some (.cells #[.func (.func pf) #[] #[]] 90 (0, 0)) := by rw [e2]; exact heap_alloc2_old w _ _
  have b2 : w2.heap[w.heap.size + 1]? = some (.cells #[.int .i64 top] 3 (0, 0)) := by rw [e2]; exact heap_alloc2_new w _ _
  have G3 : Hid ((w2.alloc (.cells #[.nilFunc, .nilFunc, .nilFunc, .nilFunc] 64)).heap[w.heap.size + 1 + 1]? = some (.cells #[.nilFunc, .nilFunc, .nilFunc, .nilFunc] 64 (0, 0))) := by rw [← s2]; exact heap_alloc_new w2 _
  have SN : Hid ((w2.alloc (.cells #[.nilFunc, .nilFunc, .nilFunc, .nilFunc] 64)).setRow (w.heap.size + 1 + 1) (ncells w.heap.size (w.heap.size + 1)) = w2.alloc (.cells (ncells w.heap.size (w.heap.size + 1)) 64)) := by
    rw [← s2]; exact setRow_new w2 _ _ _ _
  have G4 : Hid ((w2.alloc (.cells (ncells w.heap.size (w.heap.size + 1)) 64)).heap[w.heap.size + 1 + 1]? = some (.cells (ncells w.heap.size (w.heap.size + 1)) 64 (0, 0))) := by rw [← s2]; exact heap_alloc_new w2 _
  have FIN : Hid (FieldAt (fun i => w.heap.size ≤ i) (w2.alloc (.cells (ncells w.heap.size (w.heap.size + 1)) 64)) c (.func (.func 95) #[] #[ptr w.heap.size]) (.func (.func 97) #[] #[ptr w.heap.size]) (.func (.func 99) #[] #[ptr w.heap.size, ptr (w.heap.size + 1)]) (.func (.func 100) #[] #[ptr w.heap.size]) ∧ Ext w (w2.alloc (.cells (ncells w.heap.size (w.heap.size + 1)) 64))) := by
    have X : Ext w2 (w2.alloc (.cells (ncells w.heap.size (w.heap.size + 1)) 64)) := (Ext.refl w2).alloc _
    exact ⟨.inl ⟨pf, i, top, _, _, hn, rfl, rfl, rfl, rfl, Nat.le_refl _, by show w.heap.size ≤ w.heap.size + 1; omega, X.row b1, X.row b2⟩, X2.trans X⟩
  have E2 := hid e2
  have ON := hid (ncells_one w.heap.size (w.heap.size + 1))
  clear hn e2 X2 s2 b1 b2
  go_enter Try.func51, Try.ntmps51
  go_wp2_with (rw [← E2.out]; refine wpList_store_row rfl 64 _ _ rfl (w.heap.size + 1 + 1) (ncells w.heap.size (w.heap.size + 1)) rfl rfl 64 #[.nilFunc, .nilFunc, .nilFunc, .nilFunc] G3.out cells_field rfl ON.out ?_; rw [SN.out])
  (try simp only [Exit.inBlock, Exit.then])
  refine bodyPost_ret (results_cell_row Try.results51 _ _ (w.heap.size + 1 + 1) 64 (ncells w.heap.size (w.heap.size + 1)) (0, 0) _ rfl G4.out Try.underlying64 rfl cells_field) rfl ?_
  exact ⟨_, _, _, _, rfl, FIN.1, FIN.2⟩

theorem FieldAt.one {K : Nat → Prop} {w : World} {c : Nat} {vp vg vf vd : Value} (h : FieldAt K w c vp vg vf vd) : (#[vp, vg, vf, vd] : Array Value).all (·.oneCell') = true := by
  rcases h with ⟨_, _, _, _, _, _, rfl, rfl, rfl, rfl, _⟩ | ⟨_, rfl, rfl, rfl, rfl⟩ | ⟨_, rfl, rfl, rfl, rfl⟩ | ⟨_, rfl, rfl, rfl, rfl⟩ | ⟨_, rfl, rfl, rfl, rfl⟩ | ⟨_, rfl, rfl, rfl, rfl⟩ <;> simp [Value.oneCell']

set_option maxHeartbeats 1000000 in
theorem make_from (w : World) : Calls Try.prog 44 #[] w fun e w' => ∃ vp vg vf vd, e = .returned (.agg #[vp, vg, vf, vd]) ∧ FieldAt (fun i => w.heap.size ≤ i) w' 70 vp vg vf vd ∧ Ext w w' := by
  have hn : IsNum 70 80 1 63 := (.inl ⟨rfl, rfl, rfl, rfl⟩)
  have C := hid (numberField_any hn (w.alloc (.cells #[.nilFunc, .nilFunc, .nilFunc, .nilFunc] 64)))
  clear hn
  go_enter Try.func44, Try.ntmps44
  go_wp2_with fail
  refine C.out.mono ?_
  rintro e w1 ⟨vp, vg, vf, vd, rfl, F1, X1⟩
  clear C
  have G1 := hid (X1.row (heap_alloc_new w (.cells #[.nilFunc, .nilFunc, .nilFunc, .nilFunc] 64)))
  have ON := hid F1.one
  have G2 : Hid ((w1.setRow w.heap.size #[vp, vg, vf, vd]).heap[w.heap.size]? = some (.cells #[vp, vg, vf, vd] 64 (0, 0))) := setRow_heap _ _ _ _ _ _ G1.out
  have FIN : Hid (FieldAt (fun i => w.heap.size ≤ i) (w1.setRow w.heap.size #[vp, vg, vf, vd]) 70 vp vg vf vd ∧ Ext w (w1.setRow w.heap.size #[vp, vg, vf, vd])) := by
    refine ⟨(F1.kept ((Kept.refl _ w1).setRow (by simp) _)).mono (fun i _ hi => by simp at hi; omega), ?_⟩
    exact (((Ext.refl w).alloc _).trans X1).setRow (Nat.le_refl _) _
  clear F1 X1
  go_wp2_with (refine wpList_store_row rfl 64 _ _ rfl w.heap.size #[vp, vg, vf, vd] rfl rfl 64 #[.nilFunc, .nilFunc, .nilFunc, .nilFunc] G1.out cells_field rfl ON.out ?_)
  (try simp only [Exit.inBlock, Exit.then])
  refine bodyPost_ret (results_cell_row Try.results44 _ _ w.heap.size 64 #[vp, vg, vf, vd] (0, 0) _ rfl G2.out Try.underlying64 rfl cells_field) rfl ?_
  exact ⟨_, _, _, _, rfl, FIN.1, FIN.2⟩

set_option maxHeartbeats 1000000 in
theorem make_layer (w : World) : Calls Try.prog 37 #[] w fun e w' => ∃ vp vg vf vd, e = .returned (.agg #[vp, vg, vf, vd]) ∧ FieldAt (fun i => w.heap.size ≤ i) w' 76 vp vg vf vd ∧ Ext w w' := by
  have hn : IsNum 76 52 2 7 := (.inr (.inl ⟨rfl, rfl, rfl, rfl⟩))
  have C := hid (numberField_any hn (w.alloc (.cells #[.nilFunc, .nilFunc, .nilFunc, .nilFunc] 64)))
  clear hn
  go_enter Try.func37, Try.ntmps37
  go_wp2_with fail
  refine C.out.mono ?_
  rintro e w1 ⟨vp, vg, vf, vd, rfl, F1, X1⟩
  clear C
  have G1 := hid (X1.row (heap_alloc_new w (.cells #[.nilFunc, .nilFunc, .nilFunc, .nilFunc] 64)))
  have ON := hid F1.one
  have G2 : Hid ((w1.setRow w.heap.size #[vp, vg, vf, vd]).heap[w.heap.size]? = some (.cells #[vp, vg, vf, vd] 64 (0, 0))) := setRow_heap _ _ _ _ _ _ G1.out
  have FIN : Hid (FieldAt (fun i => w.heap.size ≤ i) (w1.setRow w.heap.size #[vp, vg, vf, vd]) 76 vp vg vf vd ∧ Ext w (w1.setRow w.heap.size #[vp, vg, vf, vd])) := by
    refine ⟨(F1.kept ((Kept.refl _ w1).setRow (by simp) _)).mono (fun i _ hi => by simp at hi; omega), ?_⟩
    exact (((Ext.refl w).alloc _).trans X1).setRow (Nat.le_refl _) _
  clear F1 X1
  go_wp2_with (refine wpList_store_row rfl 64 _ _ rfl w.heap.size #[vp, vg, vf, vd] rfl rfl 64 #[.nilFunc, .nilFunc, .nilFunc, .nilFunc] G1.out cells_field rfl ON.out ?_)
  (try simp only [Exit.inBlock, Exit.then])
  refine bodyPost_ret (results_cell_row Try.results37 _ _ w.heap.size 64 #[vp, vg, vf, vd] (0, 0) _ rfl G2.out Try.underlying64 rfl cells_field) rfl ?_
  exact ⟨_, _, _, _, rfl, FIN.1, FIN.2⟩

set_option maxHeartbeats 1000000 in
theorem make_block (w : World) : Calls Try.prog 39 #[] w fun e w' => ∃ vp vg vf vd, e = .returned (.agg #[vp, vg, vf, vd]) ∧ FieldAt (fun i => w.heap.size ≤ i) w' 66 vp vg vf vd ∧ Ext w w' := by
  have hn : IsNum 66 59 4 16383 := (.inr (.inr (.inl ⟨rfl, rfl, rfl, rfl⟩)))
  have C := hid (numberField_any hn (w.alloc (.cells #[.nilFunc, .nilFunc, .nilFunc, .nilFunc] 64)))
  clear hn
  go_enter Try.func39, Try.ntmps39
  go_wp2_with fail
  refine C.out.mono ?_
  rintro e w1 ⟨vp, vg, vf, vd, rfl, F1, X1⟩
  clear C
  have G1 := hid (X1.row (heap_alloc_new w (.cells #[.nilFunc, .nilFunc, .nilFunc, .nilFunc] 64)))
  have ON := hid F1.one
  have G2 : Hid ((w1.setRow w.heap.size #[vp, vg, vf, vd]).heap[w.heap.size]? = some (.cells #[vp, vg, vf, vd] 64 (0, 0))) := setRow_heap _ _ _ _ _ _ G1.out
  have FIN : Hid (FieldAt (fun i => w.heap.size ≤ i) (w1.setRow w.heap.size #[vp, vg, vf, vd]) 66 vp vg vf vd ∧ Ext w (w1.setRow w.heap.size #[vp, vg, vf, vd])) := by
    refine ⟨(F1.kept ((Kept.refl _ w1).setRow (by simp) _)).mono (fun i _ hi => by simp at hi; omega), ?_⟩
    exact (((Ext.refl w).alloc _).trans X1).setRow (Nat.le_refl _) _
  clear F1 X1
  go_wp2_with (refine wpList_store_row rfl 64 _ _ rfl w.heap.size #[vp, vg, vf, vd] rfl rfl 64 #[.nilFunc, .nilFunc, .nilFunc, .nilFunc] G1.out cells_field rfl ON.out ?_)
  (try simp only [Exit.inBlock, Exit.then])
  refine bodyPost_ret (results_cell_row Try.results39 _ _ w.heap.size 64 #[vp, vg, vf, vd] (0, 0) _ rfl G2.out Try.underlying64 rfl cells_field) rfl ?_
  exact ⟨_, _, _, _, rfl, FIN.1, FIN.2⟩

set_option maxHeartbeats 1000000 in
theorem make_tick (w : World) : Calls Try.prog 40 #[] w fun e w' => ∃ vp vg vf vd, e = .returned (.agg #[vp, vg, vf, vd]) ∧ FieldAt (fun i => w.heap.size ≤ i) w' 84 vp vg vf vd ∧ Ext w w' := by
  have hn : IsNum 84 60 5 1099511627776 := (.inr (.inr (.inr (.inl ⟨rfl, rfl, rfl, rfl⟩))))
  have C := hid (numberField_any hn (w.alloc (.cells #[.nilFunc, .nilFunc, .nilFunc, .nilFunc] 64)))
  clear hn
  go_enter Try.func40, Try.ntmps40
  go_wp2_with fail
  refine C.out.mono ?_
  rintro e w1 ⟨vp, vg, vf, vd, rfl, F1, X1⟩
  clear C
  have G1 := hid (X1.row (heap_alloc_new w (.cells #[.nilFunc, .nilFunc, .nilFunc, .nilFunc] 64)))
  have ON := hid F1.one
  have G2 : Hid ((w1.setRow w.heap.size #[vp, vg, vf, vd]).heap[w.heap.size]? = some (.cells #[vp, vg, vf, vd] 64 (0, 0))) := setRow_heap _ _ _ _ _ _ G1.out
  have FIN : Hid (FieldAt (fun i => w.heap.size ≤ i) (w1.setRow w.heap.size #[vp, vg, vf, vd]) 84 vp vg vf vd ∧ Ext w (w1.setRow w.heap.size #[vp, vg, vf, vd])) := by
    refine ⟨(F1.kept ((Kept.refl _ w1).setRow (by simp) _)).mono (fun i _ hi => by simp at hi; omega), ?_⟩
    exact (((Ext.refl w).alloc _).trans X1).setRow (Nat.le_refl _) _
  clear F1 X1
  go_wp2_with (refine wpList_store_row rfl 64 _ _ rfl w.heap.size #[vp, vg, vf, vd] rfl rfl 64 #[.nilFunc, .nilFunc, .nilFunc, .nilFunc] G1.out cells_field rfl ON.out ?_)
  (try simp only [Exit.inBlock, Exit.then])
  refine bodyPost_ret (results_cell_row Try.results40 _ _ w.heap.size 64 #[vp, vg, vf, vd] (0, 0) _ rfl G2.out Try.underlying64 rfl cells_field) rfl ?_
  exact ⟨_, _, _, _, rfl, FIN.1, FIN.2⟩

set_option maxHeartbeats 1000000 in
theorem make_echo (w : World) : Calls Try.prog 46 #[] w fun e w' => ∃ vp vg vf vd, e = .returned (.agg #[vp, vg, vf, vd]) ∧ FieldAt (fun i => w.heap.size ≤ i) w' 69 vp vg vf vd ∧ Ext w w' := by
  have hn : IsNum 69 82 6 1099511627776 := (.inr (.inr (.inr (.inr (.inl ⟨rfl, rfl, rfl, rfl⟩)))))
  have C := hid (numberField_any hn (w.alloc (.cells #[.nilFunc, .nilFunc, .nilFunc, .nilFunc] 64)))
  clear hn
  go_enter Try.func46, Try.ntmps46
  go_wp2_with fail
  refine C.out.mono ?_
  rintro e w1 ⟨vp, vg, vf, vd, rfl, F1, X1⟩
  clear C
  have G1 := hid (X1.row (heap_alloc_new w (.cells #[.nilFunc, .nilFunc, .nilFunc, .nilFunc] 64)))
  have ON := hid F1.one
  have G2 : Hid ((w1.setRow w.heap.size #[vp, vg, vf, vd]).heap[w.heap.size]? = some (.cells #[vp, vg, vf, vd] 64 (0, 0))) := setRow_heap _ _ _ _ _ _ G1.out
  have FIN : Hid (FieldAt (fun i => w.heap.size ≤ i) (w1.setRow w.heap.size #[vp, vg, vf, vd]) 69 vp vg vf vd ∧ Ext w (w1.setRow w.heap.size #[vp, vg, vf, vd])) := by
    refine ⟨(F1.kept ((Kept.refl _ w1).setRow (by simp) _)).mono (fun i _ hi => by simp at hi; omega), ?_⟩
    exact (((Ext.refl w).alloc _).trans X1).setRow (Nat.le_refl _) _
  clear F1 X1
  go_wp2_with (refine wpList_store_row rfl 64 _ _ rfl w.heap.size #[vp, vg, vf, vd] rfl rfl 64 #[.nilFunc, .nilFunc, .nilFunc, .nilFunc] G1.out cells_field rfl ON.out ?_)
  (try simp only [Exit.inBlock, Exit.then])
  refine bodyPost_ret (results_cell_row Try.results46 _ _ w.heap.size 64 #[vp, vg, vf, vd] (0, 0) _ rfl G2.out Try.underlying64 rfl cells_field) rfl ?_
  exact ⟨_, _, _, _, rfl, FIN.1, FIN.2⟩

set_option maxHeartbeats 1000000 in
theorem make_level (w : World) : Calls Try.prog 45 #[] w fun e w' => ∃ vp vg vf vd, e = .returned (.agg #[vp, vg, vf, vd]) ∧ FieldAt (fun i => w.heap.size ≤ i) w' 86 vp vg vf vd ∧ Ext w w' := by
  have hn : IsNum 86 81 7 7 := (.inr (.inr (.inr (.inr (.inr (.inl ⟨rfl, rfl, rfl, rfl⟩))))))
  have C := hid (numberField_any hn (w.alloc (.cells #[.nilFunc, .nilFunc, .nilFunc, .nilFunc] 64)))
  clear hn
  go_enter Try.func45, Try.ntmps45
  go_wp2_with fail
  refine C.out.mono ?_
  rintro e w1 ⟨vp, vg, vf, vd, rfl, F1, X1⟩
  clear C
  have G1 := hid (X1.row (heap_alloc_new w (.cells #[.nilFunc, .nilFunc, .nilFunc, .nilFunc] 64)))
  have ON := hid F1.one
  have G2 : Hid ((w1.setRow w.heap.size #[vp, vg, vf, vd]).heap[w.heap.size]? = some (.cells #[vp, vg, vf, vd] 64 (0, 0))) := setRow_heap _ _ _ _ _ _ G1.out
  have FIN : Hid (FieldAt (fun i => w.heap.size ≤ i) (w1.setRow w.heap.size #[vp, vg, vf, vd]) 86 vp vg vf vd ∧ Ext w (w1.setRow w.heap.size #[vp, vg, vf, vd])) := by
    refine ⟨(F1.kept ((Kept.refl _ w1).setRow (by simp) _)).mono (fun i _ hi => by simp at hi; omega), ?_⟩
    exact (((Ext.refl w).alloc _).trans X1).setRow (Nat.le_refl _) _
  clear F1 X1
  go_wp2_with (refine wpList_store_row rfl 64 _ _ rfl w.heap.size #[vp, vg, vf, vd] rfl rfl 64 #[.nilFunc, .nilFunc, .nilFunc, .nilFunc] G1.out cells_field rfl ON.out ?_)
  (try simp only [Exit.inBlock, Exit.then])
  refine bodyPost_ret (results_cell_row Try.results45 _ _ w.heap.size 64 #[vp, vg, vf, vd] (0, 0) _ rfl G2.out Try.underlying64 rfl cells_field) rfl ?_
  exact ⟨_, _, _, _, rfl, FIN.1, FIN.2⟩

set_option maxHeartbeats 1000000 in
theorem make_n (w : World) : Calls Try.prog 47 #[] w fun e w' => ∃ vp vg vf vd, e = .returned (.agg #[vp, vg, vf, vd]) ∧ FieldAt (fun i => w.heap.size ≤ i) w' 78 vp vg vf vd ∧ Ext w w' := by
  have hn : IsNum 78 83 8 16384 := (.inr (.inr (.inr (.inr (.inr (.inr ⟨rfl, rfl, rfl, rfl⟩))))))
  have C := hid (numberField_any hn (w.alloc (.cells #[.nilFunc, .nilFunc, .nilFunc, .nilFunc] 64)))
  clear hn
  go_enter Try.func47, Try.ntmps47
  go_wp2_with fail
  refine C.out.mono ?_
  rintro e w1 ⟨vp, vg, vf, vd, rfl, F1, X1⟩
  clear C
  have G1 := hid (X1.row (heap_alloc_new w (.cells #[.nilFunc, .nilFunc, .nilFunc, .nilFunc] 64)))
  have ON := hid F1.one
  have G2 : Hid ((w1.setRow w.heap.size #[vp, vg, vf, vd]).heap[w.heap.size]? = some (.cells #[vp, vg, vf, vd] 64 (0, 0))) := setRow_heap _ _ _ _ _ _ G1.out
  have FIN : Hid (FieldAt (fun i => w.heap.size ≤ i) (w1.setRow w.heap.size #[vp, vg, vf, vd]) 78 vp vg vf vd ∧ Ext w (w1.setRow w.heap.size #[vp, vg, vf, vd])) := by
    refine ⟨(F1.kept ((Kept.refl _ w1).setRow (by simp) _)).mono (fun i _ hi => by simp at hi; omega), ?_⟩
    exact (((Ext.refl w).alloc _).trans X1).setRow (Nat.le_refl _) _
  clear F1 X1
  go_wp2_with (refine wpList_store_row rfl 64 _ _ rfl w.heap.size #[vp, vg, vf, vd] rfl rfl 64 #[.nilFunc, .nilFunc, .nilFunc, .nilFunc] G1.out cells_field rfl ON.out ?_)
  (try simp only [Exit.inBlock, Exit.then])
  refine bodyPost_ret (results_cell_row Try.results47 _ _ w.heap.size 64 #[vp, vg, vf, vd] (0, 0) _ rfl G2.out Try.underlying64 rfl cells_field) rfl ?_
  exact ⟨_, _, _, _, rfl, FIN.1, FIN.2⟩

def seqCells : Array Value := #[.func (.func 53) #[] #[], .func (.func 55) #[] #[], .func (.func 57) #[] #[], .func (.func 58) #[] #[]]
set_option maxHeartbeats 1000000 in
theorem make_seq (w : World) : Calls Try.prog 38 #[] w fun e w' => ∃ vp vg vf vd, e = .returned (.agg #[vp, vg, vf, vd]) ∧ FieldAt (fun i => w.heap.size ≤ i) w' 83 vp vg vf vd ∧ Ext w w' := by
  have G1 := hid (heap_alloc_new w (.cells #[.nilFunc, .nilFunc, .nilFunc, .nilFunc] 64))
  have SN : Hid ((w.alloc (.cells #[.nilFunc, .nilFunc, .nilFunc, .nilFunc] 64)).setRow w.heap.size seqCells = w.alloc (.cells seqCells 64)) := setRow_new w _ _ _ _
  have G2 : Hid ((w.alloc (.cells seqCells 64)).heap[w.heap.size]? = some (.cells seqCells 64 (0, 0))) := heap_alloc_new w _
  have ON : Hid (seqCells.all (·.oneCell') = true) := by simp [seqCells, Value.oneCell', Hid]
  have FIN : Hid (FieldAt (fun i => w.heap.size ≤ i) (w.alloc (.cells seqCells 64)) 83 (.func (.func 53) #[] #[]) (.func (.func 55) #[] #[]) (.func (.func 57) #[] #[]) (.func (.func 58) #[] #[]) ∧ Ext w (w.alloc (.cells seqCells 64))) :=
    ⟨(.inr (.inl ⟨rfl, rfl, rfl, rfl, rfl⟩)), (Ext.refl w).alloc _⟩
  go_enter Try.func38, Try.ntmps38
  go_wp2_with (refine wpList_store_row rfl 64 _ _ rfl w.heap.size seqCells rfl rfl 64 #[.nilFunc, .nilFunc, .nilFunc, .nilFunc] G1.out cells_field rfl ON.out ?_; rw [SN.out])
  (try simp only [Exit.inBlock, Exit.then])
  refine bodyPost_ret (results_cell_row Try.results38 _ _ w.heap.size 64 seqCells (0, 0) _ rfl G2.out Try.underlying64 rfl cells_field) rfl ?_
  exact ⟨_, _, _, _, rfl, FIN.1, FIN.2⟩

def rateCells : Array Value := #[.func (.func 68) #[] #[], .func (.func 70) #[] #[], .func (.func 72) #[] #[], .func (.func 73) #[] #[]]
set_option maxHeartbeats 1000000 in
theorem make_rate (w : World) : Calls Try.prog 42 #[] w fun e w' => ∃ vp vg vf vd, e = .returned (.agg #[vp, vg, vf, vd]) ∧ FieldAt (fun i => w.heap.size ≤ i) w' 82 vp vg vf vd ∧ Ext w w' := by
  have G1 := hid (heap_alloc_new w (.cells #[.nilFunc, .nilFunc, .nilFunc, .nilFunc] 64))
  have SN : Hid ((w.alloc (.cells #[.nilFunc, .nilFunc, .nilFunc, .nilFunc] 64)).setRow w.heap.size rateCells = w.alloc (.cells rateCells 64)) := setRow_new w _ _ _ _
  have G2 : Hid ((w.alloc (.cells rateCells 64)).heap[w.heap.size]? = some (.cells rateCells 64 (0, 0))) := heap_alloc_new w _
  have ON : Hid (rateCells.all (·.oneCell') = true) := by simp [rateCells, Value.oneCell', Hid]
  have FIN : Hid (FieldAt (fun i => w.heap.size ≤ i) (w.alloc (.cells rateCells 64)) 82 (.func (.func 68) #[] #[]) (.func (.func 70) #[] #[]) (.func (.func 72) #[] #[]) (.func (.func 73) #[] #[]) ∧ Ext w (w.alloc (.cells rateCells 64))) :=
    ⟨(.inr (.inr (.inl ⟨rfl, rfl, rfl, rfl, rfl⟩))), (Ext.refl w).alloc _⟩
  go_enter Try.func42, Try.ntmps42
  go_wp2_with (refine wpList_store_row rfl 64 _ _ rfl w.heap.size rateCells rfl rfl 64 #[.nilFunc, .nilFunc, .nilFunc, .nilFunc] G1.out cells_field rfl ON.out ?_; rw [SN.out])
  (try simp only [Exit.inBlock, Exit.then])
  refine bodyPost_ret (results_cell_row Try.results42 _ _ w.heap.size 64 rateCells (0, 0) _ rfl G2.out Try.underlying64 rfl cells_field) rfl ?_
  exact ⟨_, _, _, _, rfl, FIN.1, FIN.2⟩

def ratesCells : Array Value := #[.func (.func 74) #[] #[], .func (.func 76) #[] #[], .func (.func 78) #[] #[], .func (.func 79) #[] #[]]
set_option maxHeartbeats 1000000 in
theorem make_rates (w : World) : Calls Try.prog 43 #[] w fun e w' => ∃ vp vg vf vd, e = .returned (.agg #[vp, vg, vf, vd]) ∧ FieldAt (fun i => w.heap.size ≤ i) w' 65 vp vg vf vd ∧ Ext w w' := by
  have G1 := hid (heap_alloc_new w (.cells #[.nilFunc, .nilFunc, .nilFunc, .nilFunc] 64))
  have SN : Hid ((w.alloc (.cells #[.nilFunc, .nilFunc, .nilFunc, .nilFunc] 64)).setRow w.heap.size ratesCells = w.alloc (.cells ratesCells 64)) := setRow_new w _ _ _ _
  have G2 : Hid ((w.alloc (.cells ratesCells 64)).heap[w.heap.size]? = some (.cells ratesCells 64 (0, 0))) := heap_alloc_new w _
  have ON : Hid (ratesCells.all (·.oneCell') = true) := by simp [ratesCells, Value.oneCell', Hid]
  have FIN : Hid (FieldAt (fun i => w.heap.size ≤ i) (w.alloc (.cells ratesCells 64)) 65 (.func (.func 74) #[] #[]) (.func (.func 76) #[] #[]) (.func (.func 78) #[] #[]) (.func (.func 79) #[] #[]) ∧ Ext w (w.alloc (.cells ratesCells 64))) :=
    ⟨(.inr (.inr (.inr (.inl ⟨rfl, rfl, rfl, rfl, rfl⟩)))), (Ext.refl w).alloc _⟩
  go_enter Try.func43, Try.ntmps43
  go_wp2_with (refine wpList_store_row rfl 64 _ _ rfl w.heap.size ratesCells rfl rfl 64 #[.nilFunc, .nilFunc, .nilFunc, .nilFunc] G1.out cells_field rfl ON.out ?_; rw [SN.out])
  (try simp only [Exit.inBlock, Exit.then])
  refine bodyPost_ret (results_cell_row Try.results43 _ _ w.heap.size 64 ratesCells (0, 0) _ rfl G2.out Try.underlying64 rfl cells_field) rfl ?_
  exact ⟨_, _, _, _, rfl, FIN.1, FIN.2⟩

def rangesCells : Array Value := #[.func (.func 84) #[] #[], .func (.func 87) #[] #[], .func (.func 90) #[] #[], .func (.func 92) #[] #[]]
set_option maxHeartbeats 1000000 in
theorem make_ranges (w : World) : Calls Try.prog 48 #[] w fun e w' => ∃ vp vg vf vd, e = .returned (.agg #[vp, vg, vf, vd]) ∧ FieldAt (fun i => w.heap.size ≤ i) w' 71 vp vg vf vd ∧ Ext w w' := by
  have G1 := hid (heap_alloc_new w (.cells #[.nilFunc, .nilFunc, .nilFunc, .nilFunc] 64))
  have SN : Hid ((w.alloc (.cells #[.nilFunc, .nilFunc, .nilFunc, .nilFunc] 64)).setRow w.heap.size rangesCells = w.alloc (.cells rangesCells 64)) := setRow_new w _ _ _ _
  have G2 : Hid ((w.alloc (.cells rangesCells 64)).heap[w.heap.size]? = some (.cells rangesCells 64 (0, 0))) := heap_alloc_new w _
  have ON : Hid (rangesCells.all (·.oneCell') = true) := by simp [rangesCells, Value.oneCell', Hid]
  have FIN : Hid (FieldAt (fun i => w.heap.size ≤ i) (w.alloc (.cells rangesCells 64)) 71 (.func (.func 84) #[] #[]) (.func (.func 87) #[] #[]) (.func (.func 90) #[] #[]) (.func (.func 92) #[] #[]) ∧ Ext w (w.alloc (.cells rangesCells 64))) :=
    ⟨(.inr (.inr (.inr (.inr (.inl ⟨rfl, rfl, rfl, rfl, rfl⟩))))), (Ext.refl w).alloc _⟩
  go_enter Try.func48, Try.ntmps48
  go_wp2_with (refine wpList_store_row rfl 64 _ _ rfl w.heap.size rangesCells rfl rfl 64 #[.nilFunc, .nilFunc, .nilFunc, .nilFunc] G1.out cells_field rfl ON.out ?_; rw [SN.out])
  (try simp only [Exit.inBlock, Exit.then])
  refine bodyPost_ret (results_cell_row Try.results48 _ _ w.heap.size 64 rangesCells (0, 0) _ rfl G2.out Try.underlying64 rfl cells_field) rfl ?_
  exact ⟨_, _, _, _, rfl, FIN.1, FIN.2⟩

def dataCells : Array Value := #[.func (.func 61) #[] #[], .func (.func 63) #[] #[], .func (.func 65) #[] #[], .func (.func 67) #[] #[]]
set_option maxHeartbeats 1000000 in
theorem make_data (w : World) : Calls Try.prog 41 #[] w fun e w' => ∃ vp vg vf vd, e = .returned (.agg #[vp, vg, vf, vd]) ∧ FieldAt (fun i => w.heap.size ≤ i) w' 68 vp vg vf vd ∧ Ext w w' := by
  have G1 := hid (heap_alloc_new w (.cells #[.nilFunc, .nilFunc, .nilFunc, .nilFunc] 64))
  have SN : Hid ((w.alloc (.cells #[.nilFunc, .nilFunc, .nilFunc, .nilFunc] 64)).setRow w.heap.size dataCells = w.alloc (.cells dataCells 64)) := setRow_new w _ _ _ _
  have G2 : Hid ((w.alloc (.cells dataCells 64)).heap[w.heap.size]? = some (.cells dataCells 64 (0, 0))) := heap_alloc_new w _
  have ON : Hid (dataCells.all (·.oneCell') = true) := by simp [dataCells, Value.oneCell', Hid]
  have FIN : Hid (FieldAt (fun i => w.heap.size ≤ i) (w.alloc (.cells dataCells 64)) 68 (.func (.func 61) #[] #[]) (.func (.func 63) #[] #[]) (.func (.func 65) #[] #[]) (.func (.func 67) #[] #[]) ∧ Ext w (w.alloc (.cells dataCells 64))) :=
    ⟨(.inr (.inr (.inr (.inr (.inr ⟨rfl, rfl, rfl, rfl, rfl⟩))))), (Ext.refl w).alloc _⟩
  go_enter Try.func41, Try.ntmps41
  go_wp2_with (refine wpList_store_row rfl 64 _ _ rfl w.heap.size dataCells rfl rfl 64 #[.nilFunc, .nilFunc, .nilFunc, .nilFunc] G1.out cells_field rfl ON.out ?_; rw [SN.out])
  (try simp only [Exit.inBlock, Exit.then])
  refine bodyPost_ret (results_cell_row Try.results41 _ _ w.heap.size 64 dataCells (0, 0) _ rfl G2.out Try.underlying64 rfl cells_field) rfl ?_
  exact ⟨_, _, _, _, rfl, FIN.1, FIN.2⟩
end Go.Proofs.Ytlnjkjpllmfcaaa
