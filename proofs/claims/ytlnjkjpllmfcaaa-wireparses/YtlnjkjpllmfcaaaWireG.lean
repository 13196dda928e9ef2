/-
  Walks of the reader's methods: bytes, numbers, pairs.
-/
import Derived.Test.YtlnjkjpllmfcaaaWireR
namespace Go.Proofs.Ytlnjkjpllmfcaaa
set_option linter.unusedVariables false
set_option maxRecDepth 100000
open Go.RowKit Go.Lib

theorem wrap_i64 (n : Nat) (h : n < 18446744073709551616) : wrap64 (n : Int) = i64 n := by unfold wrap64 i64; split <;> omega

set_option maxHeartbeats 400000 in
theorem octetR_any (K : Nat → Prop) (w : World) (g b : Nat) (l : List UInt8) (s : Bool) (h : Rd K w g b l s) :
    Calls Try.prog 49 #[.pointer (some ⟨g, 0, none⟩)] w fun e w' => e = .returned (.int .u8 ((took 1 (l, s)).1 : Int)) ∧ Rd K w' g b (took 1 (l, s)).2.1 (took 1 (l, s)).2.2 ∧ Kept K w w' := by
  have C := hid (take_any K w g b l s 1 h (by omega) (by omega))
  have hl := took_lt 1 (l, s)
  generalize (took 1 (l, s)).1 = x at *
  generalize (took 1 (l, s)).2.1 = y at *
  generalize (took 1 (l, s)).2.2 = z at *
  clear h
  go_enter Try.func49, Try.ntmps49
  go_wp2_with fail
  refine C.out.mono ?_
  rintro e w2 ⟨rfl, h2, k2⟩
  have R := hid (And.intro h2 k2)
  clear h2 k2 C
  go_wp2_with fail
  go_ret
  exact ⟨ret_int (by omega), R.1, R.2⟩

set_option maxHeartbeats 400000 in
theorem seqR_any (K : Nat → Prop) (w : World) (g b : Nat) (l : List UInt8) (s : Bool) (h : Rd K w g b l s) :
    Calls Try.prog 56 #[.pointer (some ⟨g, 0, none⟩)] w fun e w' => e = .returned (.int .u32 ((took 4 (l, s)).1 : Int)) ∧ Rd K w' g b (took 4 (l, s)).2.1 (took 4 (l, s)).2.2 ∧ Kept K w w' := by
  have C := hid (take_any K w g b l s 4 h (by omega) (by omega))
  have hl := took_lt 4 (l, s)
  generalize (took 4 (l, s)).1 = x at *
  generalize (took 4 (l, s)).2.1 = y at *
  generalize (took 4 (l, s)).2.2 = z at *
  clear h
  go_enter Try.func56, Try.ntmps56
  go_wp2_with fail
  refine C.out.mono ?_
  rintro e w2 ⟨rfl, h2, k2⟩
  have R := hid (And.intro h2 k2)
  clear h2 k2 C
  go_wp2_with fail
  go_ret
  exact ⟨ret_int (by omega), R.1, R.2⟩

set_option maxHeartbeats 400000 in
theorem rateR_any (K : Nat → Prop) (w : World) (g b : Nat) (l : List UInt8) (s : Bool) (h : Rd K w g b l s) :
    Calls Try.prog 71 #[.pointer (some ⟨g, 0, none⟩)] w fun e w' => e = .returned (.int .u64 ((took 8 (l, s)).1 : Int)) ∧ Rd K w' g b (took 8 (l, s)).2.1 (took 8 (l, s)).2.2 ∧ Kept K w w' := by
  have C := hid (take_any K w g b l s 8 h (by omega) (by omega))
  generalize (took 8 (l, s)).1 = x at *
  generalize (took 8 (l, s)).2.1 = y at *
  generalize (took 8 (l, s)).2.2 = z at *
  clear h
  go_enter Try.func71, Try.ntmps71
  go_wp2_with fail
  refine C.out.mono ?_
  rintro e w2 ⟨rfl, h2, k2⟩
  have R := hid (And.intro h2 k2)
  clear h2 k2 C
  go_wp2_with fail
  go_ret
  exact ⟨rfl, R.1, R.2⟩

set_option maxHeartbeats 400000 in
theorem numberR_any (K : Nat → Prop) (w : World) (g b : Nat) (l : List UInt8) (s : Bool) (h : Rd K w g b l s) :
    Calls Try.prog 98 #[.pointer (some ⟨g, 0, none⟩)] w fun e w' => e = .returned (.int .i64 (i64 (took 8 (l, s)).1)) ∧ Rd K w' g b (took 8 (l, s)).2.1 (took 8 (l, s)).2.2 ∧ Kept K w w' := by
  have C := hid (take_any K w g b l s 8 h (by omega) (by omega))
  have W := hid (wrap_i64 _ (took_lt 8 (l, s)))
  generalize (took 8 (l, s)).1 = x at *
  generalize (took 8 (l, s)).2.1 = y at *
  generalize (took 8 (l, s)).2.2 = z at *
  clear h
  go_enter Try.func98, Try.ntmps98
  go_wp2_with fail
  refine C.out.mono ?_
  rintro e w2 ⟨rfl, h2, k2⟩
  have R := hid (And.intro h2 k2)
  clear h2 k2 C
  go_wp2_with fail
  go_ret
  exact ⟨ret_int W.out, R.1, R.2⟩

/-- two numbers, one behind the other -/
def pairOf (x : List UInt8 × Bool) : (Int × Int) × List UInt8 × Bool := ((i64 (took 8 x).1, i64 (took 8 (took 8 x).2).1), (took 8 (took 8 x).2).2)

theorem cells_two : (Try.prog.info? 53).map (·.size) = some 2 := by kernel_rfl

theorem two_set (w : World) (g : Nat) (x y a c : Value) (t : TypeId) (h : w.heap[g]? = some (.cells #[x, y] t (0, 0))) : (w.setCell ⟨g, 0, none⟩ a).setCell ⟨g, 1, none⟩ c = w.setRow g #[a, c] := by
  rw [setCell_eq_setRow _ _ _ _ _ _ _ h, setCell_eq_setRow _ _ _ _ _ _ _ (setRow_heap _ _ _ _ _ _ h), setRow_setRow]
  rfl

set_option maxHeartbeats 1000000 in
theorem pairR_any (K : Nat → Prop) (w : World) (g b : Nat) (l : List UInt8) (s : Bool) (h : Rd K w g b l s) :
    Calls Try.prog 89 #[.pointer (some ⟨g, 0, none⟩)] w fun e w' => e = .returned (.agg #[.int .i64 (pairOf (l, s)).1.1, .int .i64 (pairOf (l, s)).1.2]) ∧ Rd K w' g b (pairOf (l, s)).2.1 (pairOf (l, s)).2.2 ∧ Kept K w w' := by
  obtain ⟨w1, e1⟩ : ∃ w1, w1 = w.alloc (.cells #[.int .i64 0, .int .i64 0] 53) := ⟨_, rfl⟩
  have X1 : Ext w w1 := by rw [e1]; exact (Ext.refl w).alloc _
  have hb : w1.heap[w.heap.size]? = some (.cells #[.int .i64 0, .int .i64 0] 53 (0, 0)) := by rw [e1]; exact heap_alloc_new w _
  have E1 := hid e1
  have p := h.parts
  have gl := h.lt
  have R1 : Rd (fun i => K i ∨ i = w.heap.size) w1 g b l s := ((h.other (Kept.of_ext X1) (by rw [X1.row (Array.getElem?_eq_getElem gl), Array.getElem?_eq_getElem gl]))).more (fun i hi => .inl hi) (fun hh => hh.elim p.2.1 (by omega)) (fun i hi => by
    have := X1.size
    rcases hi with hi | hi
    · have := p.2.2 i hi; omega
    · rw [hi]; exact lt_of_row hb)
  have C := hid (numberR_any _ w1 g b l s R1)
  have HB := hid hb
  have XX := hid X1
  have PB := hid p
  have N0 : Hid (¬ K w.heap.size) := fun hh => by have := p.2.2 _ hh; omega
  have P1 : Hid ((pairOf (l, s)).1.1 = i64 (took 8 (l, s)).1) := rfl
  have P2 : Hid ((pairOf (l, s)).1.2 = i64 (took 8 (took 8 (l, s)).2).1) := rfl
  have P3 : Hid ((pairOf (l, s)).2 = (took 8 (took 8 (l, s)).2).2) := rfl
  clear h R1 hb X1 e1 p
  generalize took 8 (l, s) = T1 at *
  generalize pairOf (l, s) = PP at *
  obtain ⟨x1, l1, s1⟩ := T1
  obtain ⟨⟨px, py⟩, pl, ps⟩ := PP
  go_enter Try.func89, Try.ntmps89
  go_wp2_with fail
  rw [← E1.out]
  refine C.out.mono ?_
  rintro e w2 ⟨rfl, h2, k2⟩
  have C2 := hid (numberR_any _ w2 g b l1 s1 h2)
  have K2 := hid k2
  clear h2 k2 C
  generalize took 8 (l1, s1) = T2 at *
  obtain ⟨x2, l2, s2⟩ := T2
  go_wp2_with fail
  refine C2.out.mono ?_
  rintro e w3 ⟨rfl, h3, k3⟩
  have g3 := k3.row (.inr rfl) (K2.out.row (.inr rfl) HB.out)
  have f3 : w3.frozen? ⟨w.heap.size, 0, none⟩ = false := frozen_of_row _ _ _ _ _ g3
  have f4 : w3.frozen? ⟨w.heap.size, 1, none⟩ = false := frozen_of_row _ _ _ _ _ g3
  have c3 : w3.cell? ⟨w.heap.size, 0, none⟩ = some (.int .i64 0) := by rw [cell_of_row _ _ _ _ _ _ g3]; rfl
  have c4 : w3.cell? ⟨w.heap.size, 1, none⟩ = some (.int .i64 0) := by rw [cell_of_row _ _ _ _ _ _ g3]; rfl
  have G3 := hid g3
  have R3 := hid h3
  have K3 := hid k3
  clear h3 k3 C2
  obtain ⟨rfl, rfl⟩ : px = i64 x1 ∧ py = i64 x2 := ⟨P1.out, P2.out⟩
  obtain ⟨rfl, rfl⟩ : pl = l2 ∧ ps = s2 := by have := P3.out; simpa using this
  clear P1 P2 P3
  have R4 : Hid ((w3.setRow w.heap.size #[.int .i64 (i64 x1), .int .i64 (i64 x2)]).heap[w.heap.size]? = some (.cells #[.int .i64 (i64 x1), .int .i64 (i64 x2)] 53 (0, 0))) := setRow_heap _ _ _ _ _ _ g3
  have KR : Hid (Kept K w (w3.setRow w.heap.size #[.int .i64 (i64 x1), .int .i64 (i64 x2)])) := ((Kept.of_ext XX.out).trans ((K2.out.trans K3.out).mono (fun i hi => .inl hi))).setRow N0.out _
  have RR : Hid (Rd K (w3.setRow w.heap.size #[.int .i64 (i64 x1), .int .i64 (i64 x2)]) g b pl ps) :=
    (R3.out.less (L := K) (fun i hi => .inl hi) PB.1).other ((Kept.refl K w3).setRow N0.out _) (setRow_other _ _ _ _ (by omega))
  clear g3
  go_wp2_with fail
  rw [two_set _ _ _ _ _ _ _ G3.out]
  (try simp only [Exit.inBlock, Exit.then])
  refine bodyPost_ret (results_cell_row Try.results89 _ _ w.heap.size 53 #[.int .i64 (i64 x1), .int .i64 (i64 x2)] (0, 0) _ rfl R4.out Try.underlying53 rfl cells_two) rfl ?_
  exact ⟨rfl, RR.out, KR.out⟩
end Go.Proofs.Ytlnjkjpllmfcaaa
