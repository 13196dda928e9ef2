/-
  A walk of Seal.
-/
import Derived.Test.YtlnjkjpllmfcaaaCrcMem
namespace Go.Proofs.Ytlnjkjpllmfcaaa
set_option linter.unusedVariables false
open Go.RowKit Go.Lib

theorem make_bytes4 (n : Nat) (h : n ≤ 100000) (w : World) :
    (Instr.makeSlice 27 (.int .i64 ((n : Int) + 4)) (.int .i64 ((n : Int) + 4))).run Try.prog w = .ok (.slice (some ⟨w.heap.size, 0, none⟩) (n + 4) (n + 4)) (w.alloc (.cells (zeros (n + 4)).toArray 5)) :=
  make_bytes (n + 4) (by omega) w

theorem splice_two {α : Type} (Z X Y : List α) (k : Nat) (hk : X.length = k) (h : Z.length = k + Y.length) : splice (splice Z 0 X) k Y = X ++ Y := by
  subst hk
  unfold splice
  rw [List.take_zero, List.nil_append, Nat.zero_add, List.take_left, List.drop_eq_nil_of_le (by simp; omega), List.append_nil]

set_option maxHeartbeats 2000000 in
theorem seal_any (v : Value) (l : List UInt8) (w : World) (hv : Bytes w v l) (hl : l.length ≤ 100000) :
    Calls Try.prog 20 #[v] w fun e w' => ∃ g, e = .returned (.slice (some ⟨g, 0, none⟩) (l.length + 4) (l.length + 4)) ∧ w.heap.size ≤ g ∧ Row w' g (cseal l) ∧ Ext w w' := by
  have CT := hid (tailOf_any v l w hv)
  have HV := hid hv
  obtain ⟨ao, c, rfl, q1, q2, _⟩ := hv
  unfold maxLen at q2
  have CS : Hid (cseal l = l ++ ctail (csum l)) := rfl
  generalize csum l = s at CT CS
  have TO := tails_one s
  go_enter Try.func20, Try.ntmps20
  go_wp2_with fail
  refine CT.out.mono ?_
  rintro e w1 ⟨rfl, X1⟩
  clear CT
  have n1 : (w1.alloc (.cells #[.int .u8 0, .int .u8 0, .int .u8 0, .int .u8 0] 79)).heap[w1.heap.size]? = some (.cells #[.int .u8 0, .int .u8 0, .int .u8 0, .int .u8 0] 79 (0, 0)) := heap_alloc_new w1 _
  obtain ⟨w2, e2⟩ : ∃ w2, w2 = w1.alloc (.cells (tails s) 79) := ⟨_, rfl⟩
  have sw : Hid ((w1.alloc (.cells #[.int .u8 0, .int .u8 0, .int .u8 0, .int .u8 0] 79)).setRow w1.heap.size (tails s) = w2) := by rw [e2]; exact setRow_new w1 _ _ _ _
  have G1 : Hid (w2.heap[w1.heap.size]? = some (.cells (tails s) 79 (0, 0))) := by rw [e2]; exact heap_alloc_new w1 _
  have S2 : Hid (w2.heap.size = w1.heap.size + 1) := by show _ = _; rw [e2]; simp
  have X2 : Hid (Ext w w2) := by rw [e2]; exact X1.alloc _
  have mk := make_bytes4 l.length hl w2
  obtain ⟨w3, e3⟩ : ∃ w3, w3 = w2.alloc (.cells (zeros (l.length + 4)).toArray 5) := ⟨_, rfl⟩
  have G2 : Hid (w3.heap[w2.heap.size]? = some (.cells (zeros (l.length + 4)).toArray 5 (0, 0))) := by rw [e3]; exact heap_alloc_new w2 _
  have X3 : Hid (Ext w2 w3) := by rw [e3]; exact (Ext.refl w2).alloc _
  have ZL := hid (zeros_length (l.length + 4))
  have SRC := hid ((HV.out.ext X2.out).ext X3.out).src
  have CL := hid (bcells_length l)
  have ON := hid (bcells_one l)
  have CA := hid (bcells_append l (ctail s))
  have TC := hid (tails_cells s)
  have TL : Hid ((bcells (ctail s)).length = 4) := rfl
  have TN := hid (bcells_one (ctail s))
  rw [← e3] at mk
  generalize zeros (l.length + 4) = Z at *
  obtain ⟨F, eF⟩ : ∃ F, F = bcells (l ++ ctail s) := ⟨_, rfl⟩
  have EF : Hid (F = bcells (cseal l)) := by rw [CS.out]; exact eF
  rw [← eF] at CA
  clear eF
  generalize bcells l = B at *
  generalize bcells (ctail s) = T at *
  have C4 : ¬ l.length + 4 = l.length := by omega
  have C5 : l.length + 4 - l.length = 4 := by omega
  have i1 : (0 : Int) ≤ (l.length : Int) := by omega
  have i2 : (l.length : Int) ≤ (l.length : Int) + 4 := by omega
  have sz : w3.heap.size = w3.heap.size := rfl
  clear X1 e2 e3 sz HV
  go_wp2_with (first
    | (refine wpList_store_row rfl 79 _ _ rfl w1.heap.size (tails s) rfl rfl 79 #[.int .u8 0, .int .u8 0, .int .u8 0, .int .u8 0] n1 cells_tail rfl TO ?_; rw [sw.out])
    | (refine wpList_copy_splice rfl (.tmp 11) (.tmp 12) 27 27 rfl 5 Try.underlying27 size_byte _ _ _ _ _ _ rfl rfl w2.heap.size 0 Z 5 G2.out B (by rw [CL.out]; exact (Nat.min_eq_left (by omega)).symm) (fun h0 => ⟨rfl, SRC.out.2 h0⟩) (by rw [ZL.out, CL.out]; omega) ON.out w2.heap.size w3 (Below.refl _ _) (Nat.le_refl _) ?_; intro w4 HG HB))
  have GT : Hid (w4.heap[w1.heap.size]? = some (.cells T.toArray 79 (0, 0))) := by
    show _ = _
    rw [HB.block w1.heap.size (by rw [S2.out]; omega), X3.out.row G1.out, TC.out]
  have GC : Hid (∀ j v, T[j]? = some v → w4.cell? ((⟨w1.heap.size, 0, none⟩ : Addr).add j) = some v) := by
    intro j v hj
    rw [addr_on, Nat.zero_add, cell_of_row _ _ _ _ _ _ GT.out, List.getElem?_toArray]
    exact hj
  have SL : Hid ((splice Z 0 B).length = l.length + 4) := by
    show _ = _
    rw [length_splice _ _ _ (by rw [ZL.out, CL.out]; omega), ZL.out]
  have HH := hid HB
  clear HB mk n1 sw
  simp only [Act.put]
  go_region_law (refine step_copy_splice rfl (.tmp 17) (.tmp 18) 27 27 rfl 5 Try.underlying27 size_byte (some ⟨w2.heap.size, l.length, none⟩) (some ⟨w1.heap.size, 0, none⟩) 4 4 4 4 (by simp [Act.eval, Act.put]) (by simp [Act.eval, Act.put]) w2.heap.size l.length (splice Z 0 B) 5 HG.out T (by rw [TL.out]; rfl) (fun h0 => ⟨rfl, _, rfl, GC.out⟩) (by rw [SL.out, TL.out]; omega) TN.out w2.heap.size w3 (Below.drew HH.out) (Nat.le_refl _) ?_; intro w5 HG5 HB5)
  go_wp2_with fail
  go_ret
  have e5 : splice (splice Z 0 B) l.length T = F := by rw [CA.out]; exact splice_two Z B T l.length CL.out (by rw [ZL.out, TL.out])
  rw [e5, EF.out] at HG5
  exact ⟨w2.heap.size, rfl, X2.out.size, HG5.out, X2.out.trans (Below.trans X3.out HB5)⟩
end Go.Proofs.Ytlnjkjpllmfcaaa
