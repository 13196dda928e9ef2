/-
  A walk of the law's fixed answer.
-/
import Derived.Test.YtlnjkjpllmfcaaaWirePars
import Derived.Test.YtlnjkjpllmfcaaaWireRefR
namespace Go.Proofs.Ytlnjkjpllmfcaaa
set_option linter.unusedVariables false
set_option maxRecDepth 100000
open Go.RowKit Go.Lib

/-- End of 5 at the tick 1 -/
def p7 : Pk := (fun i => if i = 0 then 7 else if i = 5 then 1 else if i = 8 then 5 else 0, [], [], [])
theorem p7_right : right p7 = true := by decide
theorem p7_bnd : bnd p7 := by
  refine ⟨⟨by decide, by decide, by decide, by decide⟩, fun i h => ?_⟩
  have : i = 0 ∨ i = 1 ∨ i = 2 ∨ i = 3 ∨ i = 4 ∨ i = 5 ∨ i = 6 ∨ i = 7 ∨ i = 8 := by omega
  rcases this with rfl | rfl | rfl | rfl | rfl | rfl | rfl | rfl | rfl <;> decide
theorem p7_slim : slim p7 := by unfold slim; decide
theorem p7_len : (text p7).length = 17 := by decide
abbrev row7 : Array Value := #[.int .i64 7, .int .i64 0, .int .i64 0, .int .u32 0, .int .i64 0, .int .i64 1, .int .i64 0, .int .i64 0, .int .i64 5, .int .u64 0, .slice none 0 0, .slice none 0 0, .slice none 0 0]
theorem pval_7 (w : World) : PVal w (.agg row7) p7 := ⟨_, _, _, rfl, RowK.nil _ _ _, RowK.nil _ _ _, RowK.nil _ _ _⟩

theorem pparse_seal {p : Pk} (h : right p = true) (hf : fine p) : ∃ q, pparse (cseal (text p)) = (0, q) ∧ same q p := by
  obtain ⟨q, e, s⟩ := parse_text h hf
  refine ⟨q, ?_, s⟩
  have TL := text_length h
  unfold pparse
  rw [if_neg (by rw [cseal_length]; omega), copens_cseal, if_pos rfl, cseal_take]
  exact e
theorem pparse_nil : pparse [] = (21, pnone) := by
  unfold pparse
  rw [if_neg (by decide), show copens [] = false by decide]
  rfl
theorem right_pnone : right pnone = false := by decide

theorem Told.val {w w' : World} {e : Ending} {r : Int × Pk} (h : Told w w' e r) : ∃ A : Array Value, e = .returned (.tuple #[.agg A, .int .i64 r.1]) ∧ PVal w' (.agg A) r.2 ∧ Ext w w' ∧ A.size = 13 ∧ A.all (·.oneCell') = true := by
  obtain ⟨ra, rg, da, e1, pl, X⟩ := h
  exact ⟨_, e1, ⟨ra, rg, da, rfl, pl.mono (fun _ _ _ => trivial)⟩, X, rfl, prow_one pl⟩
theorem bnd_of_same {p q : Pk} (h : same p q) (hq : bnd q) : bnd p := by
  obtain ⟨⟨h0, h1, h2, h3, h4, h5, h6, h7, h8, h9⟩, _⟩ := h
  obtain ⟨⟨a, b, c, d⟩, e⟩ := hq
  refine ⟨⟨by rw [h3]; exact a, by rw [h3]; exact b, by rw [h9]; exact c, by rw [h9]; exact d⟩, fun i hi => ?_⟩
  have : i = 0 ∨ i = 1 ∨ i = 2 ∨ i = 3 ∨ i = 4 ∨ i = 5 ∨ i = 6 ∨ i = 7 ∨ i = 8 := by omega
  rcases this with rfl | rfl | rfl | rfl | rfl | rfl | rfl | rfl | rfl
  · rw [h0]; exact e 0 hi
  · rw [h1]; exact e 1 hi
  · rw [h2]; exact e 2 hi
  · rw [h3]; exact e 3 hi
  · rw [h4]; exact e 4 hi
  · rw [h5]; exact e 5 hi
  · rw [h6]; exact e 6 hi
  · rw [h7]; exact e 7 hi
  · rw [h8]; exact e 8 hi
theorem slim_of_same {p q : Pk} (h : same p q) (hq : slim q) : slim p := by
  obtain ⟨_, ha, hg, hd⟩ := h
  unfold slim
  rw [ha, hg, hd]
  exact hq

set_option maxHeartbeats 8000000 in
theorem awake7_any (w : World) : Calls Try.prog 9 #[] w fun e w' => e = .returned (.bool true) ∧ Ext w w' := by
  obtain ⟨w1, e1⟩ : ∃ w1, w1 = w.alloc (.cells row7 29) := ⟨_, rfl⟩
  have X1 : Ext w w1 := by rw [e1]; exact (Ext.refl w).alloc _
  have g1 : w1.heap[w.heap.size]? = some (.cells row7 29 (0, 0)) := by rw [e1]; exact heap_alloc_new w _
  have SN : Hid ((w.alloc (.cells zrow 29)).setRow w.heap.size row7 = w1) := by rw [e1]; exact setRow_new w _ _ _ _
  have GZ : Hid ((w.alloc (.cells zrow 29)).heap[w.heap.size]? = some (.cells zrow 29 (0, 0))) := heap_alloc_new w _
  have ON7 : Hid (row7.all (·.oneCell') = true) := by simp [Value.oneCell', Hid]
  have C1 := hid (bytes_yes w1 _ p7 (pval_7 w1) p7_bnd p7_slim p7_right)
  rw [p7_len] at C1
  have XX := hid X1
  have G1 := hid g1
  clear e1 X1 g1
  go_enter Try.func9, Try.ntmps9
  go_wp2_with (first
    | (refine wpList_store_row rfl 29 _ _ rfl w.heap.size row7 rfl rfl 29 zrow GZ.out cells_packet rfl ON7.out ?_; rw [SN.out])
    | refine wpList_load_row rfl 29 _ rfl w.heap.size rfl 29 row7 (0, 0) _ G1.out Try.underlying29 rfl cells_packet ?_)
  refine C1.out.mono ?_
  rintro e w2 ⟨g, rfl, hg, r2, X2⟩
  have bb := r2.bytes (by rw [cseal_length, p7_len]; omega)
  rw [cseal_length, p7_len] at bb
  have C2 := hid (parse_any w2 _ (cseal (text p7)) bb (by rw [cseal_length, p7_len]; omega))
  obtain ⟨q, eq, sq⟩ := pparse_seal p7_right p7_bnd.1
  rw [eq] at C2
  have G2 := hid (X2.row G1.out)
  have Y2 := hid (XX.out.trans X2)
  have SQ := hid sq
  clear C1 bb r2 X2 eq sq SN GZ G1 XX
  go_wp2_with fail
  refine C2.out.mono ?_
  intro e w3 told
  obtain ⟨A, rfl, vA, X3, zA, oA⟩ := told.val
  clear told C2
  obtain ⟨w4, e4⟩ : ∃ w4, w4 = w3.alloc (.cells A 29) := ⟨_, rfl⟩
  have SN4 : Hid ((w3.alloc (.cells zrow 29)).setRow w3.heap.size A = w4) := by rw [e4]; exact setRow_new w3 _ _ _ _
  have GZ4 : Hid ((w3.alloc (.cells zrow 29)).heap[w3.heap.size]? = some (.cells zrow 29 (0, 0))) := heap_alloc_new w3 _
  have X4 : Ext w3 w4 := by rw [e4]; exact (Ext.refl w3).alloc _
  have g4 : w4.heap[w3.heap.size]? = some (.cells A 29 (0, 0)) := by rw [e4]; exact heap_alloc_new w3 _
  have ZA : Hid ((Try.prog.info? 29).map (·.size) = some A.size) := by rw [zA]; exact cells_packet
  have ZB : Hid (zrow.size = A.size) := by rw [zA]; exact rfl
  have OA := hid oA
  have C3 := hid (parse_any w4 (.slice none 0 0) [] ⟨none, 0, rfl, Nat.le_refl _, Nat.zero_le _, fun k hk => by simp at hk⟩ (by simp))
  rw [pparse_nil] at C3
  have H4 := hid (And.intro g4 (And.intro ((X3.trans X4).row G2.out) (And.intro (Y2.out.trans (X3.trans X4)) (vA.ext X4))))
  clear e4 X4 g4 zA oA vA X3 G2 Y2
  go_wp2_with (refine wpList_store_row rfl 29 _ _ rfl w3.heap.size A rfl rfl 29 zrow GZ4.out ZA.out ZB.out OA.out ?_; rw [SN4.out])
  refine C3.out.mono ?_
  intro e w5 told
  obtain ⟨ra, rg, da, rfl, pl5, X5⟩ := told
  obtain ⟨w6, e6⟩ : ∃ w6, w6 = w5.alloc (.cells (prow pnone ra rg da) 29) := ⟨_, rfl⟩
  have SN6 : Hid ((w5.alloc (.cells zrow 29)).setRow w5.heap.size (prow pnone ra rg da) = w6) := by rw [e6]; exact setRow_new w5 _ _ _ _
  have GZ6 : Hid ((w5.alloc (.cells zrow 29)).heap[w5.heap.size]? = some (.cells zrow 29 (0, 0))) := heap_alloc_new w5 _
  have X6 : Ext w5 w6 := by rw [e6]; exact (Ext.refl w5).alloc _
  have ON6 := hid (prow_one pl5)
  have X56 := X5.trans X6
  have G6 := hid (X56.row H4.1)
  have P6 := hid (X56.row H4.2.1)
  have Y6 := hid (H4.2.2.1.trans X56)
  have SB : Hid (sameB q p7 = true) := (sameB_iff (bnd_of_same SQ.out p7_bnd) p7_bnd).2 SQ.out
  have C6 := hid (equal_any w6 (.agg A) (.agg row7) q p7 (H4.2.2.2.ext X56) (pval_7 w6) (slim_of_same SQ.out p7_slim))
  rw [SB.out] at C6
  clear C3 pl5 X5 X6 X56 e6
  go_wp2_with (first
    | (refine wpList_store_row rfl 29 _ _ rfl w5.heap.size (prow pnone ra rg da) rfl rfl 29 zrow GZ6.out cells_packet rfl ON6.out ?_; rw [SN6.out])
    | refine wpList_load_row_g rfl 29 (.tmp 4) rfl w3.heap.size rfl 29 A (0, 0) _ G6.out Try.underlying29 rfl ZA.out ?_
    | refine wpList_load_row_g rfl 29 (.tmp 1) rfl w.heap.size rfl 29 row7 (0, 0) _ P6.out Try.underlying29 rfl cells_packet ?_)
  refine C6.out.mono ?_
  rintro e w7 ⟨rfl, X7⟩
  have Y7 := hid (Y6.out.trans X7)
  have C7 := hid (right_any w7 (.agg zrow) pnone (pval_none w7) bnd_none ⟨by simp [pnone], by simp [pnone], by simp [pnone]⟩)
  rw [right_pnone] at C7
  clear C6 X7
  go_wp2_with fail
  refine C7.out.mono ?_
  rintro e w8 ⟨rfl, X8⟩
  have Y8 := hid (Y7.out.trans X8)
  clear C7 X8
  go_wp2_with fail
  go_ret
  exact ⟨rfl, Y8.out⟩
end Go.Proofs.Ytlnjkjpllmfcaaa
