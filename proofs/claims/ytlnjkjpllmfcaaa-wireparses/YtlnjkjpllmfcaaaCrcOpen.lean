/-
  Walks of Open.
-/
import Derived.Test.YtlnjkjpllmfcaaaCrcSeal
namespace Go.Proofs.Ytlnjkjpllmfcaaa
set_option linter.unusedVariables false
open Go.RowKit Go.Lib

theorem eq_guard : Try.prog.eqGuardType Try.prog.depth 79 = false := by kernel_rfl

theorem byte_eq (a b : UInt8) : ((a.toNat : Int) == (b.toNat : Int)) = (a == b) := by
  rw [Bool.eq_iff_iff, beq_iff_eq, beq_iff_eq]
  constructor
  · intro h; exact UInt8.toNat_inj.1 (by omega)
  · intro h; rw [h]

/-- two arrays of four bytes, compared -/
theorem run_tail_eq_at (d : Nat) (w : World) (a0 a1 a2 a3 b0 b1 b2 b3 : UInt8) (he : ∀ a b, (Op.equalIn d 5 (bval a) (bval b)).run Try.prog w = .ok (a == b) w)
    (hp : ∀ (c0 c1 c2 c3 : UInt8) (i : Nat) (v : Value), #[bval c0, bval c1, bval c2, bval c3][i]? = some v → (part 5 #[bval c0, bval c1, bval c2, bval c3] i).run Try.prog w = .ok v w) :
    (Op.equalIn (d + 1) 79 (.agg #[bval a0, bval a1, bval a2, bval a3]) (.agg #[bval b0, bval b1, bval b2, bval b3])).run Try.prog w = .ok ([a0, a1, a2, a3] == [b0, b1, b2, b3]) w := by
  have hs : (sizeOf 5).run Try.prog w = .ok 1 w := by
    obtain ⟨i0, hi, hz0, hz1, hz2⟩ := info_parts info_byte
    simp [sizeOf, typeInfo, hi, hz1]
  have p0 := fun c0 c1 c2 c3 => hp c0 c1 c2 c3 0 _ rfl
  have p1 := fun c0 c1 c2 c3 => hp c0 c1 c2 c3 1 _ rfl
  have p2 := fun c0 c1 c2 c3 => hp c0 c1 c2 c3 2 _ rfl
  have p3 := fun c0 c1 c2 c3 => hp c0 c1 c2 c3 3 _ rfl
  simp only [Op.equalIn, Sem.run_bind, run_underlying Try.underlying79, Result.andThen_ok, hs]
  simp only [Std.Legacy.Range.forIn_eq_forIn_range', Std.Legacy.Range.size, Nat.sub_zero, Nat.add_sub_cancel, Nat.div_one, List.range', List.forIn_cons, List.forIn_nil, Nat.mul_one, Nat.zero_add]
  have e2 : (1 + 1 : Nat) = 2 := rfl
  have e3 : (1 + 1 + 1 : Nat) = 3 := rfl
  simp only [e2, e3, Sem.run_bind, p0, Result.andThen_ok, List.getElem_toArray, List.getElem_cons_zero, he]
  cases h0 : (a0 == b0) <;> cases h1 : (a1 == b1) <;> cases h2 : (a2 == b2) <;> cases h3 : (a3 == b3) <;> simp [h0, h1, h2, h3, p1, p2, p3, he, List.cons_beq_cons]

theorem run_tail_eq (w : World) (a b : List UInt8) (ha : a.length = 4) (hb : b.length = 4) :
    (Op.equalIn 10000 79 (.agg (bcells a).toArray) (.agg (bcells b).toArray)).run Try.prog w = .ok (a == b) w := by
  match a, ha, b, hb with
  | [a0, a1, a2, a3], _, [b0, b1, b2, b3], _ =>
    refine run_tail_eq_at 9999 w a0 a1 a2 a3 b0 b1 b2 b3 (fun a b => ?_) (fun c0 c1 c2 c3 i v h => ?_)
    · have := run_equalIn_int (P := Try.prog) w 9998 5 .u8 .u8 (a.toNat : Int) (b.toNat : Int) Try.underlying5
      rw [byte_eq] at this
      exact this
    · simp only [part, Sem.run_bind, show (isAgg 5).run Try.prog w = .ok false w by simp [isAgg, run_underlying Try.underlying5], Result.andThen_ok, Bool.false_eq_true, if_false, h]
      rfl

/-- a slice of bytes at a place -/
def BytesAt (w : World) (g o c : Nat) (l : List UInt8) : Prop := ∀ k, k < l.length → g < w.heap.size ∧ w.cell? ⟨g, o + k, none⟩ = some (.int .u8 ((l.getD k 0).toNat : Int))
theorem Bytes.at {w : World} {v : Value} {l : List UInt8} (h : Bytes w v l) (h0 : 0 < l.length) : ∃ g o c, v = .slice (some ⟨g, o, none⟩) l.length c ∧ l.length ≤ c ∧ c ≤ maxLen ∧ BytesAt w g o c l := by
  obtain ⟨ao, c, rfl, h1, h2, h3⟩ := h
  obtain ⟨g, o, ha, _⟩ := h3 0 h0
  subst ha
  refine ⟨g, o, c, rfl, h1, h2, fun k hk => ?_⟩
  obtain ⟨g', o', ha', hg, hc⟩ := h3 k hk
  cases ha'
  exact ⟨hg, hc⟩
theorem BytesAt.take {w : World} {g o c : Nat} {l : List UInt8} (h : BytesAt w g o c l) (m : Nat) (hm : m ≤ l.length) (hc : l.length ≤ c) (hx : c ≤ maxLen) : Bytes w (.slice (some ⟨g, o, none⟩) m c) (l.take m) := by
  have e : (l.take m).length = m := by rw [List.length_take]; omega
  refine ⟨_, c, by rw [e], by rw [e]; omega, hx, fun k hk => ?_⟩
  rw [e] at hk
  obtain ⟨hg, hcell⟩ := h k (by omega)
  refine ⟨g, o, rfl, hg, ?_⟩
  rw [hcell, List.getD_eq_getElem?_getD, List.getD_eq_getElem?_getD, List.getElem?_take_of_lt hk]
theorem BytesAt.drop {w : World} {g o c : Nat} {l : List UInt8} (h : BytesAt w g o c l) (m n : Nat) (hm : m + n = l.length) (hc : l.length ≤ c) (hx : c ≤ maxLen) : Bytes w (.slice (some ⟨g, o + m, none⟩) n (c - m)) (l.drop m) := by
  have e : (l.drop m).length = n := by rw [List.length_drop]; omega
  refine ⟨_, c - m, by rw [e], by rw [e]; omega, by omega, fun k hk => ?_⟩
  rw [e] at hk
  obtain ⟨hg, hcell⟩ := h (m + k) (by omega)
  refine ⟨g, o + m, rfl, hg, ?_⟩
  rw [Nat.add_assoc, hcell, List.getD_eq_getElem?_getD, List.getD_eq_getElem?_getD, List.getElem?_drop]

set_option maxHeartbeats 400000 in
theorem open_short (v : Value) (l : List UInt8) (w : World) (hv : Bytes w v l) (hl : l.length < 4) :
    Calls Try.prog 30 #[v] w fun e w' => e = .returned (.tuple #[.slice none 0 0, .bool false]) ∧ w' = w := by
  obtain ⟨ao, c, rfl, q1, q2, _⟩ := hv
  have i1 : (l.length : Int) < 4 := by omega
  unfold maxLen at q2
  go_enter Try.func30, Try.ntmps30
  go_wp2
  go_ret2
  exact ⟨rfl, rfl⟩

/-- a world that is w but for new memory -/
def Ever (w : World) : Type := { W : World // Ext w W }
def Ever.W {w : World} (n : Ever w) : World := n.1
theorem Ever.ok {w : World} (n : Ever w) : Ext w n.W := n.2
theorem Ever.some (w : World) : Nonempty (Ever w) := ⟨⟨w, Ext.refl w⟩⟩

/-- A region that draws its order and whose operations, each of one value, at most make new memory: one walk serves every order. -/
theorem wp_region_ext {P : Program} {id : Nat} {Q : Exit → Act → World → Prop} {a : Act} {w : World} {l : List Oper} (hm : P.follows .mixedOrders = true) (hB : Region.lexB .any l.toArray = true)
    (h : wpQuiet P l.toArray (fun w' => ∃ n : Ever w, w' = n.W) (fun a' => ∀ w', (∃ n : Ever w, w' = n.W) → Q .normal a' w') l a) : (Code.region id l.toArray true).wp P Q a w :=
  wp_region_quiet (C := fun w' => ∃ n : Ever w, w' = n.W) hm hB ⟨⟨_, Below.drew (Ext.refl w)⟩, rfl⟩ (by simpa using h)

/-- a whole block read in such a region -/
theorem quiet_load_row {P : Program} {o : Oper} {a : Act} {C : World → Prop} {K : Act → Prop} (ty : TypeId) (x : Operand) (ho : o.op = .load ty x)
    (g : Nat) (hx : a.eval x = .pointer (some ⟨g, 0, none⟩)) (t : TypeId) (cs : Array Value) (fr : Nat × Nat) (d : TypeDesc) (hg : ∀ w, C w → w.heap[g]? = some (.cells cs t fr))
    (hu : P.underlying ty = some d) (hd : (match d with | .struct _ | .array _ _ => true | _ => false) = true) (hi : (P.info? ty).map (·.size) = some cs.size)
    (h : K (a.put o.dst (.agg cs))) : o.quiet P a C K :=
  ⟨.agg cs, fun w hw => by
    unfold Oper.quietAt execOp
    simp only [ho, hx, Instr.loadAt, Instr.sureAddr, Sem.run_bind, Sem.run_pure, Result.andThen_ok, run_loadVar_row w g t ty cs fr d (hg w hw) hu hd hi]
    exact ⟨rfl, rfl⟩, h⟩

set_option maxHeartbeats 2000000 in
theorem open_long (g o m c : Nat) (l : List UInt8) (w : World) (hv : BytesAt w g o c l) (hl : l.length = m + 4) (hc : l.length ≤ c) (hx : c ≤ maxLen) (hm : m ≤ 100000) :
    Calls Try.prog 30 #[.slice (some ⟨g, o, none⟩) (m + 4) c] w fun e w' =>
      ((l.drop m == ctail (csum (l.take m))) = true ∧ ∃ r, e = .returned (.tuple #[.slice (some ⟨r, 0, none⟩) m m, .bool true]) ∧ w.heap.size ≤ r ∧ Row w' r (l.take m) ∧ Ext w w') ∨
      ((l.drop m == ctail (csum (l.take m))) = false ∧ e = .returned (.tuple #[.slice none 0 0, .bool false]) ∧ Ext w w') := by
  have BT := hid (hv.take m (by omega) hc hx)
  have BD := hid (hv.drop m 4 (by omega) hc hx)
  have tl : (l.take m).length = m := by rw [List.length_take]; omega
  have dl : (l.drop m).length = 4 := by rw [List.length_drop]; omega
  generalize l.take m = A at *
  generalize l.drop m = D at *
  have TL := hid tl
  have DL := hid dl
  have i1 : ¬ ((m : Int) + 4 < 4) := by omega
  have i2 : (0 : Int) ≤ (m : Int) := by omega
  have i3 : (m : Int) ≤ (m : Int) + 4 := by omega
  have i4 : (m : Int) ≤ (c : Int) := by omega
  have i5 : ¬ c = m := by omega
  have i6 : ¬ c = 0 := by omega
  have i7 : m + 4 - m = 4 := by omega
  unfold maxLen at hx
  have n1 : (w.alloc (.cells #[.int .u8 0, .int .u8 0, .int .u8 0, .int .u8 0] 79)).heap[w.heap.size]? = some (.cells #[.int .u8 0, .int .u8 0, .int .u8 0, .int .u8 0] 79 (0, 0)) := heap_alloc_new w _
  obtain ⟨w1, e1⟩ : ∃ w1, w1 = w.alloc (.cells #[.int .u8 0, .int .u8 0, .int .u8 0, .int .u8 0] 79) := ⟨_, rfl⟩
  have X1 : Hid (Ext w w1) := by rw [e1]; exact (Ext.refl w).alloc _
  rw [← e1] at n1
  have E1 := hid e1
  have SRC := hid (BD.out.ext X1.out).src
  have CL : Hid ((bcells D).length = 4) := by show _ = _; rw [bcells_length, dl]
  have ON := hid (bcells_one D)
  have N1 := hid n1
  obtain ⟨T, eT⟩ : ∃ T, T = bcells D := ⟨_, rfl⟩
  have ET := hid eT
  rw [← eT] at SRC CL ON
  clear tl dl hv hl hc e1 n1 eT
  go_enter Try.func30, Try.ntmps30
  go_wp2_with fail
  rw [← E1.out]
  go_region_law (refine step_copy_splice rfl (.tmp 12) (.tmp 15) 27 27 rfl 5 Try.underlying27 size_byte (some ⟨w.heap.size, 0, none⟩) (some ⟨g, o + m, none⟩) 4 4 4 (c - m) (by simp [Act.eval, Act.put]) (by simp [Act.eval, Act.put]) w.heap.size 0 [.int .u8 0, .int .u8 0, .int .u8 0, .int .u8 0] 79 N1.out T (by rw [CL.out]; rfl) (fun h0 => ⟨rfl, SRC.out.2 h0⟩) (by rw [CL.out]; simp) ON.out w.heap.size w (Below.drew X1.out) (Nat.le_refl _) ?_; intro w2 HG HB)
  have R2 : Hid (w2.heap[w.heap.size]? = some (.cells T.toArray 79 (0, 0))) := by
    have e : splice [.int .u8 0, .int .u8 0, .int .u8 0, .int .u8 0] 0 T = T := by
      unfold splice
      rw [List.take_zero, List.nil_append, List.drop_eq_nil_of_le (by rw [CL.out]; simp), List.append_nil]
    rw [e] at HG
    exact HG
  have X2 : Hid (Ext w w2) := HB
  have CT : Hid (∀ n : Ever w2, Calls Try.prog 35 #[.slice (some ⟨g, o, none⟩) m c] n.W fun e w' => e = .returned (.agg (tails (csum A))) ∧ Ext n.W w') := fun n => tailOf_any _ A _ ((BT.out.ext X2.out).ext n.ok)
  have R3 : Hid (∀ W, (∃ n : Ever w2, W = n.W) → W.heap[w.heap.size]? = some (.cells T.toArray 79 (0, 0))) := by
    rintro W ⟨n, rfl⟩
    exact n.ok.row R2.out
  obtain ⟨B, eB⟩ : ∃ B, B = (D == ctail (csum A)) := ⟨_, rfl⟩
  have EQ : ∀ W, (Op.equalIn 10000 79 (.agg T.toArray) (.agg (tails (csum A)))).run Try.prog W = .ok B W := by
    intro W
    rw [ET.out, tails_cells, eB]
    exact run_tail_eq W D (ctail (csum A)) DL.out rfl
  have EG := eq_guard
  have EB := hid eB
  clear eB
  have CS := hid (same_any (.slice (some ⟨g, o, none⟩) m c) A)
  clear HG HB N1 SRC ON E1 X1
  go_wp2_with fail
  refine wp_region_ext (by kernel_rfl) (by kernel_rfl) ?_
  have some := Ever.some w2
  go_big_quiet_want
  refine quiet_load_row 79 (.tmp 5) rfl w.heap.size rfl 79 T.toArray (0, 0) _ R3.out Try.underlying79 rfl (by rw [List.size_toArray, CL.out]; exact cells_tail) ?_
  simp [Act.put]
  go_big_quiet_on
  go_big_quiet_step (fail)
  go_big_quiet_step (fail)
  go_big_quiet_step (fail)
  go_big_quiet_step ((go_at_call 35; refine (CT.out _).mono ?_; rintro e w' ⟨rfl, Y⟩; exact ⟨rfl, ⟨_, (Ever.ok _).trans Y⟩, rfl⟩))
  go_big_quiet_step (fail)
  refine wpQuiet_nil ?_
  rintro w3 ⟨⟨_, x3⟩, rfl⟩
  have X3 := hid x3
  have XX := hid (X2.out.trans x3)
  clear x3 EQ EG some
  cases B with
  | false =>
    go_wp2_with fail
    go_ret2
    exact Or.inr ⟨EB.out.symm, rfl, XX.out⟩
  | true =>
    have cs := CS.out w3 (BT.out.ext XX.out) (by rw [TL.out]; exact hm)
    rw [TL.out] at cs
    have CC := hid cs
    clear cs
    go_wp2_with fail
    refine CC.out.mono ?_
    rintro e w4 ⟨rfl, R4, X4⟩
    have Y4 := hid (XX.out.trans X4)
    have R := hid R4
    clear X4 R4
    go_wp2_with fail
    go_ret2
    exact Or.inl ⟨EB.out.symm, w3.heap.size, rfl, XX.out.size, R.out, Y4.out⟩

theorem open_yes (v : Value) (l : List UInt8) (w : World) (hv : Bytes w v l) (hl : l.length ≤ 100000) (h : copens l = true) :
    Calls Try.prog 30 #[v] w fun e w' => ∃ r, e = .returned (.tuple #[.slice (some ⟨r, 0, none⟩) (l.length - 4) (l.length - 4), .bool true]) ∧ w.heap.size ≤ r ∧ Row w' r (l.take (l.length - 4)) ∧ Ext w w' := by
  have h4 : 4 ≤ l.length := by
    unfold copens at h
    rw [Bool.and_eq_true, decide_eq_true_eq] at h
    exact h.1
  obtain ⟨g, o, c, rfl, q1, q2, q3⟩ := hv.at (by omega)
  have hm : l.length = l.length - 4 + 4 := by omega
  have h2 : (l.drop (l.length - 4) == ctail (csum (l.take (l.length - 4)))) = true := by
    unfold copens at h
    rw [Bool.and_eq_true] at h
    exact h.2
  have c := open_long g o (l.length - 4) c l w q3 hm q1 q2 (by omega)
  rw [← hm] at c
  refine c.mono ?_
  rintro e w' (⟨_, k⟩ | ⟨k, _⟩)
  · exact k
  · rw [h2] at k; cases k

theorem open_no (v : Value) (l : List UInt8) (w : World) (hv : Bytes w v l) (hl : l.length ≤ 100000) (h : copens l = false) :
    Calls Try.prog 30 #[v] w fun e w' => e = .returned (.tuple #[.slice none 0 0, .bool false]) ∧ Ext w w' := by
  by_cases h4 : 4 ≤ l.length
  · obtain ⟨g, o, c, rfl, q1, q2, q3⟩ := hv.at (by omega)
    have hm : l.length = l.length - 4 + 4 := by omega
    have h2 : (l.drop (l.length - 4) == ctail (csum (l.take (l.length - 4)))) = false := by
      unfold copens at h
      rw [decide_eq_true h4, Bool.true_and] at h
      exact h
    have c := open_long g o (l.length - 4) c l w q3 hm q1 q2 (by omega)
    rw [← hm] at c
    refine c.mono ?_
    rintro e w' (⟨k, _⟩ | ⟨_, k⟩)
    · rw [h2] at k; cases k
    · exact k
  · refine (open_short v l w hv (by omega)).mono ?_
    rintro e w' ⟨rfl, rfl⟩
    exact ⟨rfl, Ext.refl _⟩
end Go.Proofs.Ytlnjkjpllmfcaaa
