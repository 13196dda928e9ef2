/-
  Walks of come and On, whichever way.
-/
import Derived.Test.YtlglhggfhlpbjaaDetOne
namespace Go.Proofs.Ytlglhggfhlpbjaa.Det
set_option linter.unusedVariables false
set_option maxRecDepth 100000
open Go.RowKit Go.Lib Go.Proofs.Ytlglhggfhlpbjaa.His

/-- what a packet shows -/
def fnd (r : DS × Int × Bool × Bool) : Array Value := fcs r.2.1 r.2.2.1 r.2.2.2
theorem cnt_none {o : Int} (h : o ≤ 1048576) : cnt o 0 = o := by unfold cnt; rw [Int.add_zero, if_pos h]

theorem come_any (b h : Nat) (s : DS) (ly : Nat) (seq rtt : Int) (w : World) (d : DetV w b h s) (hly : ly < 8) (s0 : 0 ≤ seq) (s1 : seq < 4294967296) :
    Calls Try.prog 25 #[.pointer (some ⟨b, 0, none⟩), .int .i64 (ly : Int), .int .u32 seq, .int .i64 rtt] w fun e w' => e = .returned (.agg (fnd (don s ly seq s.2.2.2.2 rtt))) ∧ DetV w' b h (don s ly seq s.2.2.2.2 rtt).1 ∧ Kept (fun q => q ≠ b ∧ q ≠ h) w w' := by
  have x0 := (d.1.2.1 ly hly).1
  have o1 := d.1.2.2.1.1.2
  by_cases c1 : s.1.getD ly (-1) < 0 ∨ s.1.getD ly (-1) = seq ∨ 256 < Ser.fgap (s.1.getD ly (-1)) seq
  · have ed : don s ly seq s.2.2.2.2 rtt = ((s.1.set ly (aft seq), (cnt (cnt s.2.1.1 0) 1, s.2.1.2), s.2.2), 0, false, false) := by unfold don; rw [if_pos c1, cnt_none o1]
    have el : dlost (s.1.getD ly (-1)) seq = (0, true) := by unfold dlost; rw [if_pos c1]
    rw [ed]
    exact come_none b h s ly seq rtt w d hly s0 s1 el
  · by_cases c2 : Ser.fgap (s.1.getD ly (-1)) seq ≤ 0
    · have ed : don s ly seq s.2.2.2.2 rtt = (s, 0, false, false) := by unfold don; rw [if_neg c1, if_pos c2]
      have el : dlost (s.1.getD ly (-1)) seq = (0, false) := by unfold dlost; rw [if_neg c1, if_neg (by omega)]
      rw [ed]
      exact come_old b h s ly seq rtt w d hly s0 s1 el
    · have el : dlost (s.1.getD ly (-1)) seq = (Ser.fgap (s.1.getD ly (-1)) seq, true) := by unfold dlost; rw [if_neg c1, if_pos (by omega)]
      by_cases c3 : s.2.2.2.1 = false ∨ rtt < s.2.2.2.2 - s.2.2.1
      · have ed : don s ly seq s.2.2.2.2 rtt = ((s.1.set ly (aft seq), (cnt (cnt 0 (Ser.fgap (s.1.getD ly (-1)) seq)) 1, (s.2.1.1 :: s.2.1.2).take 8), s.2.2.2.2, true, s.2.2.2.2), Ser.fgap (s.1.getD ly (-1)) seq, true, decide (s.2.1.2.length = 0)) := by
          unfold don
          rw [if_neg c1, if_neg c2, if_pos c3]
          have e : ((s.2.1.2.length : Int) == 0) = decide (s.2.1.2.length = 0) := by
            by_cases q : s.2.1.2.length = 0
            · rw [q]; rfl
            · rw [decide_eq_false q, beq_eq_false_iff_ne]; omega
          rw [e]
        rw [ed]
        exact come_event b h s ly seq rtt w d hly s0 s1 (Ser.fgap (s.1.getD ly (-1)) seq) el (by omega) (by omega) (decide_eq_true c3)
      · have ed : don s ly seq s.2.2.2.2 rtt = ((s.1.set ly (aft seq), (cnt (cnt s.2.1.1 (Ser.fgap (s.1.getD ly (-1)) seq)) 1, s.2.1.2), s.2.2), Ser.fgap (s.1.getD ly (-1)) seq, false, false) := by unfold don; rw [if_neg c1, if_neg c2, if_neg c3]
        rw [ed]
        exact come_same b h s ly seq rtt w d hly s0 s1 (Ser.fgap (s.1.getD ly (-1)) seq) el (by omega) (by omega) (decide_eq_false c3)

/-- what On answers -/
def badOn (ly tick rtt : Int) : Prop := (ly < 0 ∨ 8 ≤ ly) ∨ (tick < 0 ∨ 1099511627776 < tick) ∨ (rtt < 0 ∨ 1099511627776 < rtt)
theorem results_cell_tmp1 {P : Program} {fn : Func} {p t : Tmp} {ty : TypeId} (h : fn.results = #[.cell p ty, .tmp t]) (tmps : Array Value) (w : World) (g : Nat) (tt : TypeId) (cs : Array Value) (fr : Nat × Nat) (d : TypeDesc)
    (hp : tmps.getD p undef = .pointer (some ⟨g, 0, none⟩)) (hg : w.heap[g]? = some (.cells cs tt fr))
    (hu : P.underlying ty = some d) (hd : (match d with | .struct _ | .array _ _ => true | _ => false) = true) (hi : (P.info? ty).map (·.size) = some cs.size) :
    (results fn tmps).run P w = .ok (.tuple #[.agg cs, tmps.getD t undef]) w := by
  have hp' : tmps[p]?.getD undef = .pointer (some ⟨g, 0, none⟩) := by simpa using hp
  simp [results, h, hp', asAddr, run_loadVar_row w g tt ty cs fr d hg hu hd hi]
theorem range_yes {n m : Int} (h0 : 0 ≤ n) (h1 : n ≤ m) : (decide (0 ≤ n) && decide (n ≤ m)) = true := by rw [decide_eq_true h0, decide_eq_true h1]; rfl
theorem range_no {n m : Int} (h : n < 0 ∨ m < n) : (decide (0 ≤ n) && decide (n ≤ m)) = false := by
  rcases h with h | h
  · rw [decide_eq_false (show ¬ 0 ≤ n by omega)]; rfl
  · rw [decide_eq_false (show ¬ n ≤ m by omega), Bool.and_false]
theorem layer_yes {n : Int} (h0 : 0 ≤ n) (h1 : n < 8) : (decide (0 ≤ n) && decide (n < 8)) = true := by rw [decide_eq_true h0, decide_eq_true h1]; rfl
theorem layer_no {n : Int} (h : n < 0 ∨ 8 ≤ n) : (decide (0 ≤ n) && decide (n < 8)) = false := by
  rcases h with h | h
  · rw [decide_eq_false (show ¬ 0 ≤ n by omega)]; rfl
  · rw [decide_eq_false (show ¬ n < 8 by omega), Bool.and_false]

set_option maxHeartbeats 1000000 in
theorem on_bad (b h : Nat) (s : DS) (ly seq tick rtt : Int) (w : World) (d : DetV w b h s) (bad : badOn ly tick rtt) :
    Calls Try.prog 13 #[.pointer (some ⟨b, 0, none⟩), .int .i64 ly, .int .u32 seq, .int .i64 tick, .int .i64 rtt] w fun e w' => e = .returned (.tuple #[.agg (fcs 0 false false), .int .i64 11]) ∧ Ext w w' := by
  obtain ⟨V0, e0⟩ : ∃ V0, V0 = w.alloc (.cells (fcs 0 false false) 40) := ⟨_, rfl⟩
  have X0 : Ext w V0 := by rw [e0]; exact (Ext.refl w).alloc _
  obtain ⟨bx, ebx⟩ : ∃ bx, bx = w.heap.size := ⟨_, rfl⟩
  have R0 : V0.heap[bx]? = some (.cells (fcs 0 false false) 40 (0, 0)) := by rw [e0, ebx]; exact heap_alloc_new w _
  have FIN : Hid ((V0.setRow bx (fcs 0 false false)).heap[bx]? = some (.cells (fcs 0 false false) 40 (0, 0)) ∧ Ext w (V0.setRow bx (fcs 0 false false))) := ⟨setRow_heap _ _ _ _ _ _ R0, X0.setRow (by omega) _⟩
  have RR := hid R0
  unfold fcs at e0
  have E0 := hid e0
  have EB := hid ebx
  have L := isLayer_any ly V0
  have T1 := isTick_any tick V0
  have T2 := isTick_any rtt V0
  clear e0 X0 ebx R0 d
  unfold badOn at bad
  by_cases q1 : ly < 0 ∨ 8 ≤ ly
  · rw [layer_no q1] at L
    have LL := hid L
    clear L T1 T2 bad
    go_enter Try.func13, Try.ntmps13
    go_wp2_with (first | rw [← EB.out, ← E0.out])
    refine LL.out.mono ?_
    rintro e w1 ⟨rfl, rfl⟩
    go_wp2_with (first | refine wpList_store_row rfl 40 _ _ rfl bx (fcs 0 false false) rfl rfl 40 _ RR.out size_fd rfl (fcs_one _ _ _) ?_)
    refine bodyPost_ret (results_cell_tmp1 Try.results13 _ _ bx 40 _ (0, 0) _ rfl FIN.out.1 Try.underlying40 rfl size_fd) rfl ?_
    exact ⟨rfl, FIN.out.2⟩
  rw [layer_yes (by omega) (by omega)] at L
  have LL := hid L
  by_cases q2 : tick < 0 ∨ 1099511627776 < tick
  · rw [range_no q2] at T1
    have TA := hid T1
    clear L T1 T2 bad
    go_enter Try.func13, Try.ntmps13
    go_wp2_with (first | rw [← EB.out, ← E0.out])
    refine LL.out.mono ?_
    rintro e w1 ⟨rfl, rfl⟩
    go_wp2_with (first | fail)
    refine TA.out.mono ?_
    rintro e w1 ⟨rfl, rfl⟩
    go_wp2_with (first | refine wpList_store_row rfl 40 _ _ rfl bx (fcs 0 false false) rfl rfl 40 _ RR.out size_fd rfl (fcs_one _ _ _) ?_)
    refine bodyPost_ret (results_cell_tmp1 Try.results13 _ _ bx 40 _ (0, 0) _ rfl FIN.out.1 Try.underlying40 rfl size_fd) rfl ?_
    exact ⟨rfl, FIN.out.2⟩
  · rw [range_yes (by omega) (by omega)] at T1
    have TA := hid T1
    rw [range_no (bad.resolve_left q1 |>.resolve_left q2)] at T2
    have TB := hid T2
    clear L T1 T2 bad q1 q2
    go_enter Try.func13, Try.ntmps13
    go_wp2_with (first | rw [← EB.out, ← E0.out])
    refine LL.out.mono ?_
    rintro e w1 ⟨rfl, rfl⟩
    go_wp2_with (first | fail)
    refine TA.out.mono ?_
    rintro e w1 ⟨rfl, rfl⟩
    go_wp2_with (first | fail)
    refine TB.out.mono ?_
    rintro e w1 ⟨rfl, rfl⟩
    go_wp2_with (first | refine wpList_store_row rfl 40 _ _ rfl bx (fcs 0 false false) rfl rfl 40 _ RR.out size_fd rfl (fcs_one _ _ _) ?_)
    refine bodyPost_ret (results_cell_tmp1 Try.results13 _ _ bx 40 _ (0, 0) _ rfl FIN.out.1 Try.underlying40 rfl size_fd) rfl ?_
    exact ⟨rfl, FIN.out.2⟩

set_option maxHeartbeats 1000000 in
theorem on_stale (b h : Nat) (s : DS) (ly seq tick rtt : Int) (w : World) (d : DetV w b h s) (bad : ¬ badOn ly tick rtt) (st : tick < s.2.2.2.2) :
    Calls Try.prog 13 #[.pointer (some ⟨b, 0, none⟩), .int .i64 ly, .int .u32 seq, .int .i64 tick, .int .i64 rtt] w fun e w' => e = .returned (.tuple #[.agg (fcs 0 false false), .int .i64 23]) ∧ Ext w w' := by
  obtain ⟨V0, e0⟩ : ∃ V0, V0 = w.alloc (.cells (fcs 0 false false) 40) := ⟨_, rfl⟩
  have X0 : Ext w V0 := by rw [e0]; exact (Ext.refl w).alloc _
  obtain ⟨bx, ebx⟩ : ∃ bx, bx = w.heap.size := ⟨_, rfl⟩
  have R0 : V0.heap[bx]? = some (.cells (fcs 0 false false) 40 (0, 0)) := by rw [e0, ebx]; exact heap_alloc_new w _
  have h19 := (d.ext X0).cell 19 _ rfl
  have FIN : Hid ((V0.setRow bx (fcs 0 false false)).heap[bx]? = some (.cells (fcs 0 false false) 40 (0, 0)) ∧ Ext w (V0.setRow bx (fcs 0 false false))) := ⟨setRow_heap _ _ _ _ _ _ R0, X0.setRow (by omega) _⟩
  have RR := hid R0
  unfold fcs at e0
  have E0 := hid e0
  have EB := hid ebx
  unfold badOn at bad
  have L := isLayer_any ly V0
  have T1 := isTick_any tick V0
  have T2 := isTick_any rtt V0
  rw [layer_yes (by omega) (by omega)] at L
  rw [range_yes (by omega) (by omega)] at T1 T2
  have LL := hid L
  have TA := hid T1
  have TB := hid T2
  clear e0 X0 ebx R0 d bad L T1 T2
  go_enter Try.func13, Try.ntmps13
  go_wp2_with (first | rw [← EB.out, ← E0.out])
  refine LL.out.mono ?_
  rintro e w1 ⟨rfl, rfl⟩
  go_wp2_with (first | fail)
  refine TA.out.mono ?_
  rintro e w1 ⟨rfl, rfl⟩
  go_wp2_with (first | fail)
  refine TB.out.mono ?_
  rintro e w1 ⟨rfl, rfl⟩
  go_wp2_with (first | refine wpList_store_row rfl 40 _ _ rfl bx (fcs 0 false false) rfl rfl 40 _ RR.out size_fd rfl (fcs_one _ _ _) ?_)
  refine bodyPost_ret (results_cell_tmp1 Try.results13 _ _ bx 40 _ (0, 0) _ rfl FIN.out.1 Try.underlying40 rfl size_fd) rfl ?_
  exact ⟨rfl, FIN.out.2⟩

set_option maxHeartbeats 1000000 in
theorem on_good (b h : Nat) (s : DS) (ly : Nat) (seq tick rtt : Int) (w : World) (d : DetV w b h s) (bad : ¬ badOn (ly : Int) tick rtt) (st : ¬ tick < s.2.2.2.2) (s0 : 0 ≤ seq) (s1 : seq < 4294967296) :
    Calls Try.prog 13 #[.pointer (some ⟨b, 0, none⟩), .int .i64 (ly : Int), .int .u32 seq, .int .i64 tick, .int .i64 rtt] w fun e w' => e = .returned (.tuple #[.agg (fnd (don s ly seq tick rtt)), .int .i64 0]) ∧ DetV w' b h (don s ly seq tick rtt).1 ∧ Kept (fun q => q ≠ b ∧ q ≠ h) w w' := by
  obtain ⟨V0, e0⟩ : ∃ V0, V0 = w.alloc (.cells (fcs 0 false false) 40) := ⟨_, rfl⟩
  have X0 : Ext w V0 := by rw [e0]; exact (Ext.refl w).alloc _
  obtain ⟨bx, ebx⟩ : ∃ bx, bx = w.heap.size := ⟨_, rfl⟩
  have R0 : V0.heap[bx]? = some (.cells (fcs 0 false false) 40 (0, 0)) := by rw [e0, ebx]; exact heap_alloc_new w _
  unfold badOn at bad
  have L := isLayer_any (ly : Int) V0
  have T1 := isTick_any tick V0
  have T2 := isTick_any rtt V0
  rw [layer_yes (by omega) (by omega)] at L
  rw [range_yes (by omega) (by omega)] at T1 T2
  have LL := hid L
  have TA := hid T1
  have TB := hid T2
  have D0 := d.ext X0
  have h19 := D0.cell 19 _ rfl
  have f19 := D0.free 19
  obtain ⟨V1, e1⟩ : ∃ V1, V1 = V0.setCell ⟨b, 19, none⟩ (.int .i64 tick) := ⟨_, rfl⟩
  have P1 := D0.put (s' := (s.1, s.2.1, s.2.2.1, s.2.2.2.1, tick)) 19 (.int .i64 tick) ⟨d.1.1, d.1.2.1, d.1.2.2.1, d.1.2.2.2.1, by show 0 ≤ tick; omega, by show tick ≤ _; omega⟩ rfl rfl
  rw [← e1] at P1
  have R1 := P1.2.row (show bx ≠ b by have := d.lt; omega) R0
  have K1 : Kept (fun q => q ≠ b ∧ q ≠ h) w V1 := (Kept.of_ext X0).trans (P1.2.mono fun _ hq => hq.1)
  have CA := come_any b h _ ly seq rtt V1 P1.1 (by omega) s0 s1
  simp only at CA
  have ed : don (s.1, s.2.1, s.2.2.1, s.2.2.2.1, tick) ly seq tick rtt = don s ly seq tick rtt := rfl
  rw [ed] at CA
  generalize don s ly seq tick rtt = R at *
  have FIN : Hid (∀ V2, Kept (fun q => q ≠ b ∧ q ≠ h) V1 V2 → DetV V2 b h R.1 → V2.heap[bx]? = some (.cells (fcs 0 false false) 40 (0, 0)) ∧ (V2.setRow bx (fnd R)).heap[bx]? = some (.cells (fnd R) 40 (0, 0)) ∧ DetV (V2.setRow bx (fnd R)) b h R.1 ∧ Kept (fun q => q ≠ b ∧ q ≠ h) w (V2.setRow bx (fnd R))) := fun V2 k2 d2 => by
    have r2 := k2.row (g := bx) (by have := d.lt; omega) R1
    have k : Kept (fun q => q ≠ bx) V2 (V2.setRow bx (fnd R)) := (Kept.refl _ V2).setRow (fun hne => hne rfl) _
    have kw := K1.trans k2
    refine ⟨r2, setRow_heap _ _ _ _ _ _ r2, d2.kept k (by have := d.lt; omega) (by have := d.lt; omega), ⟨k.1.1.trans kw.1.1, k.1.2.1.trans kw.1.2.1, k.1.2.2.1.trans kw.1.2.2.1, Nat.le_trans kw.size k.size⟩, fun i hi hq => ?_⟩
    rw [k.2 i (Nat.lt_of_lt_of_le hi kw.size) (by omega), kw.2 i hi hq]
  unfold fcs at e0
  have E0 := hid e0
  have EB := hid ebx
  have E1 := hid e1
  have CC := hid CA
  clear e0 X0 ebx e1 R0 R1 K1 P1 D0 d bad L T1 T2 CA ed
  go_enter Try.func13, Try.ntmps13
  go_wp2_with (first | rw [← EB.out, ← E0.out])
  refine LL.out.mono ?_
  rintro e w1 ⟨rfl, rfl⟩
  go_wp2_with (first | fail)
  refine TA.out.mono ?_
  rintro e w1 ⟨rfl, rfl⟩
  go_wp2_with (first | fail)
  refine TB.out.mono ?_
  rintro e w1 ⟨rfl, rfl⟩
  go_wp2_with (first | rw [← E1.out])
  refine CC.out.mono ?_
  rintro e V2 ⟨rfl, d2, k2⟩
  have F := hid (FIN.out V2 k2 d2)
  clear CC d2 k2 FIN
  go_wp2_with (refine wpList_store_row rfl 40 _ _ rfl bx (fnd R) rfl rfl 40 _ F.out.1 size_fd rfl (fcs_one _ _ _) ?_)
  refine bodyPost_ret (results_cell_tmp1 Try.results13 _ _ bx 40 _ (0, 0) _ rfl F.out.2.1 Try.underlying40 rfl size_fd) rfl ?_
  exact ⟨rfl, F.out.2.2⟩
end Go.Proofs.Ytlglhggfhlpbjaa.Det
