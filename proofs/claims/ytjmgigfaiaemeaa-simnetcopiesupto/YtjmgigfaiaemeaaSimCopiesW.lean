/-
  The walk of SimnetCopies: a copy of a net goes on as the net would, by itself.
-/
import Derived.Test.YtjmgigfaiaemeaaSimCopM
import Derived.Test.YtjmgigfaiaemeaaSimAwake
import Derived.Test.YtjmgigfaiaemeaaMNew
import Derived.Test.YtjmgigfaiaemeaaMOpen
namespace Go.Proofs.Ytjmgigfaiaemeaa.simnetCopies
set_option linter.unusedVariables false
set_option maxRecDepth 100000
open Go.RowKit Go.Lib Go.Shelf Go.Proofs.Ytjmgigfaiaemeaa.Sim Go.Proofs.Ytjmgigfaiaemeaa.Crc Go.Proofs.Ytjmgigfaiaemeaa.Grp
open Go.Proofs.Ytjmgigfaiaemeaa.Pip hiding NewR
attribute [local go_sem] Oper.semAt_some

theorem made_nils (n : Nat) : madeCells #[.slice none 0 0] (n + 1) = Array.replicate (n + 1) (.slice none 0 0) := by
  unfold madeCells
  apply Array.ext
  · simp
  · intro i h1 h2
    simp
    rw [Nat.mod_one]
    rfl
theorem make_lists (n : Nat) (hn : n ≤ 64) (w : World) : (Instr.makeSlice 35 (.int .i64 ((n : Int) + 1)) (.int .i64 ((n : Int) + 1))).run Try.prog w = .ok (.slice (some ⟨w.heap.size, 0, none⟩) (n + 1) (n + 1)) (w.alloc (.cells (Array.replicate (n + 1) (.slice none 0 0)) 78)) := by
  have h := run_make_row' (P := Try.prog) 35 78 (.slice none 0 0) 24 Try.underlying35 (by kernel_rfl) rfl .i64 .i64 (n + 1) (by omega) (by omega) w
  rw [made_nils] at h
  exact h
theorem lists_made (n : Nat) (hn : n ≤ 64) (W : World) (g : Nat) (h : W.heap[g]? = some (.cells (Array.replicate (n + 1) (.slice none 0 0)) 78 (0, 0))) : ListsK (fun q => q = g) W (.slice (some ⟨g, 0, none⟩) (n + 1) (n + 1)) (st0 n).1 := by
  have len : (fcells senc (List.replicate (n + 1) ((none, 0, 0) : Sl))).length = n + 1 := by rw [fcells_length encS]; simp
  refine ⟨List.replicate (n + 1) (none, 0, 0), by simp [st0], ⟨_, _, _, rfl, by rw [len, Nat.mul_one], Nat.le_refl _, by unfold maxLen; omega, fun _ => ⟨g, 0, rfl, rfl, fun j u hu => ?_⟩⟩, fun i x hx => ?_⟩
  · rw [Nat.zero_add, cell_of_row _ _ j _ _ _ h]
    have hj := (List.getElem?_eq_some_iff.1 hu).1
    rw [len] at hj
    have hv : (List.flatMap senc (List.replicate (n + 1) ((none, 0, 0) : Sl)))[j]? = some (sval (none, 0, 0)) := fcells_at1 _ j _ (by rw [List.getElem?_replicate, if_pos hj])
    have e : u = sval (none, 0, 0) := by
      have h2 : (fcells senc (List.replicate (n + 1) ((none, 0, 0) : Sl)))[j]? = some (sval (none, 0, 0)) := hv
      rw [h2] at hu
      exact (Option.some.inj hu).symm
    rw [e, Array.getElem?_replicate, if_pos hj]
    rfl
  · have hi := (List.getElem?_eq_some_iff.1 hx).1
    have hi2 : i < n + 1 := by simpa [st0] using hi
    have ex : x = [] := by
      simp only [st0, List.getElem?_replicate, if_pos hi2, Option.some.injEq] at hx
      exact hx.symm
    subst ex
    exact ⟨(none, 0, 0), by rw [List.getElem?_replicate, if_pos hi2], none, 0, 0, rfl, rfl, Nat.le_refl _, Nat.zero_le _, fun h => absurd h (Nat.lt_irrefl 0)⟩

theorem bytes_rowK {w : World} {v : Value} {l : List UInt8} (h : Bytes w v l) : RowK (fun q => q < w.heap.size) w v 1 (bcells l) := by
  obtain ⟨ao, c, rfl, q2, q3, q4⟩ := h
  refine ⟨ao, _, c, rfl, by rw [bcells_length, Nat.mul_one], q2, q3, fun h0 => ?_⟩
  obtain ⟨g, o, ea, gl, _⟩ := q4 0 h0
  refine ⟨g, o, ea, gl, fun j u hu => ?_⟩
  have hj : j < l.length := by have := (List.getElem?_eq_some_iff.1 hu).1; rwa [bcells_length] at this
  obtain ⟨g', o', ea', _, hc⟩ := q4 j hj
  rw [ea] at ea'
  simp only [Option.some.injEq, Addr.mk.injEq] at ea'
  obtain ⟨rfl, rfl, _⟩ := ea'
  rw [hc, ← bcells_at l j hj, hu]
theorem side_one {K E : Nat → Prop} {w : World} {cs : Array Value} {b : Nat} {bs : Nat → Nat} {c : Cfg} {fs : List (Int × Int)} {k : Nat} {now : Int} (h : Side K E w cs b bs c fs k now) : cs.all (·.oneCell') = true ∧ cs.size = 15 := by
  obtain ⟨_, l, x, av, lv, fv, rfl, h1, h2, h3, h4, _⟩ := h
  exact ⟨mcs_one c av lv fv _ _ (by obtain ⟨_, _, _, e⟩ := row_slice h2; rw [e]; rfl) (by obtain ⟨_, _, _, e⟩ := lists_slice h3; rw [e]; rfl) (by obtain ⟨_, _, _, e⟩ := row_slice h4; rw [e]; rfl), rfl⟩

set_option maxHeartbeats 4000000 in
theorem walk0 (c : Cfg) (fv : Value) (fs : List (Int × Int)) (ov : Value) (l : List OpS) (mv : Value) (lm : List OpS) (w : World) (hF : FatesIn w fv fs) (hO : CallsIn_ w ov l) (hl : l.length ≤ 1048576) (ht : ∀ o ∈ l, o.2.2.2.2.2.1 ≤ 1048576) (hM : CallsIn_ w mv lm) (hlm : lm.length ≤ 1048576) (htm : ∀ o ∈ lm, o.2.2.2.2.2.1 ≤ 1048576) :
    Calls Try.prog 4 #[.agg #[.int .i64 c.1, .int .i64 c.2.1, .int .i64 c.2.2.1, .int .i64 c.2.2.2.1, .int .i64 c.2.2.2.2, fv, ov], mv] w fun e w' => e = .returned (.bool true) ∧ Ext w w' := by
  have AW := hid (fun W => awake_any W)
  obtain ⟨hF, hFB⟩ := hF
  obtain ⟨hO, hOB⟩ := hO
  obtain ⟨hM, hMB⟩ := hM
  obtain ⟨fo, fcap, ev0, fk1, fk2, fvw⟩ := fates_view hF
  obtain ⟨oo, on, ocap, eo, ok1, ok2, ok3, ok4⟩ := id hO
  obtain ⟨mo, mn, mcap, em, mk1, mk2, mk3, mk4⟩ := id hM
  rw [fcells_length encO] at ok1 mk1
  obtain rfl : l.length = on := by omega
  obtain rfl : lm.length = mn := by omega
  have HF := hid hF
  have HO := hid hO
  have HM := hid hM
  have HFB := hid hFB
  have HOB := hid hOB
  have HMB := hid hMB
  subst ev0 eo em
  unfold maxLen at fk2 ok3 mk3
  obtain ⟨FN, eFN⟩ : ∃ FN, FN = fs.length := ⟨_, rfl⟩
  have EFN := hid eFN
  obtain ⟨ON, eON⟩ : ∃ ON, ON = l.length := ⟨_, rfl⟩
  have EON := hid eON
  obtain ⟨MN, eMN⟩ : ∃ MN, MN = lm.length := ⟨_, rfl⟩
  have EMN := hid eMN
  have LG := hid (fun W (X : Ext w W) => light_any _ c fo fs.length fcap _ l W (hO.kept (Kept.of_ext X)) hl ht)
  have LH := hid (fun W (X : Ext w W) => light_any _ c none 0 0 _ lm W (hM.kept (Kept.of_ext X)) hlm htm)
  have HV : Hid (∀ k, k ≤ heavy l k) := heavy_ge l
  have HW : Hid (∀ k, k ≤ heavy lm k) := heavy_ge lm
  rw [← eFN] at fk1 HF LG
  rw [← eON] at hl LG HO ok2
  rw [← eMN] at hlm LH HM mk2
  rw [← eFN, ← eON, ← eMN]
  obtain ⟨W0, e0⟩ : ∃ W0, W0 = w.alloc (.cells #[.int .i64 c.1, .int .i64 c.2.1, .int .i64 c.2.2.1, .int .i64 c.2.2.2.1, .int .i64 c.2.2.2.2, .slice fo FN fcap, .slice oo ON ocap] 27) := ⟨_, rfl⟩
  have X0 : Ext w W0 := by rw [e0]; exact (Ext.refl w).alloc _
  have r0 : Hid (W0.heap[w.heap.size]? = some (.cells #[.int .i64 c.1, .int .i64 c.2.1, .int .i64 c.2.2.1, .int .i64 c.2.2.2.1, .int .i64 c.2.2.2.2, .slice fo FN fcap, .slice oo ON ocap] 27 (0, 0))) := by rw [e0]; exact heap_alloc_new w _
  have E0 := hid e0
  have XX0 := hid X0
  clear hF hO hM hFB hOB hMB fvw ok4 mk4 eFN eON eMN e0 X0
  by_cases ok : okCfg c
  case neg =>
    have RN := hid (Sim.right_no c W0 ok)
    clear ok
    go_enter Try.func4, Try.ntmps4
    go_wp2_with fail
    rw [← E0.out]
    refine RN.out.mono ?_
    rintro e w1 ⟨rfl, x1⟩
    have XX := hid (XX0.out.trans x1)
    clear RN x1
    go_wp2_with fail
    refine (AW.out _).mono ?_
    rintro e w7 ⟨rfl, x7⟩
    have X7 := hid (XX.out.trans x7)
    clear x7
    go_wp2_with fail
    go_ret
    exact ⟨rfl, X7.out⟩
  have RY := hid (Sim.right_yes c W0 ok)
  have OK := hid ok
  clear ok
  by_cases lt : (heavy l ON ≤ 70 ∧ FN ≤ 200) ∧ c.1 ≤ 8
  case neg =>
    have LN : Hid (∀ W, Ext w W → Calls Try.prog 6 #[.agg #[.int .i64 c.1, .int .i64 c.2.1, .int .i64 c.2.2.1, .int .i64 c.2.2.2.1, .int .i64 c.2.2.2.2, .slice fo FN fcap, .slice oo ON ocap]] W fun e w' => e = .returned (.bool false) ∧ Ext W w') := fun W X => by
      refine (LG.out W X).mono ?_
      rintro e w' ⟨rfl, x⟩
      refine ⟨?_, x⟩
      have : (decide ((heavy l ON : Int) ≤ 70) && decide ((FN : Int) ≤ 200) && decide (c.1 ≤ 8)) = false := by
        rw [Bool.eq_false_iff]
        intro hh
        simp only [Bool.and_eq_true, decide_eq_true_eq] at hh
        exact lt ⟨⟨by omega, by omega⟩, hh.2⟩
      rw [this]
    clear lt LG LH
    go_enter Try.func4, Try.ntmps4
    go_wp2_with fail
    rw [← E0.out]
    refine RY.out.mono ?_
    rintro e w1 ⟨rfl, x1⟩
    have X1 := hid (XX0.out.trans x1)
    have R1 := hid (x1.row r0.out)
    clear RY x1
    have z0 : w1.cell? ⟨w.heap.size, 0, none⟩ = some (.int .i64 c.1) := by rw [cell_of_row _ _ 0 _ _ _ R1.out]; rfl
    have z1 : w1.cell? ⟨w.heap.size, 1, none⟩ = some (.int .i64 c.2.1) := by rw [cell_of_row _ _ 1 _ _ _ R1.out]; rfl
    have z2 : w1.cell? ⟨w.heap.size, 2, none⟩ = some (.int .i64 c.2.2.1) := by rw [cell_of_row _ _ 2 _ _ _ R1.out]; rfl
    have z3 : w1.cell? ⟨w.heap.size, 3, none⟩ = some (.int .i64 c.2.2.2.1) := by rw [cell_of_row _ _ 3 _ _ _ R1.out]; rfl
    have z4 : w1.cell? ⟨w.heap.size, 4, none⟩ = some (.int .i64 c.2.2.2.2) := by rw [cell_of_row _ _ 4 _ _ _ R1.out]; rfl
    have z5 : w1.cell? ⟨w.heap.size, 5, none⟩ = some (.slice fo FN fcap) := by rw [cell_of_row _ _ 5 _ _ _ R1.out]; rfl
    have z6 : w1.cell? ⟨w.heap.size, 6, none⟩ = some (.slice oo ON ocap) := by rw [cell_of_row _ _ 6 _ _ _ R1.out]; rfl
    go_wp2_with fail
    refine (LN.out w1 X1.out).mono ?_
    rintro e w2 ⟨rfl, x2⟩
    have XX := hid (X1.out.trans x2)
    clear LN x2 z0 z1 z2 z3 z4 z5 z6
    go_wp2_with fail
    refine (AW.out _).mono ?_
    rintro e w7 ⟨rfl, x7⟩
    have X7 := hid (XX.out.trans x7)
    clear x7
    go_wp2_with fail
    go_ret
    exact ⟨rfl, X7.out⟩
  obtain ⟨⟨lt1, lt2⟩, lt3⟩ := lt
  have LY : Hid (∀ W, Ext w W → Calls Try.prog 6 #[.agg #[.int .i64 c.1, .int .i64 c.2.1, .int .i64 c.2.2.1, .int .i64 c.2.2.2.1, .int .i64 c.2.2.2.2, .slice fo FN fcap, .slice oo ON ocap]] W fun e w' => e = .returned (.bool true) ∧ Ext W w') := fun W X => by
    refine (LG.out W X).mono ?_
    rintro e w' ⟨rfl, x⟩
    refine ⟨?_, x⟩
    have : (decide ((heavy l ON : Int) ≤ 70) && decide ((FN : Int) ≤ 200) && decide (c.1 ≤ 8)) = true := by
      simp only [Bool.and_eq_true, decide_eq_true_eq]
      exact ⟨⟨by omega, by omega⟩, lt3⟩
    rw [this]
  have ON70 : ON ≤ 70 := by have h1 := HV.out ON; omega
  by_cases mt : heavy lm MN ≤ 70
  case neg =>
    have MNO : Hid (∀ W, Ext w W → Calls Try.prog 6 #[.agg #[.int .i64 c.1, .int .i64 c.2.1, .int .i64 c.2.2.1, .int .i64 c.2.2.2.1, .int .i64 c.2.2.2.2, .slice none 0 0, .slice mo MN mcap]] W fun e w' => e = .returned (.bool false) ∧ Ext W w') := fun W X => by
      refine (LH.out W X).mono ?_
      rintro e w' ⟨rfl, x⟩
      refine ⟨?_, x⟩
      have : (decide ((heavy lm MN : Int) ≤ 70) && decide (((0 : Nat) : Int) ≤ 200) && decide (c.1 ≤ 8)) = false := by
        rw [Bool.eq_false_iff]
        intro hh
        simp only [Bool.and_eq_true, decide_eq_true_eq] at hh
        exact mt (by omega)
      rw [this]
    clear mt lt1 lt2 lt3 LG LH
    go_enter Try.func4, Try.ntmps4
    go_wp2_with fail
    rw [← E0.out]
    refine RY.out.mono ?_
    rintro e w1 ⟨rfl, x1⟩
    have X1 := hid (XX0.out.trans x1)
    have R1 := hid (x1.row r0.out)
    clear RY x1
    have z0 : w1.cell? ⟨w.heap.size, 0, none⟩ = some (.int .i64 c.1) := by rw [cell_of_row _ _ 0 _ _ _ R1.out]; rfl
    have z1 : w1.cell? ⟨w.heap.size, 1, none⟩ = some (.int .i64 c.2.1) := by rw [cell_of_row _ _ 1 _ _ _ R1.out]; rfl
    have z2 : w1.cell? ⟨w.heap.size, 2, none⟩ = some (.int .i64 c.2.2.1) := by rw [cell_of_row _ _ 2 _ _ _ R1.out]; rfl
    have z3 : w1.cell? ⟨w.heap.size, 3, none⟩ = some (.int .i64 c.2.2.2.1) := by rw [cell_of_row _ _ 3 _ _ _ R1.out]; rfl
    have z4 : w1.cell? ⟨w.heap.size, 4, none⟩ = some (.int .i64 c.2.2.2.2) := by rw [cell_of_row _ _ 4 _ _ _ R1.out]; rfl
    have z5 : w1.cell? ⟨w.heap.size, 5, none⟩ = some (.slice fo FN fcap) := by rw [cell_of_row _ _ 5 _ _ _ R1.out]; rfl
    have z6 : w1.cell? ⟨w.heap.size, 6, none⟩ = some (.slice oo ON ocap) := by rw [cell_of_row _ _ 6 _ _ _ R1.out]; rfl
    go_wp2_with fail
    refine (LY.out w1 X1.out).mono ?_
    rintro e w2 ⟨rfl, x2⟩
    have X2 := hid (X1.out.trans x2)
    have R2 := hid (x2.row R1.out)
    clear LY x2 z0 z1 z2 z3 z4 z5 z6
    have z0 : w2.cell? ⟨w.heap.size, 0, none⟩ = some (.int .i64 c.1) := by rw [cell_of_row _ _ 0 _ _ _ R2.out]; rfl
    have z1 : w2.cell? ⟨w.heap.size, 1, none⟩ = some (.int .i64 c.2.1) := by rw [cell_of_row _ _ 1 _ _ _ R2.out]; rfl
    have z2 : w2.cell? ⟨w.heap.size, 2, none⟩ = some (.int .i64 c.2.2.1) := by rw [cell_of_row _ _ 2 _ _ _ R2.out]; rfl
    have z3 : w2.cell? ⟨w.heap.size, 3, none⟩ = some (.int .i64 c.2.2.2.1) := by rw [cell_of_row _ _ 3 _ _ _ R2.out]; rfl
    have z4 : w2.cell? ⟨w.heap.size, 4, none⟩ = some (.int .i64 c.2.2.2.2) := by rw [cell_of_row _ _ 4 _ _ _ R2.out]; rfl
    have z5 : w2.cell? ⟨w.heap.size, 5, none⟩ = some (.slice fo FN fcap) := by rw [cell_of_row _ _ 5 _ _ _ R2.out]; rfl
    have z6 : w2.cell? ⟨w.heap.size, 6, none⟩ = some (.slice oo ON ocap) := by rw [cell_of_row _ _ 6 _ _ _ R2.out]; rfl
    go_wp2_with fail
    refine (MNO.out w2 X2.out).mono ?_
    rintro e w3 ⟨rfl, x3⟩
    have XX := hid (X2.out.trans x3)
    clear MNO x3 z0 z1 z2 z3 z4 z5 z6
    go_wp2_with fail
    refine (AW.out _).mono ?_
    rintro e w7 ⟨rfl, x7⟩
    have X7 := hid (XX.out.trans x7)
    clear x7
    go_wp2_with fail
    go_ret
    exact ⟨rfl, X7.out⟩
  have MY : Hid (∀ W, Ext w W → Calls Try.prog 6 #[.agg #[.int .i64 c.1, .int .i64 c.2.1, .int .i64 c.2.2.1, .int .i64 c.2.2.2.1, .int .i64 c.2.2.2.2, .slice none 0 0, .slice mo MN mcap]] W fun e w' => e = .returned (.bool true) ∧ Ext W w') := fun W X => by
    refine (LH.out W X).mono ?_
    rintro e w' ⟨rfl, x⟩
    refine ⟨?_, x⟩
    have : (decide ((heavy lm MN : Int) ≤ 70) && decide (((0 : Nat) : Int) ≤ 200) && decide (c.1 ≤ 8)) = true := by
      simp only [Bool.and_eq_true, decide_eq_true_eq]
      exact ⟨⟨by omega, by omega⟩, lt3⟩
    rw [this]
  have MN70 : MN ≤ 70 := by have h1 := HW.out MN; omega
  obtain ⟨n, hn⟩ : ∃ n : Nat, c.1 = (n : Int) := ⟨c.1.toNat, by have := OK.out.1; omega⟩
  have n8 : n ≤ 8 := by omega
  have n1 : 1 ≤ n := by have := OK.out.1; omega
  have HN := hid hn
  have NN : Hid (∀ W, Ext w W → Calls Try.prog 8 #[.agg (ccs c), .slice fo FN fcap] W fun e w' => ∃ b bs, e = .returned (.tuple #[.pointer (some ⟨b, 0, none⟩), .int .i64 0]) ∧ NetK (fun q => q < W.heap.size) w' b bs c [] fs (st0 n) ∧ Ext W w') := fun W X =>
    new_net c n HN.out OK.out _ _ fs W (HF.out.kept (Kept.of_ext X)) (by have := EFN.out; omega)
  have FNB := hid lt2
  clear lt1 lt2 lt3 mt LG LH hn
  go_enter Try.func4, Try.ntmps4
  go_wp2_with fail
  rw [← E0.out]
  refine RY.out.mono ?_
  rintro e w1 ⟨rfl, x1⟩
  have X1 := hid (XX0.out.trans x1)
  have R1 := hid (x1.row r0.out)
  clear RY x1
  have z0 : w1.cell? ⟨w.heap.size, 0, none⟩ = some (.int .i64 c.1) := by rw [cell_of_row _ _ 0 _ _ _ R1.out]; rfl
  have z1 : w1.cell? ⟨w.heap.size, 1, none⟩ = some (.int .i64 c.2.1) := by rw [cell_of_row _ _ 1 _ _ _ R1.out]; rfl
  have z2 : w1.cell? ⟨w.heap.size, 2, none⟩ = some (.int .i64 c.2.2.1) := by rw [cell_of_row _ _ 2 _ _ _ R1.out]; rfl
  have z3 : w1.cell? ⟨w.heap.size, 3, none⟩ = some (.int .i64 c.2.2.2.1) := by rw [cell_of_row _ _ 3 _ _ _ R1.out]; rfl
  have z4 : w1.cell? ⟨w.heap.size, 4, none⟩ = some (.int .i64 c.2.2.2.2) := by rw [cell_of_row _ _ 4 _ _ _ R1.out]; rfl
  have z5 : w1.cell? ⟨w.heap.size, 5, none⟩ = some (.slice fo FN fcap) := by rw [cell_of_row _ _ 5 _ _ _ R1.out]; rfl
  have z6 : w1.cell? ⟨w.heap.size, 6, none⟩ = some (.slice oo ON ocap) := by rw [cell_of_row _ _ 6 _ _ _ R1.out]; rfl
  go_wp2_with fail
  refine (LY.out w1 X1.out).mono ?_
  rintro e w2 ⟨rfl, x2⟩
  have X2 := hid (X1.out.trans x2)
  have R2 := hid (x2.row R1.out)
  clear z0 z1 z2 z3 z4 z5 z6
  have z0 : w2.cell? ⟨w.heap.size, 0, none⟩ = some (.int .i64 c.1) := by rw [cell_of_row _ _ 0 _ _ _ R2.out]; rfl
  have z1 : w2.cell? ⟨w.heap.size, 1, none⟩ = some (.int .i64 c.2.1) := by rw [cell_of_row _ _ 1 _ _ _ R2.out]; rfl
  have z2 : w2.cell? ⟨w.heap.size, 2, none⟩ = some (.int .i64 c.2.2.1) := by rw [cell_of_row _ _ 2 _ _ _ R2.out]; rfl
  have z3 : w2.cell? ⟨w.heap.size, 3, none⟩ = some (.int .i64 c.2.2.2.1) := by rw [cell_of_row _ _ 3 _ _ _ R2.out]; rfl
  have z4 : w2.cell? ⟨w.heap.size, 4, none⟩ = some (.int .i64 c.2.2.2.2) := by rw [cell_of_row _ _ 4 _ _ _ R2.out]; rfl
  have z5 : w2.cell? ⟨w.heap.size, 5, none⟩ = some (.slice fo FN fcap) := by rw [cell_of_row _ _ 5 _ _ _ R2.out]; rfl
  have z6 : w2.cell? ⟨w.heap.size, 6, none⟩ = some (.slice oo ON ocap) := by rw [cell_of_row _ _ 6 _ _ _ R2.out]; rfl
  clear LY x2 R1 X1 XX0 r0
  go_wp2_with fail
  refine (MY.out w2 X2.out).mono ?_
  rintro e w2' ⟨rfl, x2⟩
  have X2' := hid (X2.out.trans x2)
  have R2' := hid (x2.row R2.out)
  clear MY x2 R2 X2 z0 z1 z2 z3 z4 z5 z6
  obtain ⟨w2, e2'⟩ : ∃ w2, w2 = w2' := ⟨_, rfl⟩
  rw [← e2'] at X2' R2' ⊢
  clear e2' w2'
  have X2 := X2'
  have R2 := R2'
  clear X2' R2'
  have z0 : w2.cell? ⟨w.heap.size, 0, none⟩ = some (.int .i64 c.1) := by rw [cell_of_row _ _ 0 _ _ _ R2.out]; rfl
  have z1 : w2.cell? ⟨w.heap.size, 1, none⟩ = some (.int .i64 c.2.1) := by rw [cell_of_row _ _ 1 _ _ _ R2.out]; rfl
  have z2 : w2.cell? ⟨w.heap.size, 2, none⟩ = some (.int .i64 c.2.2.1) := by rw [cell_of_row _ _ 2 _ _ _ R2.out]; rfl
  have z3 : w2.cell? ⟨w.heap.size, 3, none⟩ = some (.int .i64 c.2.2.2.1) := by rw [cell_of_row _ _ 3 _ _ _ R2.out]; rfl
  have z4 : w2.cell? ⟨w.heap.size, 4, none⟩ = some (.int .i64 c.2.2.2.2) := by rw [cell_of_row _ _ 4 _ _ _ R2.out]; rfl
  have z5 : w2.cell? ⟨w.heap.size, 5, none⟩ = some (.slice fo FN fcap) := by rw [cell_of_row _ _ 5 _ _ _ R2.out]; rfl
  have z6 : w2.cell? ⟨w.heap.size, 6, none⟩ = some (.slice oo ON ocap) := by rw [cell_of_row _ _ 6 _ _ _ R2.out]; rfl
  go_wp2_with fail
  refine (NN.out w2 X2.out).mono ?_
  rintro e w3 ⟨b, bs, rfl, n3, x3⟩
  have X3 := hid (X2.out.trans x3)
  have R3 := hid (x3.row R2.out)
  have N3 := hid n3
  have S23 := hid x3.size
  clear z0 z1 z2 z3 z4 z5 z6 NN n3 R2 x3
  have z0 : w3.cell? ⟨w.heap.size, 0, none⟩ = some (.int .i64 c.1) := by rw [cell_of_row _ _ 0 _ _ _ R3.out]; rfl
  have z1 : w3.cell? ⟨w.heap.size, 1, none⟩ = some (.int .i64 c.2.1) := by rw [cell_of_row _ _ 1 _ _ _ R3.out]; rfl
  have z2 : w3.cell? ⟨w.heap.size, 2, none⟩ = some (.int .i64 c.2.2.1) := by rw [cell_of_row _ _ 2 _ _ _ R3.out]; rfl
  have z3 : w3.cell? ⟨w.heap.size, 3, none⟩ = some (.int .i64 c.2.2.2.1) := by rw [cell_of_row _ _ 3 _ _ _ R3.out]; rfl
  have z4 : w3.cell? ⟨w.heap.size, 4, none⟩ = some (.int .i64 c.2.2.2.2) := by rw [cell_of_row _ _ 4 _ _ _ R3.out]; rfl
  have z5 : w3.cell? ⟨w.heap.size, 5, none⟩ = some (.slice fo FN fcap) := by rw [cell_of_row _ _ 5 _ _ _ R3.out]; rfl
  have z6 : w3.cell? ⟨w.heap.size, 6, none⟩ = some (.slice oo ON ocap) := by rw [cell_of_row _ _ 6 _ _ _ R3.out]; rfl
  obtain ⟨h3, eh3⟩ : ∃ h3, h3 = w3.heap.size := ⟨_, rfl⟩
  have lt3 : w.heap.size < h3 := by rw [eh3]; exact lt_of_row R3.out
  have H3 := hid eh3
  clear eh3
  have zn := z0
  rw [HN.out] at zn
  have RA : Hid (∀ V, Kept (fun i => i < h3) w3 V → V.rangeAt w.heap.size 0 [.int .i64 c.1, .int .i64 c.2.1, .int .i64 c.2.2.1, .int .i64 c.2.2.2.1, .int .i64 c.2.2.2.2]) := fun V k => World.rangeAt_of_block (k.row lt3 R3.out) 0 5
  have RB : Hid (∀ V, Kept (fun i => i < h3) w3 V → V.cell? ⟨w.heap.size, 5, none⟩ = some (.slice fo FN fcap) ∧ V.cell? ⟨w.heap.size, 0, none⟩ = some (.int .i64 (n : Int))) := fun V k => ⟨k.cell (a := ⟨w.heap.size, 5, none⟩) lt3 z5, k.cell (a := ⟨w.heap.size, 0, none⟩) lt3 zn⟩
  rw [HN.out] at z0
  go_wp2_with fail
  clear z0 z1 z2 z3 z4 z5 zn
  refine wp_region_held_drew (S := fun V => Kept (fun i => i < h3) w3 V) (by kernel_rfl) (Kept.of_ext (show Ext w3 w3.drew from (Ext.refl w3).drewN 1)) (fun hHeld => ?_)
  refine takeE (v := ?_) 0 52 rfl rfl (by kernel_rfl) (by kernel_rfl) (by kernel_rfl) (fun _ _ _ h => h) (Or.inl ⟨by rfl, fun V hV => ?_⟩) hHeld ?_
  rotate_left
  · (go_simp; try with_reducible rfl)
  simp only [Act.put, List.setIfInBounds_toArray, List.set_cons_zero, List.set_cons_succ]
  refine takeE (v := .agg #[.int .i64 c.1, .int .i64 c.2.1, .int .i64 c.2.2.1, .int .i64 c.2.2.2.1, .int .i64 c.2.2.2.2]) 1 53 rfl rfl (by kernel_rfl) (by kernel_rfl) (by kernel_rfl) (fun _ _ _ h => h) ?_ hHeld ?_
  · exact yieldsIf_load_mid (by rfl) 23 (.tmp 52) rfl w.heap.size 0 (by rfl) [.int .i64 c.1, .int .i64 c.2.1, .int .i64 c.2.2.1, .int .i64 c.2.2.2.1, .int .i64 c.2.2.2.2] _ (fun V hV => RA.out V hV) Try.underlying23 rfl (by kernel_rfl)
  simp only [Act.put, List.setIfInBounds_toArray, List.set_cons_zero, List.set_cons_succ]
  refine takeE (v := ?_) 2 54 rfl rfl (by kernel_rfl) (by kernel_rfl) (by kernel_rfl) (fun _ _ _ h => h) (Or.inl ⟨by rfl, fun V hV => ?_⟩) hHeld ?_
  rotate_left
  · (go_simp; try with_reducible rfl)
  simp only [Act.put, List.setIfInBounds_toArray, List.set_cons_zero, List.set_cons_succ]
  refine takeE (v := ?_) 3 55 rfl rfl (by kernel_rfl) (by kernel_rfl) (by kernel_rfl) (fun _ _ _ h => h) (Or.inl ⟨by rfl, fun V hV => ?_⟩) hHeld ?_
  rotate_left
  · (have y := (RB.out V hV).1; go_simp; try with_reducible rfl)
  simp only [Act.put, List.setIfInBounds_toArray, List.set_cons_zero, List.set_cons_succ]
  refine takeE (v := ?_) 4 56 rfl rfl (by kernel_rfl) (by kernel_rfl) (by kernel_rfl) (fun _ _ _ h => h) (Or.inl ⟨by rfl, fun V hV => ?_⟩) hHeld ?_
  rotate_left
  · (go_simp; try with_reducible rfl)
  simp only [Act.put, List.setIfInBounds_toArray, List.set_cons_zero, List.set_cons_succ]
  refine takeE (v := ?_) 5 57 rfl rfl (by kernel_rfl) (by kernel_rfl) (by kernel_rfl) (fun _ _ _ h => h) (Or.inl ⟨by rfl, fun V hV => ?_⟩) hHeld ?_
  rotate_left
  · (go_simp; try with_reducible rfl)
  simp only [Act.put, List.setIfInBounds_toArray, List.set_cons_zero, List.set_cons_succ]
  refine takeE (v := ?_) 6 58 rfl rfl (by kernel_rfl) (by kernel_rfl) (by kernel_rfl) (fun _ _ _ h => h) (Or.inl ⟨by rfl, fun V hV => ?_⟩) hHeld ?_
  rotate_left
  · (have y := (RB.out V hV).2; go_simp; try with_reducible rfl)
  simp only [Act.put, List.setIfInBounds_toArray, List.set_cons_zero, List.set_cons_succ]
  refine takeE (v := .int .i64 ((n : Int) + 1)) 7 59 rfl rfl (by kernel_rfl) (by kernel_rfl) (by kernel_rfl) (fun _ _ _ h => h) (Or.inl ⟨by rfl, fun V hV => ?_⟩) hHeld ?_
  · have wr1 : IntKind.i64.wrap ((n : Int) + 1) = (n : Int) + 1 := IntWalk.i64_in _ (by omega)
    (go_simp; try with_reducible rfl)
  simp only [Act.put, List.setIfInBounds_toArray, List.set_cons_zero, List.set_cons_succ]
  have ML := make_lists n (by omega) w3.drew
  have X3d : Ext w3 w3.drew := (Ext.refl w3).drewN 1
  refine eitherE 8 60 10 7 rfl rfl rfl rfl (by kernel_rfl) (by rfl) (by rfl) (v := .slice (some ⟨w3.heap.size, 0, none⟩) (n + 1) (n + 1)) (u := .pointer (some ⟨w3.heap.size, 0, none⟩)) (wi := w3.drew.alloc (.cells (Array.replicate (n + 1) (.slice none 0 0)) 78)) (wj := w3.drew.alloc (.cells zmod 40)) (by go_simp; try with_reducible rfl) (by unfold zmod; go_simp; try with_reducible rfl) (Kept.of_ext (X3d.alloc _)) (Kept.of_ext (X3d.alloc _)) ?mk ?bx
  case' mk =>
    simp only [Act.put, List.setIfInBounds_toArray, List.set_cons_zero, List.set_cons_succ]
    obtain ⟨V1, e1⟩ : ∃ V1, V1 = w3.drew.alloc (.cells (Array.replicate (n + 1) (.slice none 0 0)) 78) := ⟨_, rfl⟩
    have x1 : Ext w3 V1 := by rw [e1]; exact X3d.alloc _
    have L1 : V1.heap[w3.heap.size]? = some (.cells (Array.replicate (n + 1) (.slice none 0 0)) 78 (0, 0)) := by rw [e1]; exact heap_alloc_new w3.drew _
    have s1 : V1.heap.size = w3.heap.size + 1 := by rw [e1]; simp
    rw [← e1]
    clear e1
    refine takeE (v := .agg (mcs c (.slice none 0 0) (.slice (some ⟨w3.heap.size, 0, none⟩) (n + 1) (n + 1)) (.slice fo FN fcap) 0 (0, 0, 0, 0, 0, 0))) 9 61 rfl rfl (by kernel_rfl) (by kernel_rfl) (by kernel_rfl) (fun _ _ _ h => h) (Or.inl ⟨by rfl, fun V hV => ?_⟩) (Kept.of_ext x1) ?_
    · (go_simp; rfl)
    simp only [Act.put, List.setIfInBounds_toArray, List.set_cons_zero, List.set_cons_succ]
    refine knownE 10 7 rfl rfl (by kernel_rfl) (by rfl) (w' := V1.alloc (.cells zmod 40)) (v := .pointer (some ⟨V1.heap.size, 0, none⟩)) (by unfold zmod; go_simp; try with_reducible rfl) (Kept.of_ext (x1.alloc _)) ?_
    obtain ⟨V2, e2⟩ : ∃ V2, V2 = V1.alloc (.cells zmod 40) := ⟨_, rfl⟩
    have x2 : Ext w3 V2 := by rw [e2]; exact x1.alloc _
    have L2 : V2.heap[w3.heap.size]? = some (.cells (Array.replicate (n + 1) (.slice none 0 0)) 78 (0, 0)) := by rw [e2]; exact ((Ext.refl V1).alloc _).row L1
    have M2 : V2.heap[V1.heap.size]? = some (.cells zmod 40 (0, 0)) := by rw [e2]; exact heap_alloc_new V1 _
    rw [← e2]
    clear e2
    obtain ⟨mb, emb⟩ : ∃ mb, mb = V1.heap.size := ⟨_, rfl⟩
    obtain ⟨lb, elb⟩ : ∃ lb, lb = w3.heap.size := ⟨_, rfl⟩
    rw [← emb] at M2 ⊢
    rw [← elb] at L2 ⊢
  case' bx =>
    simp only [Act.put, List.setIfInBounds_toArray, List.set_cons_zero, List.set_cons_succ]
    obtain ⟨V1, e1⟩ : ∃ V1, V1 = w3.drew.alloc (.cells zmod 40) := ⟨_, rfl⟩
    have x1 : Ext w3 V1 := by rw [e1]; exact X3d.alloc _
    have L1 : V1.heap[w3.heap.size]? = some (.cells zmod 40 (0, 0)) := by rw [e1]; exact heap_alloc_new w3.drew _
    have s1 : V1.heap.size = w3.heap.size + 1 := by rw [e1]; simp
    rw [← e1]
    clear e1
    have ML1 := make_lists n (by omega) V1
    refine knownE 8 60 rfl rfl (by kernel_rfl) (by rfl) (w' := V1.alloc (.cells (Array.replicate (n + 1) (.slice none 0 0)) 78)) (v := .slice (some ⟨V1.heap.size, 0, none⟩) (n + 1) (n + 1)) (by go_simp; try with_reducible rfl) (Kept.of_ext (x1.alloc _)) ?_
    simp only [Act.put, List.setIfInBounds_toArray, List.set_cons_zero, List.set_cons_succ]
    obtain ⟨V2, e2⟩ : ∃ V2, V2 = V1.alloc (.cells (Array.replicate (n + 1) (.slice none 0 0)) 78) := ⟨_, rfl⟩
    have x2 : Ext w3 V2 := by rw [e2]; exact x1.alloc _
    have L2 : V2.heap[V1.heap.size]? = some (.cells (Array.replicate (n + 1) (.slice none 0 0)) 78 (0, 0)) := by rw [e2]; exact heap_alloc_new V1 _
    have M2 : V2.heap[w3.heap.size]? = some (.cells zmod 40 (0, 0)) := by rw [e2]; exact ((Ext.refl V1).alloc _).row L1
    rw [← e2]
    clear e2
    refine takeE (v := .agg (mcs c (.slice none 0 0) (.slice (some ⟨V1.heap.size, 0, none⟩) (n + 1) (n + 1)) (.slice fo FN fcap) 0 (0, 0, 0, 0, 0, 0))) 9 61 rfl rfl (by kernel_rfl) (by kernel_rfl) (by kernel_rfl) (fun _ _ _ h => h) (Or.inl ⟨by rfl, fun V hV => ?_⟩) (Kept.of_ext x2) ?_
    · (go_simp; rfl)
    obtain ⟨lb, elb⟩ : ∃ lb, lb = V1.heap.size := ⟨_, rfl⟩
    obtain ⟨mb, emb⟩ : ∃ mb, mb = w3.heap.size := ⟨_, rfl⟩
    rw [← emb] at M2 ⊢
    rw [← elb] at L2 ⊢
  all_goals simp only [Act.put, List.setIfInBounds_toArray, List.set_cons_zero, List.set_cons_succ]
  all_goals
    have eh3 : h3 = w3.heap.size := H3.out
    have sb : w3.heap.size ≤ mb ∧ w3.heap.size ≤ lb ∧ mb ≠ lb := by omega
    have k5 : Kept (fun i => i ≠ mb) V2 (V2.setRow mb (mcs c (.slice none 0 0) (.slice (some ⟨lb, 0, none⟩) (n + 1) (n + 1)) (.slice fo FN fcap) 0 (0, 0, 0, 0, 0, 0))) := (Kept.refl _ _).setRow (fun hne => hne rfl) _
    have kS : Kept (fun i => i < h3) w3 (V2.setRow mb (mcs c (.slice none 0 0) (.slice (some ⟨lb, 0, none⟩) (n + 1) (n + 1)) (.slice fo FN fcap) 0 (0, 0, 0, 0, 0, 0))) := (Kept.of_ext x2).trans (k5.mono (fun i hi => by omega))
    refine storeN 11 rfl rfl (by kernel_rfl) (by rfl) (w' := V2.setRow mb (mcs c (.slice none 0 0) (.slice (some ⟨lb, 0, none⟩) (n + 1) (n + 1)) (.slice fo FN fcap) 0 (0, 0, 0, 0, 0, 0))) (exec_store 40 (.tmp 7) (.tmp 61) rfl (run_store_whole V2 mb _ _ zmod _ M2 size_model rfl (mcs_one _ _ _ _ _ _ rfl rfl rfl))) kS ?_
    refine wpAnyH_done (by kernel_rfl) ?_ _
    have M3 : (V2.setRow mb (mcs c (.slice none 0 0) (.slice (some ⟨lb, 0, none⟩) (n + 1) (n + 1)) (.slice fo FN fcap) 0 (0, 0, 0, 0, 0, 0))).heap[mb]? = some (.cells (mcs c (.slice none 0 0) (.slice (some ⟨lb, 0, none⟩) (n + 1) (n + 1)) (.slice fo FN fcap) 0 (0, 0, 0, 0, 0, 0)) 40 (0, 0)) := setRow_heap _ _ _ _ _ _ M2
    obtain ⟨V3, e3⟩ : ∃ V3, V3 = V2.setRow mb (mcs c (.slice none 0 0) (.slice (some ⟨lb, 0, none⟩) (n + 1) (n + 1)) (.slice fo FN fcap) 0 (0, 0, 0, 0, 0, 0)) := ⟨_, rfl⟩
    rw [← e3] at k5 kS M3 ⊢
    have ltm := lt_of_row M2
    have ltl := lt_of_row L2
    have SD : Side (fun q => (q < w2.heap.size ∨ New w3 V2 q) ∨ New V2 V3 q) (fun q => q < w.heap.size ∨ q = lb) V3 (mcs c (.slice none 0 0) (.slice (some ⟨lb, 0, none⟩) (n + 1) (n + 1)) (.slice fo FN fcap) 0 (0, 0, 0, 0, 0, 0)) b bs c fs 0 0 := by
      have s2 : w.heap.size ≤ w2.heap.size := X2.out.size
      have s3 : w2.heap.size ≤ w3.heap.size := S23.out
      have nil : RowK (fun q => q < w.heap.size ∨ q = lb) V3 (.slice none 0 0) 3 (fcells tri []) := ⟨none, 0, 0, rfl, rfl, Nat.le_refl _, Nat.zero_le _, fun h => absurd h (Nat.lt_irrefl 0)⟩
      refine ⟨fun q hq => ?_, [], st0 n, _, _, _, rfl, (N3.out.more x2).keep k5 (fun q _ => if e : q = mb then .inl (.inr ⟨by omega, by omega⟩) else .inr e), nil, ?_, ?_, Nat.le_refl _, fun a ha => by simp at ha, ?_⟩
      · rcases hq with h | h
        · exact .inl (.inl (by omega))
        · exact .inl (.inr ⟨by omega, by omega⟩)
      · exact ((lists_made n (by omega) V2 lb L2).kept (k5.mono (fun q hq => by omega))).mono (fun q _ h => .inr h)
      · exact ((((HF.out.mono (L := fun q => q < w.heap.size) (by decide) (fun q hq _ => hq)).kept (Kept.of_ext (X3.out.trans x2))).kept (k5.mono (fun q hq => by omega))).mono (by decide) (fun q _ h => .inl h))
      · simp [SB, st0]
    have EMB : ¬ (mb < w.heap.size ∨ mb = lb) := fun h => by rcases h with h | h <;> omega
    have KV0 := (Kept.of_ext x2).trans (k5.mono (L := fun i => i < h3) (fun i hi => by omega))
    have z6 : V3.cell? ⟨w.heap.size, 6, none⟩ = some (.slice oo ON ocap) := KV0.cell (a := ⟨w.heap.size, 6, none⟩) lt3 (by rw [cell_of_row _ _ 6 _ _ _ R3.out]; rfl)
    have s2' : w.heap.size ≤ w2.heap.size := X2.out.size
    have ST0 : Hid (∃ cs, One w.heap.size V3 mb cs b bs c fs 0 0 ∧ Kept (fun q => q < w.heap.size) w V3) := ⟨_, ⟨_, _, SD, ⟨.inl (.inr ⟨by omega, by omega⟩), EMB, by omega, fun q hq => .inl (.inl (by omega))⟩, M3⟩, (Kept.of_ext X3.out).trans (KV0.mono (fun q hq => by omega))⟩
    have LTM : Hid (w.heap.size ≤ mb) := by show w.heap.size ≤ mb; omega
    clear SD M3 L1 L2 M2 ltm ltl k5 kS x1 x2 s1 ML hHeld RA RB e3 X3d emb elb sb eh3 KV0 EMB s2' S23 H3
    go_wp2_with fail
    have OPS : Hid (∀ (k : Nat) (o : OpS), l[k]? = some o → ∃ g o0, oo = some ⟨g, o0, none⟩ ∧ g < w.heap.size ∧ w.cell? ⟨g, o0 + k * 5, none⟩ = some (.int .i64 o.1) ∧ w.cell? ⟨g, o0 + k * 5 + 1, none⟩ = some (.int .i64 o.2.1) ∧ w.cell? ⟨g, o0 + k * 5 + 2, none⟩ = some (.int .i64 o.2.2.1) ∧ w.cell? ⟨g, o0 + k * 5 + 3, none⟩ = some (.int .i64 o.2.2.2.1) ∧ w.cell? ⟨g, o0 + k * 5 + 4, none⟩ = some (sval o.2.2.2.2)) := fun k o hk => by
      obtain ⟨ao, n', c', e, h1, h2, h3, h4⟩ := HO.out.mono (L := fun q => q < w.heap.size) (by decide) (fun q hq _ => hq)
      simp only [Value.slice.injEq] at e
      obtain ⟨rfl, rfl, rfl⟩ := e
      have kl := (List.getElem?_eq_some_iff.1 hk).1
      have eon : ON = l.length := EON.out
      obtain ⟨g, o0, ea, gl, hc⟩ := h4 (by omega)
      have at_ : ∀ (j : Nat) (u : Value), j < 5 → (oenc o)[j]? = some u → w.cell? ⟨g, o0 + k * 5 + j, none⟩ = some u := fun j u hj hu => by
        have := hc (k * 5 + j) u ((fcells_at encO hk hj).trans hu)
        rwa [← Nat.add_assoc] at this
      exact ⟨g, o0, ea, gl, at_ 0 _ (by decide) rfl, at_ 1 _ (by decide) rfl, at_ 2 _ (by decide) rfl, at_ 3 _ (by decide) rfl, at_ 4 _ (by decide) rfl⟩
    have OPM : Hid (∀ (k : Nat) (o : OpS), lm[k]? = some o → ∃ g o0, mo = some ⟨g, o0, none⟩ ∧ g < w.heap.size ∧ w.cell? ⟨g, o0 + k * 5, none⟩ = some (.int .i64 o.1) ∧ w.cell? ⟨g, o0 + k * 5 + 1, none⟩ = some (.int .i64 o.2.1) ∧ w.cell? ⟨g, o0 + k * 5 + 2, none⟩ = some (.int .i64 o.2.2.1) ∧ w.cell? ⟨g, o0 + k * 5 + 3, none⟩ = some (.int .i64 o.2.2.2.1) ∧ w.cell? ⟨g, o0 + k * 5 + 4, none⟩ = some (sval o.2.2.2.2)) := fun k o hk => by
      obtain ⟨ao, n', c', e, h1, h2, h3, h4⟩ := HM.out.mono (L := fun q => q < w.heap.size) (by decide) (fun q hq _ => hq)
      simp only [Value.slice.injEq] at e
      obtain ⟨rfl, rfl, rfl⟩ := e
      have kl := (List.getElem?_eq_some_iff.1 hk).1
      have eon : MN = lm.length := EMN.out
      obtain ⟨g, o0, ea, gl, hc⟩ := h4 (by omega)
      have at_ : ∀ (j : Nat) (u : Value), j < 5 → (oenc o)[j]? = some u → w.cell? ⟨g, o0 + k * 5 + j, none⟩ = some u := fun j u hj hu => by
        have := hc (k * 5 + j) u ((fcells_at encO hk hj).trans hu)
        rwa [← Nat.add_assoc] at this
      exact ⟨g, o0, ea, gl, at_ 0 _ (by decide) rfl, at_ 1 _ (by decide) rfl, at_ 2 _ (by decide) rfl, at_ 3 _ (by decide) rfl, at_ 4 _ (by decide) rfl⟩
    go_loopw [8, 65] (fun nowv iv wr => ∃ (k : Nat) (now : Int), k ≤ ON ∧ nowv = .int .i64 now ∧ iv = .int .i64 (k : Int) ∧ 0 ≤ now ∧ now ≤ 100 * ((k : Int)) ∧ Hid (∃ cs, One w.heap.size wr mb cs b bs c fs k now ∧ Kept (fun q => q < w.heap.size) w wr)) (fun _ iv _ => (ON - intOf iv).toNat)
    case atStart => exact ⟨0, 0, by omega, rfl, rfl, by omega, by omega, ST0⟩
    case round =>
      obtain ⟨k, now, hk, rfl, rfl, t0, t1, hr⟩ := hrel
      clear ST0
      by_cases q : k < ON
      · have i1 : (k : Int) < (ON : Int) := by omega
        have i2 : (0 : Int) ≤ (k : Int) := by omega
        obtain ⟨cs, st, kpt⟩ := hr.out
        obtain ⟨⟨kind, R, level, later, text⟩, eo⟩ : ∃ o, l[k]? = some o := ⟨_, List.getElem?_eq_getElem (by have h2 : ON = l.length := EON.out; omega)⟩
        obtain ⟨g, o0, eoo, gl, x0, x1, x2, x3, x4⟩ := OPS.out k _ eo
        obtain ⟨t, tb, tp⟩ := HOB.out _ (List.mem_of_getElem? eo)
        replace x0 := kpt.cell (a := ⟨g, _, none⟩) gl x0
        replace x1 := kpt.cell (a := ⟨g, _, none⟩) gl x1
        replace x2 := kpt.cell (a := ⟨g, _, none⟩) gl x2
        replace x3 := kpt.cell (a := ⟨g, _, none⟩) gl x3
        replace x4 := kpt.cell (a := ⟨g, _, none⟩) gl x4
        simp only at x0 x1 x2 x3 x4 tb tp
        subst eoo
        have ST := hid st
        have KP := hid kpt
        have TB := hid tb
        have TP := hid tp
        obtain ⟨ta, tn, tc⟩ := text
        clear hr st kpt tb tp OPS OPM eo
        unfold sval at x4
        simp only at x4
        obtain ⟨nw, enw⟩ : ∃ nw, nw = now + (if later < 0 then 0 else if 100 < later then 100 else later) := ⟨_, rfl⟩
        have LA := hid (fun W => later_any now later W t0 (by omega))
        have nb : now ≤ nw ∧ nw ≤ now + 100 := by rw [enw]; split <;> (try split) <;> omega
        rw [← enw] at LA
        clear enw
        obtain ⟨W1, eW1⟩ : ∃ W1, W1 = wr.alloc (.cells #[.int .i64 kind, .int .i64 R, .int .i64 level, .int .i64 later, .slice ta tn tc] 43) := ⟨_, rfl⟩
        have XW1 : Ext wr W1 := by rw [eW1]; exact (Ext.refl wr).alloc _
        have OPR : Hid (W1.heap[wr.heap.size]? = some (.cells #[.int .i64 kind, .int .i64 R, .int .i64 level, .int .i64 later, .slice ta tn tc] 43 (0, 0))) := by rw [eW1]; exact heap_alloc_new wr _
        have ST1 := hid (ST.out.ext XW1)
        have MR1 := hid ST1.out.row
        have KP1 := hid (KP.out.trans (Kept.of_ext XW1))
        have EW1 := hid eW1
        have SZ := hid ST.out.cells.2.1
        have STP := hid (ST1.out.step (by omega) (by have h1 := EFN.out; have h2 := FNB.out; omega) HFB.out kind R level later (.slice ta tn tc) t ((bytes_rowK TB.out).kept KP1.out) TP.out nw (by omega) (by omega) nb.1)
        clear eW1 XW1
        go_wp2_with fail
        rw [← EW1.out]
        refine (LA.out _).mono ?_
        rintro e w4 ⟨rfl, rfl⟩
        clear LA
        go_wp2_with (first
          | refine wpList_load_row rfl 40 (.tmp 7) rfl mb rfl 40 _ (0, 0) _ MR1.out Try.underlying40 rfl (by rw [SZ.out]; exact size_model) ?_
          | refine wpList_load_row rfl 43 (.tmp 10) rfl wr.heap.size rfl 43 _ (0, 0) _ OPR.out Try.underlying43 rfl (by kernel_rfl) ?_)
        clear x0 x1 x2 x3 x4
        refine STP.out.mono ?_
        rintro e w5 ⟨cs', rfl, mr5, one5, sz5, st6, kp6⟩
        have MR5 := hid mr5
        have ONE := hid one5
        have SZ5 := hid sz5
        have KP6 := hid (KP1.out.trans kp6)
        have ST6 := hid st6
        clear mr5 one5 sz5 st6 kp6 STP
        obtain ⟨W6, eW6⟩ : ∃ W6, W6 = w5.setRow mb cs' := ⟨_, rfl⟩
        have EW6 := hid eW6
        rw [← eW6] at ST6 KP6
        clear eW6
        have FIN : Hid (∃ cs, One w.heap.size W6 mb cs b bs c fs ((k + 1)) nw ∧ Kept (fun q => q < w.heap.size) w W6) := ⟨_, ST6.out, KP6.out⟩
        clear ST6 KP6
        go_wp2_with (first
          | (refine wpList_store_row rfl 40 (.tmp 7) (.tmp 79) rfl mb _ rfl rfl 40 _ MR5.out (by rw [SZ5.out]; exact size_model) (by first | rw [SZ.out, SZ5.out] | rw [SZ5.out, SZ.out]) ONE.out ?_; rw [← EW6.out]))
        go_roundw
        case rel => exact ⟨k + 1, nw, by omega, rfl, by go_num, by omega, by push_cast; omega, FIN⟩
        case measure => simp [intOf]; omega
      · obtain rfl : ON = k := by omega
        obtain ⟨cs, st, kpt⟩ := hr.out
        have ST := hid st
        have KP := hid kpt
        clear hr st kpt q
        obtain ⟨wx, ewx⟩ : ∃ wx, wx = wr := ⟨_, rfl⟩
        rw [← ewx] at ST KP ⊢
        clear ewx wr
        have tt0 := t0
        have tt1 := t1
        obtain ⟨now1, en1⟩ : ∃ n1, n1 = now := ⟨_, rfl⟩
        rw [← en1] at ST tt0 tt1 ⊢
        clear t0 t1 en1
        have CP := hid (ST.out.copy (by have h1 := EFN.out; have h2 := FNB.out; omega))
        have SZ := hid ST.out.cells.2.1
        have ONE := hid ST.out.cells.1
        have MR := hid ST.out.row
        obtain ⟨cs1, ecs1⟩ : ∃ cs1, cs1 = cs := ⟨_, rfl⟩
        rw [← ecs1] at CP SZ ONE MR
        clear ST ecs1
        go_wp2_with fail
        refine CP.out.mono ?_
        rintro e w5 ⟨cb, cbs, rfl, hf, x5⟩
        obtain ⟨xb, exb⟩ : ∃ xb, xb = w5.heap.size := ⟨_, rfl⟩
        have MR5 := hid (x5.row MR.out)
        obtain ⟨W6, eW6⟩ : ∃ W6, W6 = w5.alloc (.cells zmod 40) := ⟨_, rfl⟩
        have XB : Hid (W6.heap[xb]? = some (.cells zmod 40 (0, 0))) := by rw [eW6, exb]; exact heap_alloc_new w5 _
        obtain ⟨W7, eW7⟩ : ∃ W7, W7 = W6.setRow xb cs1 := ⟨_, rfl⟩
        have BOX := hf.box (cs := cs1) (show Ext w5 W6 from by rw [eW6]; exact (Ext.refl w5).alloc _) (Nat.le_of_eq exb.symm) XB.out
        rw [← eW7] at BOX
        have SEC2 : Hid (∃ cs, Two w.heap.size W7 mb cs1 b bs ON now1 xb cs cb cbs (ON + 0) now1 c fs ∧ Kept (fun q => q < w.heap.size) w W7) := ⟨_, BOX.1, ((KP.out.trans (Kept.of_ext x5)).trans BOX.2)⟩
        unfold zmod at eW6
        have EW6 := hid eW6
        have EW7 := hid eW7
        have EXB := hid exb
        clear eW6 eW7 exb BOX hf x5 MR CP KP cs
        go_wp2_with (first
          | refine wpList_load_row rfl 40 (.tmp 7) rfl mb rfl 40 _ (0, 0) _ MR5.out Try.underlying40 rfl (by rw [SZ.out]; exact size_model) ?_
          | (rw [← EW6.out, ← EXB.out]; refine wpList_store_row rfl 40 (.tmp 12) (.tmp 86) rfl xb _ rfl rfl 40 _ XB.out (by rw [SZ.out]; exact size_model) (by rw [SZ.out]; rfl) ONE.out ?_; rw [← EW7.out]))
        go_loopw [13, 90] (fun nowv iv wr => ∃ (k : Nat) (now : Int), k ≤ MN ∧ nowv = .int .i64 now ∧ iv = .int .i64 (k : Int) ∧ 0 ≤ now ∧ now ≤ 100 * ((ON : Int) + (k : Int)) ∧ Hid (∃ cs, Two w.heap.size wr mb cs1 b bs ON now1 xb cs cb cbs (ON + k) now c fs ∧ Kept (fun q => q < w.heap.size) w wr)) (fun _ iv _ => (MN - intOf iv).toNat)
        case atStart => exact ⟨0, now1, by omega, rfl, rfl, tt0, by omega, SEC2⟩
        case round =>
          obtain ⟨k, now, hk, rfl, rfl, t0, t1, hr⟩ := hrel
          clear SEC2
          by_cases q : k < MN
          · have i1 : (k : Int) < (MN : Int) := by omega
            have i2 : (0 : Int) ≤ (k : Int) := by omega
            obtain ⟨cs, st, kpt⟩ := hr.out
            obtain ⟨⟨kind, R, level, later, text⟩, eo⟩ : ∃ o, lm[k]? = some o := ⟨_, List.getElem?_eq_getElem (by have h2 : MN = lm.length := EMN.out; omega)⟩
            obtain ⟨g, o0, eoo, gl, x0, x1, x2, x3, x4⟩ := OPM.out k _ eo
            obtain ⟨t, tb, tp⟩ := HMB.out _ (List.mem_of_getElem? eo)
            replace x0 := kpt.cell (a := ⟨g, _, none⟩) gl x0
            replace x1 := kpt.cell (a := ⟨g, _, none⟩) gl x1
            replace x2 := kpt.cell (a := ⟨g, _, none⟩) gl x2
            replace x3 := kpt.cell (a := ⟨g, _, none⟩) gl x3
            replace x4 := kpt.cell (a := ⟨g, _, none⟩) gl x4
            simp only at x0 x1 x2 x3 x4 tb tp
            subst eoo
            have ST := hid st
            have KP := hid kpt
            have TB := hid tb
            have TP := hid tp
            obtain ⟨ta, tn, tc⟩ := text
            clear hr st kpt tb tp OPS OPM eo
            unfold sval at x4
            simp only at x4
            obtain ⟨nw, enw⟩ : ∃ nw, nw = now + (if later < 0 then 0 else if 100 < later then 100 else later) := ⟨_, rfl⟩
            have LA := hid (fun W => later_any now later W t0 (by omega))
            have nb : now ≤ nw ∧ nw ≤ now + 100 := by rw [enw]; split <;> (try split) <;> omega
            rw [← enw] at LA
            clear enw
            obtain ⟨W1, eW1⟩ : ∃ W1, W1 = wr.alloc (.cells #[.int .i64 kind, .int .i64 R, .int .i64 level, .int .i64 later, .slice ta tn tc] 43) := ⟨_, rfl⟩
            have XW1 : Ext wr W1 := by rw [eW1]; exact (Ext.refl wr).alloc _
            have OPR : Hid (W1.heap[wr.heap.size]? = some (.cells #[.int .i64 kind, .int .i64 R, .int .i64 level, .int .i64 later, .slice ta tn tc] 43 (0, 0))) := by rw [eW1]; exact heap_alloc_new wr _
            have ST1 := hid (ST.out.ext XW1)
            have MR1 := hid ST1.out.other.row
            have KP1 := hid (KP.out.trans (Kept.of_ext XW1))
            have EW1 := hid eW1
            have SZ := hid ST.out.other.cells.2.1
            have STP := hid (ST1.out.step (by omega) (by have h1 := EFN.out; have h2 := FNB.out; omega) HFB.out kind R level later (.slice ta tn tc) t ((bytes_rowK TB.out).kept KP1.out) TP.out nw (by omega) (by omega) nb.1)
            clear eW1 XW1
            go_wp2_with fail
            rw [← EW1.out]
            refine (LA.out _).mono ?_
            rintro e w4 ⟨rfl, rfl⟩
            clear LA
            go_wp2_with (first
              | refine wpList_load_row rfl 40 (.tmp 12) rfl xb rfl 40 _ (0, 0) _ MR1.out Try.underlying40 rfl (by rw [SZ.out]; exact size_model) ?_
              | refine wpList_load_row rfl 43 (.tmp 15) rfl wr.heap.size rfl 43 _ (0, 0) _ OPR.out Try.underlying43 rfl (by kernel_rfl) ?_)
            clear x0 x1 x2 x3 x4
            refine STP.out.mono ?_
            rintro e w5 ⟨cs', rfl, mr5, one5, sz5, st6, kp6⟩
            have MR5 := hid mr5
            have ONE := hid one5
            have SZ5 := hid sz5
            have KP6 := hid (KP1.out.trans kp6)
            have ST6 := hid st6
            clear mr5 one5 sz5 st6 kp6 STP
            have SM := hid ST6.out.other.same
            obtain ⟨av', lv', fv', u', s', ecs⟩ := ST6.out.other.cells.2.2
            obtain ⟨s0, s1, s2, s3, s4, s5⟩ := s'
            have CELL : ∀ (i : Nat) (v : Value), (mcs c av' lv' fv' u' (s0, s1, s2, s3, s4, s5))[i]? = some v → (w5.setRow xb cs').cell? ⟨xb, i, none⟩ = some v := fun i v hv => by rw [cell_of_row _ _ i _ _ _ ST6.out.other.row, ecs, hv]
            have c0 := CELL 0 _ rfl
            have c1 := CELL 1 _ rfl
            have c2 := CELL 2 _ rfl
            have c3 := CELL 3 _ rfl
            have c4 := CELL 4 _ rfl
            have c5 := CELL 5 _ rfl
            have c6 := CELL 6 _ rfl
            have c7 := CELL 7 _ rfl
            have c8 := CELL 8 _ rfl
            have c9 := CELL 9 _ rfl
            have c10 := CELL 10 _ rfl
            have c11 := CELL 11 _ rfl
            have c12 := CELL 12 _ rfl
            have c13 := CELL 13 _ rfl
            have c14 := CELL 14 _ rfl
            obtain ⟨W6, eW6⟩ : ∃ W6, W6 = w5.setRow xb cs' := ⟨_, rfl⟩
            have EW6 := hid eW6
            rw [← eW6] at ST6 KP6 SM c0 c1 c2 c3 c4 c5 c6 c7 c8 c9 c10 c11 c12 c13 c14
            rw [ecs] at SM
            clear eW6 ecs CELL
            go_wp2_with (first
              | (refine wpList_store_row rfl 40 (.tmp 12) (.tmp 104) rfl xb _ rfl rfl 40 _ MR5.out (by rw [SZ5.out]; exact size_model) (by first | rw [SZ.out, SZ5.out] | rw [SZ5.out, SZ.out]) ONE.out ?_; rw [← EW6.out]))
            refine SM.out.mono ?_
            rintro e w7 ⟨rfl, x7⟩
            have FIN : Hid (∃ cs, Two w.heap.size w7 mb cs1 b bs ON now1 xb cs cb cbs (ON + (k + 1)) nw c fs ∧ Kept (fun q => q < w.heap.size) w w7) := ⟨_, ST6.out.ext x7, KP6.out.trans (Kept.of_ext x7)⟩
            clear SM ST6 KP6 x7 MR5 ONE
            go_wp2_with fail
            go_roundw
            case rel => exact ⟨k + 1, nw, by omega, rfl, by go_num, by omega, by push_cast; omega, FIN⟩
            case measure => simp [intOf]; omega
          · obtain rfl : MN = k := by omega
            obtain ⟨cs, st, kpt⟩ := hr.out
            have ST := hid st
            have KP := hid kpt
            clear hr st kpt q
            obtain ⟨wy, ewy⟩ : ∃ wy, wy = wr := ⟨_, rfl⟩
            rw [← ewy] at ST KP ⊢
            clear ewy wr
            have M3 := hid ST.out.one
            have SM := hid ST.out.one.same
            have MR := hid ST.out.one.row
            have SZ := hid ST.out.one.cells.2.1
            clear ST
            go_wp2_with (first
              | refine wpList_load_row rfl 40 (.tmp 7) rfl mb rfl 40 _ (0, 0) _ MR.out Try.underlying40 rfl (by rw [SZ.out]; exact size_model) ?_)
            refine SM.out.mono ?_
            rintro e wt ⟨rfl, xt⟩
            have SEC3 : Hid (∃ cs, One w.heap.size wt mb cs b bs c fs (ON + 0) now1 ∧ Kept (fun q => q < w.heap.size) w wt) := ⟨_, M3.out.ext xt, KP.out.trans (Kept.of_ext xt)⟩
            clear SM MR SZ M3 KP xt
            go_wp2_with fail
            go_loopw [8, 121] (fun nowv iv wr => ∃ (k : Nat) (now : Int), k ≤ MN ∧ nowv = .int .i64 now ∧ iv = .int .i64 (k : Int) ∧ 0 ≤ now ∧ now ≤ 100 * ((ON : Int) + (k : Int)) ∧ Hid (∃ cs, One w.heap.size wr mb cs b bs c fs (ON + k) now ∧ Kept (fun q => q < w.heap.size) w wr)) (fun _ iv _ => (MN - intOf iv).toNat)
            case atStart => exact ⟨0, now1, by omega, rfl, rfl, tt0, by omega, SEC3⟩
            case round =>
              obtain ⟨k, now, hk, rfl, rfl, t0, t1, hr⟩ := hrel
              clear SEC3
              by_cases q : k < MN
              · have i1 : (k : Int) < (MN : Int) := by omega
                have i2 : (0 : Int) ≤ (k : Int) := by omega
                obtain ⟨cs, st, kpt⟩ := hr.out
                obtain ⟨⟨kind, R, level, later, text⟩, eo⟩ : ∃ o, lm[k]? = some o := ⟨_, List.getElem?_eq_getElem (by have h2 : MN = lm.length := EMN.out; omega)⟩
                obtain ⟨g, o0, eoo, gl, x0, x1, x2, x3, x4⟩ := OPM.out k _ eo
                obtain ⟨t, tb, tp⟩ := HMB.out _ (List.mem_of_getElem? eo)
                replace x0 := kpt.cell (a := ⟨g, _, none⟩) gl x0
                replace x1 := kpt.cell (a := ⟨g, _, none⟩) gl x1
                replace x2 := kpt.cell (a := ⟨g, _, none⟩) gl x2
                replace x3 := kpt.cell (a := ⟨g, _, none⟩) gl x3
                replace x4 := kpt.cell (a := ⟨g, _, none⟩) gl x4
                simp only at x0 x1 x2 x3 x4 tb tp
                subst eoo
                have ST := hid st
                have KP := hid kpt
                have TB := hid tb
                have TP := hid tp
                obtain ⟨ta, tn, tc⟩ := text
                clear hr st kpt tb tp OPS OPM eo
                unfold sval at x4
                simp only at x4
                obtain ⟨nw, enw⟩ : ∃ nw, nw = now + (if later < 0 then 0 else if 100 < later then 100 else later) := ⟨_, rfl⟩
                have LA := hid (fun W => later_any now later W t0 (by omega))
                have nb : now ≤ nw ∧ nw ≤ now + 100 := by rw [enw]; split <;> (try split) <;> omega
                rw [← enw] at LA
                clear enw
                obtain ⟨W1, eW1⟩ : ∃ W1, W1 = wr.alloc (.cells #[.int .i64 kind, .int .i64 R, .int .i64 level, .int .i64 later, .slice ta tn tc] 43) := ⟨_, rfl⟩
                have XW1 : Ext wr W1 := by rw [eW1]; exact (Ext.refl wr).alloc _
                have OPR : Hid (W1.heap[wr.heap.size]? = some (.cells #[.int .i64 kind, .int .i64 R, .int .i64 level, .int .i64 later, .slice ta tn tc] 43 (0, 0))) := by rw [eW1]; exact heap_alloc_new wr _
                have ST1 := hid (ST.out.ext XW1)
                have MR1 := hid ST1.out.row
                have KP1 := hid (KP.out.trans (Kept.of_ext XW1))
                have EW1 := hid eW1
                have SZ := hid ST.out.cells.2.1
                have STP := hid (ST1.out.step (by omega) (by have h1 := EFN.out; have h2 := FNB.out; omega) HFB.out kind R level later (.slice ta tn tc) t ((bytes_rowK TB.out).kept KP1.out) TP.out nw (by omega) (by omega) nb.1)
                clear eW1 XW1
                go_wp2_with fail
                rw [← EW1.out]
                refine (LA.out _).mono ?_
                rintro e w4 ⟨rfl, rfl⟩
                clear LA
                go_wp2_with (first
                  | refine wpList_load_row rfl 40 (.tmp 7) rfl mb rfl 40 _ (0, 0) _ MR1.out Try.underlying40 rfl (by rw [SZ.out]; exact size_model) ?_
                  | refine wpList_load_row rfl 43 (.tmp 18) rfl wr.heap.size rfl 43 _ (0, 0) _ OPR.out Try.underlying43 rfl (by kernel_rfl) ?_)
                clear x0 x1 x2 x3 x4
                refine STP.out.mono ?_
                rintro e w5 ⟨cs', rfl, mr5, one5, sz5, st6, kp6⟩
                have MR5 := hid mr5
                have ONE := hid one5
                have SZ5 := hid sz5
                have KP6 := hid (KP1.out.trans kp6)
                have ST6 := hid st6
                clear mr5 one5 sz5 st6 kp6 STP
                obtain ⟨W6, eW6⟩ : ∃ W6, W6 = w5.setRow mb cs' := ⟨_, rfl⟩
                have EW6 := hid eW6
                rw [← eW6] at ST6 KP6
                clear eW6
                have FIN : Hid (∃ cs, One w.heap.size W6 mb cs b bs c fs (ON + (k + 1)) nw ∧ Kept (fun q => q < w.heap.size) w W6) := ⟨_, ST6.out, KP6.out⟩
                clear ST6 KP6
                go_wp2_with (first
                  | (refine wpList_store_row rfl 40 (.tmp 7) (.tmp 135) rfl mb _ rfl rfl 40 _ MR5.out (by rw [SZ5.out]; exact size_model) (by first | rw [SZ.out, SZ5.out] | rw [SZ5.out, SZ.out]) ONE.out ?_; rw [← EW6.out]))
                go_roundw
                case rel => exact ⟨k + 1, nw, by omega, rfl, by go_num, by omega, by push_cast; omega, FIN⟩
                case measure => simp [intOf]; omega
              · obtain rfl : MN = k := by omega
                obtain ⟨cs, st, kpt⟩ := hr.out
                have ST := hid st
                have KP := hid kpt
                clear hr st kpt q
                obtain ⟨wz, ewz⟩ : ∃ wz, wz = wr := ⟨_, rfl⟩
                rw [← ewz] at ST KP ⊢
                clear ewz wr
                have XX : Hid (Ext w wz) := KP.out.below (Nat.le_refl _) (fun i hi => hi)
                clear ST KP OPS OPM
                go_wp2_with fail
                refine (AW.out _).mono ?_
                rintro e w7 ⟨rfl, x7⟩
                have X7 := hid (XX.out.trans x7)
                clear x7
                go_wp2_with fail
                go_ret
                exact ⟨rfl, X7.out⟩

theorem walk (v0 : Value) (z : Cfg × Value × List (Int × Int) × Value × List OpS) (v1 : Value) (lm : List OpS) (w : World) (hz : CaseIn w v0 z) (hm : CallsIn_ w v1 lm) (hl : z.2.2.2.2.length ≤ 1048576) (ht : ∀ o ∈ z.2.2.2.2, o.2.2.2.2.2.1 ≤ 1048576) (hl1 : lm.length ≤ 1048576) (ht1 : ∀ o ∈ lm, o.2.2.2.2.2.1 ≤ 1048576) : Calls Try.prog 4 #[v0, v1] w fun e w' => e = .returned (.bool true) ∧ Ext w w' := by
  obtain ⟨rfl, hF, hO⟩ := hz
  exact walk0 z.1 z.2.1 z.2.2.1 z.2.2.2.1 z.2.2.2.2 v1 lm w hF hO hl ht hm hl1 ht1
end Go.Proofs.Ytjmgigfaiaemeaa.simnetCopies
