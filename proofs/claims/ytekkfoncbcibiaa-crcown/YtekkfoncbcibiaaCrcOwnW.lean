/-
  The walk of CrcOwn: what is handed in is not changed, nor its spare room; what is told is new memory.
-/
import Derived.Test.YtekkfoncbcibiaaCrcSumsW
namespace Go.Proofs.Ytekkfoncbcibiaa.crcOwn
set_option linter.unusedVariables false
open Go.RowKit Go.Lib

theorem make_room (n : Nat) (h : n ≤ 1000) (w : World) :
    (Instr.makeSlice 22 (.int .i64 0) (.int .i64 ((n : Int) + 20))).run Try.prog w = .ok (.slice (some ⟨w.heap.size, 0, none⟩) 0 (n + 20)) (w.alloc (.cells (zeros (n + 20)).toArray 5)) := by
  obtain ⟨i0, hi, hz0, hz1, hz2⟩ := info_parts info_byte
  have := run_make (P := Try.prog) w 22 5 i0 (.int .u8 0) Try.underlying22 hi hz0 .i64 .i64 0 ((n + 20 : Nat) : Int) (by omega) (by omega) (by rw [hz2]; omega) (by omega)
  rw [hz1, Nat.mul_one] at this
  unfold zeros
  rw [Array.toArray_toList]
  exact this

/-- a copy of a, at the row's head -/
theorem first_in (w : World) (u : Value) (a : List UInt8) (hu : Bytes w u a) (hp : Plain u) (hl : a.length ≤ 1000) :
    (Builtin.append_ #[22, 22] 22 #[.slice (some ⟨w.heap.size, 0, none⟩) 0 (a.length + 20), u]).run Try.prog (w.alloc (.cells (zeros (a.length + 20)).toArray 5)) =
      .ok (.slice (some ⟨w.heap.size, 0, none⟩) a.length (a.length + 20)) (w.alloc (.cells (bcells a ++ (zeros (a.length + 20)).drop a.length).toArray 5)) := by
  obtain ⟨i0, hi, hz0, hz1, hz2⟩ := info_parts info_byte
  have zl := zeros_length (a.length + 20)
  have hu1 := hu.ext ((Ext.refl w).alloc (.cells (zeros (a.length + 20)).toArray 5))
  have hg : (w.alloc (.cells (zeros (a.length + 20)).toArray 5)).heap[w.heap.size]? = some (.cells (zeros (a.length + 20)).toArray 5 (0, 0)) := heap_alloc_new w _
  rcases hp with rfl | ⟨ad, n, c, rfl⟩
  · obtain ⟨e1, _⟩ := hu.src
    have e : a = [] := List.eq_nil_of_length_eq_zero e1.symm
    subst e
    have := run_append_owned_none (P := Try.prog) (w := w.alloc (.cells (zeros 20).toArray 5)) w.heap.size 22 22 5 i0 1 Try.underlying22 hi (.slice (some ⟨w.heap.size, 0, none⟩) 0 20) 0 [] (World.ownsRow_made w _ 20 (Nat.le_refl _) (by unfold maxLen; omega) (by rw [List.size_toArray]; exact zeros_length 20))
    exact this
  · obtain ⟨rfl, e2⟩ := hu1.src
    have := run_append_room (P := Try.prog) (w.alloc (.cells (zeros (a.length + 20)).toArray 5)) 22 22 5 i0 Try.underlying22 hi w.heap.size 0 (a.length + 20) (zeros (a.length + 20)).toArray hg ad a.length c (bcells a) (by rw [bcells_length, hz1]; omega) (fun j x hx => by
      obtain ⟨ad', ha, h⟩ := e2 (Nat.lt_of_le_of_lt (Nat.zero_le j) (List.getElem?_eq_some_iff.1 hx).1)
      cases ha
      exact h j x hx) (bcells_one a) (by omega) (by rw [List.size_toArray, zl, bcells_length]; omega)
    rw [this, setRow_new, hz1]
    simp only [Nat.zero_mul, List.take_zero, List.nil_append, Nat.zero_add, bcells_length]

/-- six sevens behind it -/
theorem then_in (w : World) (n : Nat) (A R : List Value) (hA : A.length = n) (hR : R.length = 20) (g : Nat) (hg : w.heap[g]? = some (.cells (A ++ R).toArray 5 (0, 0))) :
    (Builtin.append_ #[22, 22] 22 #[.slice (some ⟨g, 0, none⟩) n (n + 20), .slice (some ⟨w.heap.size, 0, none⟩) 6 6]).run Try.prog (w.alloc (.cells #[.int .u8 7, .int .u8 7, .int .u8 7, .int .u8 7, .int .u8 7, .int .u8 7] 5)) =
      .ok (.slice (some ⟨g, 0, none⟩) (n + 6) (n + 20)) ((w.alloc (.cells #[.int .u8 7, .int .u8 7, .int .u8 7, .int .u8 7, .int .u8 7, .int .u8 7] 5)).setRow g (A ++ (bcells [7, 7, 7, 7, 7, 7] ++ R.drop 6)).toArray) := by
  obtain ⟨i0, hi, hz0, hz1, hz2⟩ := info_parts info_byte
  have hlt : g < w.heap.size := (Array.getElem?_eq_some_iff.1 hg).1
  have hg' := ((Ext.refl w).alloc (.cells #[.int .u8 7, .int .u8 7, .int .u8 7, .int .u8 7, .int .u8 7, .int .u8 7] 5)).row hg
  have hb := block_bytes (l := [7, 7, 7, 7, 7, 7]) (heap_alloc_new w (.cells #[.int .u8 7, .int .u8 7, .int .u8 7, .int .u8 7, .int .u8 7, .int .u8 7] 5)) (by simp)
  obtain ⟨_, e2⟩ := hb.src
  obtain ⟨ad', ha, h⟩ := e2 (by rw [bcells_length]; simp)
  have hx : ∀ j x, (bcells [7, 7, 7, 7, 7, 7])[j]? = some x → (w.alloc (.cells #[.int .u8 7, .int .u8 7, .int .u8 7, .int .u8 7, .int .u8 7, .int .u8 7] 5)).cell? ((⟨w.heap.size, 0, none⟩ : Addr).add j) = some x := by
    cases ha
    exact h
  have := run_append_room (P := Try.prog) (w.alloc (.cells #[.int .u8 7, .int .u8 7, .int .u8 7, .int .u8 7, .int .u8 7, .int .u8 7] 5)) 22 22 5 i0 Try.underlying22 hi g n (n + 20) (A ++ R).toArray hg' ⟨w.heap.size, 0, none⟩ 6 6 (bcells [7, 7, 7, 7, 7, 7]) (by rw [bcells_length, hz1]; rfl) hx (bcells_one _) (by omega) (by rw [List.size_toArray, List.length_append, bcells_length, hz1, hA, hR]; simp)
  rw [this, hz1, Nat.mul_one, bcells_length]
  congr 3
  subst hA
  rw [List.take_left, List.append_assoc]
  congr 2
  rw [List.drop_append, List.drop_eq_nil_of_le (by omega), List.nil_append]
  congr 1
  simp

theorem turn_all (v : Value) (l : List UInt8) (bit : Int) (w : World) (hv : Bytes w v l) (hl : l.length ≤ 100000) (b0 : -9223372036854775808 ≤ bit) (b1 : bit ≤ 9223372036854775807) :
    Calls Try.prog 14 #[v, .int .i64 bit] w fun e w' => e = .returned (.slice (some ⟨w.heap.size, 0, none⟩) l.length l.length) ∧ Row w' w.heap.size (cturn l bit) ∧ Ext w w' := by
  rcases Nat.eq_zero_or_pos l.length with h0 | h0
  · have c := turn_empty v l bit w hv h0
    have e : l = [] := List.eq_nil_of_length_eq_zero h0
    subst e
    exact c
  · exact turn_any v l bit w hv hl h0 b0 b1

/-- the world in which the row g is spoilt, and nothing else -/
def Spoilt (w0 wr : World) (g n : Nat) : Prop := ∃ L : List UInt8, L.length = n ∧ Row wr g L ∧ w0.grownBy wr (some g)
theorem Spoilt.start {w : World} {g : Nat} {L : List UInt8} {n : Nat} (h : Row w g L) (hn : L.length = n) : Spoilt w w g n := ⟨L, hn, h, rfl, rfl, rfl, Nat.le_refl _, fun _ _ _ => rfl⟩
theorem Spoilt.step {w0 wr : World} {g n : Nat} (h : Spoilt w0 wr g n) (k : Nat) (hk : k < n) :
    ∃ x : Nat, x < 256 ∧ wr.cell? ⟨g, k, none⟩ = some (.int .u8 x) ∧ wr.frozen? ⟨g, k, none⟩ = false ∧ ∀ y : Int, y = (((x + 1) % 256 : Nat) : Int) → Spoilt w0 (wr.setCell ⟨g, k, none⟩ (.int .u8 y)) g n := by
  obtain ⟨L, hn, r, gr⟩ := h
  refine ⟨(L.getD k 0).toNat, byte_room _, r.cell k (by omega), frozen_of_row _ _ _ _ _ r, fun y hy => ⟨L.set k (UInt8.ofNat ((L.getD k 0).toNat + 1)), by rw [List.length_set, hn], ?_, ?_⟩⟩
  · show (wr.setCell ⟨g, k, none⟩ (.int .u8 y)).heap[g]? = _
    rw [setCell_eq_setRow _ _ _ _ _ _ _ r, setRow_heap _ _ _ _ _ _ r, byte_val _ _ hy]
    unfold bcells
    rw [List.map_set]
    simp
  · rw [setCell_eq_setRow _ _ _ _ _ _ _ r]
    exact ⟨gr.os, gr.tape, gr.output, by simpa using gr.size, fun i hi hne => (setRow_other _ g i _ (fun e => hne (by rw [e]))).trans (gr.block i hi hne)⟩
theorem Spoilt.grown {w0 wr : World} {g n : Nat} (h : Spoilt w0 wr g n) : w0.grownBy wr (some g) := by obtain ⟨_, _, _, gr⟩ := h; exact gr

set_option maxHeartbeats 4000000 in
theorem walk (v0 : Value) (a : List UInt8) (bit : Int) (w : World) (ha : Bytes w v0 a) (pa : Plain v0) (wb : (Lit.int .i64 bit).wf = true) :
    Calls Try.prog 6 #[v0, .int .i64 bit] w fun e w' => e = .returned (.bool true) ∧ Ext w w' := by
  obtain ⟨b0, b0'⟩ := bounds_i64 wb
  clear wb
  have HA := hid ha
  have PA := hid pa
  obtain ⟨ao, ca, rfl, qa1, qa2, _⟩ := ha
  unfold maxLen at qa2
  clear pa
  by_cases t1 : 500 < a.length
  · have t1' : (500 : Int) < (a.length : Int) := by omega
    go_enter Try.func6, Try.ntmps6
    go_wp2_with fail
    refine (awake6_any _).mono ?_
    rintro e w' ⟨rfl, X⟩
    go_wp2_with fail
    go_ret
    exact ⟨rfl, X⟩
  · have t1' : decide ((500 : Int) < (a.length : Int)) = false := by simp; omega
    have la : a.length ≤ 500 := by omega
    have mk := make_room a.length (by omega) w
    have F1 := hid (first_in w _ a HA.out PA.out (by omega))
    obtain ⟨R, eR⟩ : ∃ R, R = (zeros (a.length + 20)).drop a.length := ⟨_, rfl⟩
    have RL : Hid (R.length = 20) := by show _ = _; rw [eR, List.length_drop, zeros_length]; omega
    rw [← eR] at F1
    obtain ⟨w2, e2⟩ : ∃ w2, w2 = w.alloc (.cells (bcells a ++ R).toArray 5) := ⟨_, rfl⟩
    rw [← e2] at F1
    have G2 : Hid (w2.heap[w.heap.size]? = some (.cells (bcells a ++ R).toArray 5 (0, 0))) := by rw [e2]; exact heap_alloc_new w _
    have S2 : Hid (w2.heap.size = w.heap.size + 1) := by show _ = _; rw [e2]; simp
    have X2 : Hid (Ext w w2) := by rw [e2]; exact (Ext.refl w).alloc _
    have F2 := hid (then_in w2 a.length (bcells a) R (bcells_length a) RL.out w.heap.size G2.out)
    obtain ⟨w4, e4⟩ : ∃ w4, w4 = (w2.alloc (.cells #[.int .u8 7, .int .u8 7, .int .u8 7, .int .u8 7, .int .u8 7, .int .u8 7] 5)).setRow w.heap.size (bcells a ++ (bcells [7, 7, 7, 7, 7, 7] ++ R.drop 6)).toArray := ⟨_, rfl⟩
    rw [← e4] at F2
    have G4 : Hid (w4.heap[w.heap.size]? = some (.cells (bcells a ++ (bcells [7, 7, 7, 7, 7, 7] ++ R.drop 6)).toArray 5 (0, 0))) := by
      show _ = _
      rw [e4]
      exact setRow_heap _ _ _ _ _ _ (((Ext.refl w2).alloc _).row G2.out)
    have X4 : Hid (Ext w w4) := by rw [e4]; exact (X2.out.alloc _).setRow (Nat.le_refl _) _
    have L4 : Hid (w.heap.size < w4.heap.size) := (Array.getElem?_eq_some_iff.1 G4.out).1
    have B4 : Hid (∀ W, W.heap[w.heap.size]? = some (.cells (bcells a ++ (bcells [7, 7, 7, 7, 7, 7] ++ R.drop 6)).toArray 5 (0, 0)) → Bytes W (.slice (some ⟨w.heap.size, 0, none⟩) a.length (a.length + 20)) a) := fun W hW =>
      ⟨_, a.length + 20, rfl, by omega, by unfold maxLen; omega, fun k hk => ⟨w.heap.size, 0, rfl, (Array.getElem?_eq_some_iff.1 hW).1, by
        rw [Nat.zero_add, cell_of_row W _ k _ _ _ hW, List.getElem?_toArray, List.getElem?_append_left (by rw [bcells_length]; exact hk), bcells_at a k hk]⟩⟩
    have SV : Hid (∀ (W : World) (k : Nat), W.heap[w.heap.size]? = some (.cells (bcells a ++ (bcells [7, 7, 7, 7, 7, 7] ++ R.drop 6)).toArray 5 (0, 0)) → k < 6 → W.cell? ⟨w.heap.size, a.length + k, none⟩ = some (.int .u8 7)) := fun W k hW hk => by
      rw [cell_of_row W _ _ _ _ _ hW, List.getElem?_toArray, List.getElem?_append_right (by rw [bcells_length]; omega), bcells_length, Nat.add_sub_cancel_left, List.getElem?_append_left (by rw [bcells_length]; exact hk)]
      match k, hk with
      | 0, _ | 1, _ | 2, _ | 3, _ | 4, _ | 5, _ => rfl
      | k + 6, hk => exact absurd hk (by omega)
    obtain ⟨RW, eW⟩ : ∃ RW, RW = (bcells a ++ (bcells [7, 7, 7, 7, 7, 7] ++ R.drop 6)).toArray := ⟨_, rfl⟩
    rw [← eW] at G4 B4 SV
    have C1 := hid (seal_any _ a w4 (B4.out w4 G4.out) (by omega))
    have i1 : (0 : Int) ≤ (a.length : Int) := by omega
    have i2 : (a.length : Int) ≤ ((a.length + 20 : Nat) : Int) := by omega
    have i3 : ¬ a.length + 20 = 0 := by omega
    clear t1 e2 e4 eR eW RL G2 S2 X2
    go_enter Try.func6, Try.ntmps6
    go_wp2_with (at_builtin; first | refine wpList_append_run rfl (.tmp 22) (.tmp 23) 22 rfl _ _ _ _ rfl rfl F1.out ?_ | refine wpList_append_run rfl (.tmp 24) (.tmp 25) 22 rfl _ _ _ _ rfl rfl F2.out ?_)
    refine C1.out.mono ?_
    rintro e w5 ⟨g, rfl, hg, r5, x5⟩
    have R5 := hid r5
    have X5 := hid x5
    have HG := hid hg
    have LG := hid r5.lt
    have C2 := hid (turn_all _ a bit w5 ((B4.out w4 G4.out).ext x5) (by omega) b0 b0')
    clear r5 x5 hg C1 F1 F2 mk
    go_wp2_with fail
    refine C2.out.mono ?_
    rintro e w6 ⟨rfl, r6, x6⟩
    have R6 := hid r6
    have X6 := hid x6
    have LH := hid r6.lt
    have RS := R5.out.ext x6
    have bs := RS.bytes (by rw [cseal_length]; omega)
    have C3 := hid (open_yes _ _ w6 bs (by rw [cseal_length]; omega) (copens_cseal _))
    rw [cseal_take, cseal_length, Nat.add_sub_cancel] at C3
    obtain ⟨h, eh⟩ : ∃ h, h = w5.heap.size := ⟨_, rfl⟩
    have EH := hid eh
    rw [← eh] at R6 LH
    rw [← eh]
    clear r6 x6 C2 RS bs eh
    go_wp2_with fail
    refine C3.out.mono ?_
    rintro e w7 ⟨r, rfl, hr, r7, x7⟩
    have HR := hid hr
    have LR := hid r7.lt
    have X7 := hid (X4.out.trans (X5.out.trans (X6.out.trans x7)))
    have X47 := hid (X5.out.trans (X6.out.trans x7))
    have R7 := hid r7
    have SG := hid (Spoilt.start ((R5.out.ext X6.out).ext x7) (cseal_length a))
    have TH := hid (R6.out.ext x7)
    have L7 := hid x7.size
    have L6 := hid X6.out.size
    have L5 := hid X5.out.size
    clear C3 hr r7 x7 X6 X5 R5 R6
    go_wp2_with fail
    go_loopw [43] (fun i wr => ∃ k : Nat, k ≤ a.length + 4 ∧ i = .int .i64 k ∧ Hid (Spoilt w7 wr g (a.length + 4))) (fun i _ => (a.length + 4 - intOf i).toNat)
    case atStart => exact ⟨0, by omega, rfl, SG⟩
    case round =>
      obtain ⟨k, hk, rfl, SK⟩ := hrel
      by_cases t2 : k < a.length + 4
      · obtain ⟨x, hx, c1, c2, c3⟩ := SK.out.step k t2
        have C3 := hid c3
        have j1 : (k : Int) < (a.length : Int) + 4 := by omega
        have j2 : (0 : Int) ≤ (k : Int) := by omega
        clear c3 SK SG
        go_wp2_with fail
        go_roundw
        case rel => exact ⟨k + 1, by omega, by go_num, C3.out _ (by simp)⟩
        case measure => simp [intOf]; omega
      · obtain rfl : k = a.length + 4 := by omega
        obtain ⟨w8, rfl⟩ : ∃ w8, w8 = wr := ⟨_, rfl⟩
        have G8 := hid SK.out.grown
        have nh : Hid (h ≠ g) := by show _ ≠ _; have := LG.out; rw [EH.out]; omega
        have SH : Hid (Spoilt w8 w8 h a.length) := Spoilt.start (L := cturn a bit) ((G8.out.block h TH.out.lt (by intro e; injection e with e; exact nh.out e)).trans TH.out) (cturn_length a bit)
        clear SG SK t2
        go_wp2_with fail
        go_loopw [55] (fun i wt => ∃ k : Nat, k ≤ a.length ∧ i = .int .i64 k ∧ Hid (Spoilt w8 wt h a.length)) (fun i _ => (a.length - intOf i).toNat)
        case atStart => exact ⟨0, by omega, rfl, SH⟩
        case round =>
          obtain ⟨k, hk, rfl, SK⟩ := hrel
          by_cases t2 : k < a.length
          · obtain ⟨x, hx, c1, c2, c3⟩ := SK.out.step k t2
            have C3 := hid c3
            have j1 : (k : Int) < (a.length : Int) := by omega
            have j2 : (0 : Int) ≤ (k : Int) := by omega
            clear c3 SK SH
            go_wp2_with fail
            go_roundw
            case rel => exact ⟨k + 1, by omega, by go_num, C3.out _ (by simp)⟩
            case measure => simp [intOf]; omega
          · obtain rfl : k = a.length := by omega
            obtain ⟨w9, rfl⟩ : ∃ w9, w9 = wr := ⟨_, rfl⟩
            have G9 := hid SK.out.grown
            have KP : Hid (∀ k, k < w7.heap.size → k ≠ g → k ≠ h → w9.heap[k]? = w7.heap[k]?) := fun k hk n1 n2 =>
              (G9.out.block k (Nat.lt_of_lt_of_le hk G8.out.size) (by intro e; injection e with e; exact n2 e)).trans (G8.out.block k hk (by intro e; injection e with e; exact n1 e))
            have z1 := L4.out
            have z2 := HG.out
            have z3 := LG.out
            have z4 := EH.out
            have z5 := LH.out
            have z6 := HR.out
            have z7 := LR.out
            have z8 := L7.out
            have z9 := L6.out
            have z10 := L5.out
            have XW : Hid (Ext w w9) := (X7.out.grown G8.out (by intro k hk; injection hk with hk; omega)).grown G9.out (by intro k hk; injection hk with hk; omega)
            have RR : Hid (Row w9 r a) := (KP.out r z7 (by omega) (by omega)).trans R7.out
            have GH : Hid (w9.heap[w.heap.size]? = some (.cells RW 5 (0, 0))) := (KP.out w.heap.size (by omega) (by omega) (by omega)).trans (X47.out.row G4.out)
            clear z1 z2 z3 z4 z5 z6 z7 z8 z9 z10
            have cv1 := (RR.out.bytes (by omega)).str
            have cv2 := (HA.out.ext XW.out).str
            have cv3 := (B4.out w9 GH.out).str
            have sv : Hid (∀ k, k < 6 → w9.cell? ⟨w.heap.size, a.length + k, none⟩ = some (.int .u8 7)) := fun k hk => SV.out w9 k GH.out hk
            generalize str a = SA at cv1 cv2 cv3
            have m1 : ¬ a.length + 20 = a.length := by omega
            have m2 : a.length + 20 - a.length = 20 := by omega
            have m3 : a.length + 6 - a.length = 6 := by omega
            have m4 : (a.length : Int) ≤ ((a.length + 6 : Nat) : Int) := by omega
            have m5 : (a.length : Int) ≤ (a.length : Int) + 6 := by omega
            clear SH SK t2 KP G8 G9 RR GH X7 X47 R7 TH L4 L5 L6 L7 HG LG EH LH HR LR SV B4 G4 X4 nh
            go_wp2_with fail
            go_loop [82] (fun i => ∃ k : Nat, k ≤ 6 ∧ i = .int .i64 k) (fun i => (6 - intOf i).toNat)
            case atStart => exact ⟨0, by omega, rfl⟩
            case round =>
              obtain ⟨k, hk, rfl⟩ := hrel
              by_cases t3 : k < 6
              · have c7 := sv.out k t3
                have j1 : (k : Int) < 6 := by omega
                have j2 : (0 : Int) ≤ (k : Int) := by omega
                go_wp2_with fail
                go_round
                case rel => exact ⟨k + 1, by omega, by go_num⟩
                case measure => simp [intOf]; omega
              · obtain rfl : k = 6 := by omega
                go_wp2_with fail
                refine (awake6_any _).mono ?_
                rintro e w10 ⟨rfl, x10⟩
                have X10 := hid (XW.out.trans x10)
                clear x10
                go_wp2_with fail
                go_ret
                exact ⟨rfl, X10.out⟩
end Go.Proofs.Ytekkfoncbcibiaa.crcOwn
