/-
  The walk of awake.
-/
import Derived.Test.YtjmgigfaiaemeaaMNew
import Derived.Test.YtjmgigfaiaemeaaSimOne
import Derived.Lib.SlBytesConst
namespace Go.Proofs.Ytjmgigfaiaemeaa.Sim
set_option linter.unusedVariables false
set_option maxRecDepth 100000
open Go.RowKit Go.Lib Go.Shelf Go.Proofs.Ytjmgigfaiaemeaa.Crc Go.Proofs.Ytjmgigfaiaemeaa.Grp
open Go.Proofs.Ytjmgigfaiaemeaa.Pip hiding NewR
attribute [local go_sem] Oper.semAt_some

/-- two bytes in a block -/
theorem bytes_two {K : Nat → Prop} {w : World} {f : Nat} {x y : UInt8} {m n : Int} {fr : Nat × Nat} (hm : m = (x.toNat : Int)) (hn : n = (y.toNat : Int)) (h : w.heap[f]? = some (.cells #[.int .u8 m, .int .u8 n] 5 fr)) (hK : K f) : RowK K w (.slice (some ⟨f, 0, none⟩) 2 2) 1 (bcells [x, y]) := by
  refine ⟨_, 2, 2, rfl, rfl, Nat.le_refl _, by unfold maxLen; omega, fun _ => ⟨f, 0, rfl, hK, fun j u hu => ?_⟩⟩
  rw [Nat.zero_add, cell_of_row w f j _ _ _ h]
  match j, hu with
  | 0, hu => rw [← hu, hm]; rfl
  | 1, hu => rw [← hu, hn]; rfl
  | j + 2, hu => simp [bcells] at hu

/-- a block that holds no cells joins K -/
theorem pipK_other {K : Nat → Prop} {w : World} {b : Nat} {room : Int} {l : Ms} (h : PipK K w b room l) {g : Nat} {o : Obj} (hg : w.heap[g]? = some o) (ho : o.isCells = false) : PipK (fun i => K i ∨ i = g) w b room l := by
  obtain ⟨r, v, ml, u, e⟩ := h
  refine ⟨r, v, ml, u.join (L := fun i => i = g) ?_ ?_ ?_ ?_, e⟩
  · rintro rfl
    have := u.1.1
    rw [hg] at this
    cases this
    cases ho
  · rintro k hk rfl
    obtain ⟨cur, hc⟩ := ownM_type u.1.2.1 hk
    rw [hg] at hc
    cases hc
    cases ho
  · rintro p hp k hk rfl
    obtain ⟨cur, hc⟩ := ownB_type (u.1.2.2 p hp).2 hk
    rw [hg] at hc
    cases hc
    cases ho
  · rintro i rfl
    exact lt_of_row hg

/-- awake's net -/
def awc : Cfg := (2, 2, 4, 0, 0)
def awx : St := ([[(5, [97, 98])], [], []], 0, (1, 0, 0, 0, 0, 0))
theorem awx_made : gvs awc [] 3 [97, 98] (st0 2) (mem 0 0 [(0, 0, 1)] 0 3 2) = awx := by kernel_rfl

theorem field_sent (a0 a1 a2 a3 a4 a5 : Int) (A : World) : (Instr.field 54 (.agg #[.int .i64 a0, .int .i64 a1, .int .i64 a2, .int .i64 a3, .int .i64 a4, .int .i64 a5]) 0).run Try.prog A = .ok (.int .i64 a0) A := by
  simp [Instr.field, run_underlying Try.underlying54, part, go_sem, asAgg]

set_option maxHeartbeats 4000000 in
theorem awake_any (w : World) : Calls Try.prog 7 #[] w fun e w' => e = .returned (.bool true) ∧ Ext w w' := by
  have N := hid (new_net awc 2 rfl (by unfold okCfg awc; simp) (fun _ => True) (.slice none 0 0) [] w (RowK.nil _ _ _) (by simp))
  rw [show ccs awc = #[.int .i64 2, .int .i64 2, .int .i64 4, .int .i64 0, .int .i64 0] from rfl] at N
  refine (callsIn_wide (n := 4)).1 (callsIn_of_wp_marks Try.func7 rfl trivial ?_ rfl)
  refine wpIn_wide.2 ?_
  simp only [Try.ntmps7, List.size_toArray, List.length_nil, Nat.reduceSub, Array.replicate_succ, Array.replicate_zero, List.push_toArray, List.append_toArray, List.nil_append, List.cons_append]
  go_wp2_with fail
  refine N.out.mono ?_
  rintro e w1 ⟨b, bs, rfl, h1, x1⟩
  obtain ⟨gb, c0, AS, _⟩ := h1.group 2 rfl
  have A1 := AS (0, 0, 1)
  rw [show wrg awc.2.2.2.1 awc.2.2.2.2 (2 : Nat) [] (0, 0, 1) = 0 by decide, show aft awc.2.2.2.1 awc.2.2.2.2 (2 : Nat) [] (0, 0, 1) = [(0, 0, 1)] by decide] at A1
  have AA := hid A1
  have X1 := hid x1
  clear N h1 x1 AS A1
  go_wp2_with fail
  refine AA.out.mono ?_
  rintro e w2 ⟨rfl, h2, k2⟩
  obtain ⟨V1, e1⟩ : ∃ V1, V1 = w2.alloc (.cells #[.int .u8 97, .int .u8 98] 5 (2, 3)) := ⟨_, rfl⟩
  have kc1 : (convert 41 41 (.slice (some ⟨w2.heap.size, 0, none⟩) 2 2)).run Try.prog (w2.alloc (.cells #[.int .u8 97, .int .u8 98] 5)) = .ok (.slice (some ⟨w2.heap.size, 0, none⟩) 2 2) V1 := by rw [e1]; exact run_convert_bytes_const (P := Try.prog) w2 41 5 #[.int .u8 97, .int .u8 98] 2 2 Try.underlying41 Try.underlying5
  have Y1 : Ext w2 V1 := by rw [e1]; exact (Ext.refl w2).alloc _
  have hV := h2.more Y1
  have rV : V1.heap[w2.heap.size]? = some (.cells #[.int .u8 97, .int .u8 98] 5 (2, 3)) := by rw [e1]; exact heap_alloc_new w2 _
  have S1 := send_net hV 2 rfl 0 (.slice (some ⟨w2.heap.size, 0, none⟩) 2 2) [97, 98] 3 (bytes_two rfl rfl rV (.inr ⟨Nat.le_refl _, lt_of_row rV⟩)) (.inr ⟨_, _, _, rfl⟩) (by omega) (by omega) ⟨by omega, by omega, by simp⟩ (by unfold SB st0; simp only; omega) (by simp) (fun f hf => by simp at hf)
  rw [show mem awc.2.2.2.1 awc.2.2.2.2 [(0, 0, 1)] 0 3 2 = mem 0 0 [(0, 0, 1)] 0 3 2 from rfl, awx_made, show (mem 0 0 [(0, 0, 1)] 0 3 2).length = 1 by decide] at S1
  have SS1 := hid S1
  have K1 : Hid (Kept (fun q => q < w.heap.size) w V1) := ((Kept.of_ext X1.out).trans k2).trans (Kept.of_ext Y1)
  clear S1 AA h2 k2 Y1 hV rV e1 X1 c0
  go_wp2_with fail
  refine SS1.out.mono ?_
  rintro e w4 ⟨rfl, h4, k4⟩
  obtain ⟨W, eW⟩ : ∃ W, W = w4.alloc (.cells #[.string ⟨#[]⟩] 9) := ⟨_, rfl⟩
  have XW : Ext w4 W := by rw [eW]; exact (Ext.refl w4).alloc _
  have zW : W.heap.size = w4.heap.size + 1 := by rw [eW]; simp
  have R0 : W.heap[w4.heap.size]? = some (.cells #[.string ⟨#[]⟩] 9 (0, 0)) := by rw [eW]; exact heap_alloc_new w4 _
  have h5 := (h4.less (L := fun q => q < w.heap.size) (fun q hq => .inl hq)).more XW
  have T := take_net h5 0 4 (show ((0 : Nat) : Int) < 2 by omega)
  unfold TakesAt at T
  rw [zW] at T
  have TT := hid T
  have H5 := hid h5
  have K5 : Hid (Kept (fun q => q < w.heap.size) w W) := (K1.out.trans (k4.mono (fun q hq => .inl hq))).trans (Kept.of_ext XW)
  have RR := hid R0
  have EW := hid eW
  have ZW := hid zW
  have ZB : Hid (w.heap.size ≤ w4.heap.size) := Nat.le_trans K1.out.size k4.size
  clear SS1 h4 k4 h5 T R0 eW K1 XW zW
  go_wp2_with fail
  rw [← EW.out]
  refine TT.out.mono ?_
  rintro e w6 ⟨rfl, cb1, cb2, z6, x6⟩
  have h6 := H5.out.more x6
  obtain ⟨Ki, pk, hK1, fin⟩ := h6.oneL (L := fun _ => False) (fun _ h => h.elim) (i := 0) (by decide)
  have pk' : PipK Ki w6 (bs 0) 4 [(5, [97, 98])] := pk
  have FIN : Hid (∀ (K3 : Nat → Prop) (w' : World) (l' : Ms), (∀ q, Ki q → K3 q) → PipK K3 w' (bs 0) 4 (ord l') → Kept (fun q => Ki q ∧ ¬ False) w6 w' → _) := fin
  have kh : Ki w4.heap.size := hK1 _ (.inl (.inr ⟨Nat.le_refl _, by have := ZW.out; omega⟩))
  have kb1 : Ki (w4.heap.size + 1) := hK1 _ (.inr ⟨by have := ZW.out; omega, by omega⟩)
  have kb2 : Ki (w4.heap.size + 1 + 1) := hK1 _ (.inr ⟨by have := ZW.out; omega, by omega⟩)
  have kw : ∀ q, q < w.heap.size → Ki q := fun q hq => hK1 _ (.inl (.inl hq))
  have CB1 := hid cb1
  have CB2 := hid cb2
  have PK := hid pk'
  have R6 := hid (x6.row RR.out)
  have K6 := hid (K5.out.trans (Kept.of_ext x6))
  have Z6 := hid z6
  clear TT cb1 cb2 pk pk' fin x6 h6 H5 RR EW K5 z6 hK1
  go_wp2_with fail
  refine rangeP 38 (B1 := w4.heap.size + 1) (B2 := w4.heap.size + 1 + 1) (b := bs 0) (K := Ki) (room := 4) (now := 4) (l := [(5, [97, 98])]) rfl CB1.out CB2.out kb1 kb2 PK.out (fun _ pre W => pre = [] ∧ Kept Ki w6 W) (fun _ _ _ _ => False) (fun K' pre A B hKK h k => ⟨h.1, h.2.trans (k.mono hKK)⟩) (fun _ _ _ _ _ _ h _ => h) ⟨rfl, Kept.refl _ _⟩
    (fun tm s => (tm.setIfInBounds 38 (sval s)).setIfInBounds 6 (sval s)) ?assign ?body ?done ?stop
  case assign =>
    intro L s A Kc hK
    obtain ⟨s1, s2, s3⟩ := s
    simp only [sval, List.setIfInBounds_toArray, List.set_cons_zero, List.set_cons_succ] at hK ⊢
    gi_wp2
    exact hK
  case body =>
    rintro L K' pre m s A hKK h1 hb1 hb2 ⟨r0, er⟩ hm ho hlen hns
    have : m ∈ [((5 : Int), ([97, 98] : List UInt8))] := by rw [← er]; simp
    simp only [List.mem_singleton] at this
    subst this
    simp at hm
  case stop => rintro D c K' pre rest A hD hKK nD el hf; exact hf.elim
  case done =>
    rintro D K' pre rest A hD hKK nD el hdue ⟨rfl, hkept⟩ hwk hdf
    have er : rest = [(5, [97, 98])] := el.symm
    subst er
    have h7 : NetK _ A b bs awc [(0, 0, 1)] [] awx := FIN.out K' A [(5, [97, 98])] hKK hwk (hkept.mono (fun q hq => hq.1))
    have R7 := hid (hkept.row kh R6.out)
    have K7 : Hid (Kept (fun q => q < w.heap.size) w A) := K6.out.trans (hkept.mono kw)
    have T := take_net h7 0 5 (show ((0 : Nat) : Int) < 2 by omega)
    unfold TakesAt at T
    have TT := hid T
    have H7 := hid h7
    have HD0 := hid hdf
    have DW : Hid (w.heap.size ≤ D ∧ w4.heap.size < A.heap.size) := ⟨by have h1 := K6.out.size; omega, by have h1 := lt_of_row R7.out; omega⟩
    obtain ⟨z, ez⟩ : ∃ z, z = A.heap.size := ⟨_, rfl⟩
    rw [← ez] at TT DW
    have EZ := hid ez
    clear h7 T hkept hwk hdf el hdue nD R6 K6 FIN PK CB1 CB2 ez
    go_wp2_with fail
    refine TT.out.mono ?_
    rintro e w8 ⟨rfl, cb1, cb2, z8, x8⟩
    have h8 := H7.out.more x8
    obtain ⟨Kj, pk, hK1, fin⟩ := h8.oneL (L := fun q => q = w4.heap.size) (fun q hq => by subst hq; exact .inl (.inl (.inl (.inr ⟨Nat.le_refl _, by have := ZW.out; omega⟩)))) (i := 0) (by decide)
    have pk' : PipK Kj w8 (bs 0) 4 [(5, [97, 98])] := pk
    have FIN : Hid (∀ (K3 : Nat → Prop) (w' : World) (l' : Ms), (∀ q, Kj q → K3 q) → PipK K3 w' (bs 0) 4 (ord l') → Kept (fun q => Kj q ∧ ¬ q = w4.heap.size) w8 w' → _) := fin
    have jh : Kj w4.heap.size := hK1 _ (.inl (.inl (.inl (.inr ⟨Nat.le_refl _, by have := ZW.out; omega⟩))))
    have jb1 : Kj z := hK1 _ (.inr ⟨by rw [EZ.out]; exact Nat.le_refl _, by omega⟩)
    have jb2 : Kj (z + 1) := hK1 _ (.inr ⟨by rw [EZ.out]; omega, by omega⟩)
    have jw : ∀ q, q < w.heap.size → Kj q := fun q hq => hK1 _ (.inl (.inl (.inl (.inl hq))))
    have CB1 := hid cb1
    have CB2 := hid cb2
    have PK := hid (pipK_other pk' (x8.row HD0.out) rfl)
    have R8 : Hid (w8.heap[w4.heap.size]? = some (.cells #[.string (str (([] : Ms).flatMap (·.2)))] 9 (0, 0))) := x8.row R7.out
    have K8 := hid (K7.out.trans (Kept.of_ext x8))
    have D8 := hid (x8.row HD0.out)
    have Z8 := hid z8
    clear TT cb1 cb2 pk pk' fin h8 H7 R7 K7 HD0 z8 hK1 x8
    go_wp2_with fail
    refine rangeP 46 (B1 := z) (B2 := z + 1) (b := bs 0) (K := fun i => Kj i ∨ i = D) (room := 4) (now := 5) (l := [(5, [97, 98])]) rfl CB1.out CB2.out (.inl jb1) (.inl jb2) PK.out (fun _ pre W => W.heap[w4.heap.size]? = some (.cells #[.string (str (pre.flatMap (·.2)))] 9 (0, 0)) ∧ Kept (fun q => (Kj q ∨ q = D) ∧ q ≠ w4.heap.size) w8 W) (fun _ _ _ _ => False) ?hI (fun _ _ _ _ _ _ h _ => h) ⟨R8.out, Kept.refl _ _⟩
      (fun tm s => (tm.setIfInBounds 46 (sval s)).setIfInBounds 7 (sval s)) ?assign ?body ?done ?stop
    case hI =>
      rintro K' pre A B hKK ⟨h1, h2⟩ k
      exact ⟨k.row (hKK _ (.inl jh)) h1, h2.trans (k.mono (fun i hi => hKK _ hi.1))⟩
    case assign =>
      intro L s A Kc hK
      obtain ⟨s1, s2, s3⟩ := s
      simp only [sval, List.setIfInBounds_toArray, List.set_cons_zero, List.set_cons_succ] at hK ⊢
      gi_wp2
      exact hK
    case body =>
      rintro L K' pre m s A hKK ⟨h1, h2⟩ hb1 hb2 hp hm ho hlen hns
      obtain ⟨s1, s2, s3⟩ := s
      have CV : (convert 41 9 (.slice s1 s2 s3)).run Try.prog A = .ok (.string (str m.2)) A := Bytes.str ho.bytes
      have c0 : A.cell? ⟨w4.heap.size, 0, none⟩ = some (.string (str (pre.flatMap (·.2)))) := by rw [cell_of_row _ _ 0 _ _ _ h1]; rfl
      have f0 : A.frozen? ⟨w4.heap.size, 0, none⟩ = false := frozen_of_row _ _ _ _ _ h1
      have dw := DW.out
      obtain ⟨G, eG⟩ : ∃ G : ByteArray, G = str (pre.flatMap (·.2)) ++ str m.2 := ⟨_, rfl⟩
      have eG2 : G = str ((pre ++ [m]).flatMap (·.2)) := by rw [eG, str_append]; simp
      have P4 : Hid (KeepsOthers A (A.setCell ⟨w4.heap.size, 0, none⟩ (.string G)) ∧ ∃ K2, Grown K' (s1, s2, s3) (bs 0) A K2 (A.setCell ⟨w4.heap.size, 0, none⟩ (.string G)) ∧ ((A.setCell ⟨w4.heap.size, 0, none⟩ (.string G)).heap[w4.heap.size]? = some (.cells #[.string (str ((pre ++ [m]).flatMap (·.2)))] 9 (0, 0)) ∧ Kept (fun q => (Kj q ∨ q = D) ∧ q ≠ w4.heap.size) w8 (A.setCell ⟨w4.heap.size, 0, none⟩ (.string G))) ∧ (A.setCell ⟨w4.heap.size, 0, none⟩ (.string G)).cell? ⟨z, 0, none⟩ = some (.pointer (some ⟨bs 0, 0, none⟩)) ∧ (A.setCell ⟨w4.heap.size, 0, none⟩ (.string G)).cell? ⟨z + 1, 0, none⟩ = some (.int .i64 5)) := by
        refine ⟨KeepsOthers.setCell _ _ _, K', ⟨fun i h => h, fun i h => .inl h, fun K'' hK'' room v ml u => (u.cell (hK'' _ (.inl (hKK _ (.inl jh)))) 0 _).less (fun i h => h.elim id (fun q => hK'' i (.inl q)))⟩, ⟨?_, ?_⟩, ?_, ?_⟩
        · rw [setCell_eq_setRow _ _ _ _ _ _ _ h1, ← eG2]
          exact setRow_heap _ _ _ _ _ _ h1
        · exact h2.setCell (p := ⟨w4.heap.size, 0, none⟩) (fun h => h.2 rfl) _
        · rw [World.cell?_setCell_far _ _ _ _ (by show w4.heap.size ≠ z; omega)]; exact hb1
        · rw [World.cell?_setCell_far _ _ _ _ (by show w4.heap.size ≠ z + 1; omega)]; exact hb2
      rw [eG] at P4
      have pf : (pre.flatMap (·.2)).length ≤ 2 := by
        obtain ⟨r0, er⟩ := hp
        have h := congrArg (fun l : Ms => (l.flatMap (·.2)).length) er
        simp only [List.flatMap_append, List.length_append] at h
        have h9 : ((([(5, [97, 98])] : Ms)).flatMap (·.2)).length = 2 := rfl
        omega
      have hsz : ¬ 9223372036854775807 < (str (pre.flatMap (·.2))).size + (str m.2).size := by
        have e1 : (str (pre.flatMap (·.2))).size = (pre.flatMap (·.2)).length := rfl
        have e2 : (str m.2).size = m.2.length := rfl
        omega
      clear pf
      clear h1 h2 hb1 hb2 hp ho hns eG2 eG
      simp only [sval, List.setIfInBounds_toArray, List.set_cons_zero, List.set_cons_succ]
      gi_wp2_with fail
      exact P4.out
    case stop => rintro D c K' pre rest A hD hKK nD el hf; exact hf.elim
    case done =>
      rintro D2 K' pre rest A2 hD2 hKK nD2 el hdue ⟨h1, h2⟩ hwk hdf
      have hpr : pre = [(5, [97, 98])] ∧ rest = [] := by
        match pre, el with
        | [], el =>
          have e : rest = [(5, [97, 98])] := el.symm
          rw [e] at hdue
          exact absurd hdue (by decide)
        | [p], el => simp at el; exact ⟨by rw [el.1], el.2⟩
        | p :: q :: r, el => simp at el
      obtain ⟨rfl, rfl⟩ := hpr
      have h9 := FIN.out K' A2 [] (fun q hq => hKK q (.inl hq)) hwk (h2.mono (fun q hq => ⟨.inl hq.1, hq.2⟩))
      have c0 : A2.cell? ⟨w4.heap.size, 0, none⟩ = some (.string ⟨#[97, 98]⟩) := by rw [cell_of_row _ _ 0 _ _ _ h1]; rfl
      have SB8 := hid (send_bad h9 8 (.slice none 0 0) [] 3 (RowK.nil _ A2 1) (.inr (.inl (by omega))))
      have ST : Hid (Calls Try.prog 16 #[.pointer (some ⟨b, 0, none⟩)] A2 fun e w' => e = .returned (.agg #[.int .i64 1, .int .i64 0, .int .i64 0, .int .i64 0, .int .i64 0, .int .i64 0]) ∧ Ext A2 w') := stats_net h9
      have KA : Hid (Kept (fun q => q < w.heap.size) w A2) := K8.out.trans (h2.mono (fun q hq => ⟨.inl (jw q hq), by have := ZB.out; omega⟩))
      have HD2 := hid hdf
      have dw2 : w8.heap.size ≤ D2 := hD2
      have DW2 : Hid (w.heap.size ≤ D2) := Nat.le_trans K8.out.size dw2
      have nDh : D ≠ w4.heap.size := by have h1 := Z6.out; omega
      have HD1 : Hid (A2.heap[D]? = some (.deferred (some [])) ∧ D ≠ D2) := ⟨h2.row ⟨.inr rfl, nDh⟩ D8.out, by have h1 := lt_of_row D8.out; omega⟩
      clear h1 h2 h9 hwk hdf el hdue nD2 FIN PK CB1 CB2 R8 K8 D8
      go_wp2_with fail
      refine SB8.out.mono ?_
      rintro e A3 ⟨rfl, rfl⟩
      go_wp2_with fail
      refine ST.out.mono ?_
      rintro e A4 ⟨rfl, x4⟩
      have KA4 := hid (KA.out.trans (Kept.of_ext x4))
      have HD4 := hid (x4.row HD2.out)
      have HE4 := hid (x4.row HD1.out.1)
      have FS := field_sent 1 0 0 0 0 0 A4
      clear SB8 ST KA HD2 x4
      go_wp2_with fail
      refine ⟨by simp, .inl ⟨_, _, rfl, run_takeDeferred HD4.out, ?_⟩⟩
      have hD5 : (A4.putObj D2 (.deferred none)).heap[D]? = some (.deferred (some [])) := (World.putObj_heap_other HD1.out.2).trans HE4.out
      refine ⟨by simp, .inl ⟨_, _, rfl, run_takeDeferred hD5, ?_⟩⟩
      refine ⟨.bool true, by simp [results, Try.f7, go_sem], rfl, ?_⟩
      have n1 : ¬ D2 < w.heap.size := by have := DW2.out; omega
      have n2 : ¬ D < w.heap.size := by have := DW.out.1; omega
      exact ((KA4.out.trans (kept_put (K := fun q => q < w.heap.size) A4 (L := D2) n1 _)).trans (kept_put (K := fun q => q < w.heap.size) _ (L := D) n2 _)).below (Nat.le_refl _) (fun i hi => hi)
end Go.Proofs.Ytjmgigfaiaemeaa.Sim
