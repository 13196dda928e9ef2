/-
  The walk of awake.
-/
import Derived.Test.YtlpdffjbdekjeaaPipSame
import Derived.Lib.SlBytesConst
namespace Go.Proofs.Ytlpdffjbdekjeaa
set_option linter.unusedVariables false
set_option maxRecDepth 100000
open Go.RowKit Go.Lib Go.Shelf
attribute [local go_sem] Oper.semAt_some

/-- one byte in a block -/
theorem bytes_one {w : World} {f : Nat} {x : UInt8} {n : Int} {fr : Nat × Nat} (hn : n = (x.toNat : Int)) (h : w.heap[f]? = some (.cells #[.int .u8 n] 5 fr)) : Bytes w (.slice (some ⟨f, 0, none⟩) 1 1) [x] := by
  refine ⟨_, 1, rfl, Nat.le_refl _, by unfold maxLen; omega, fun k hk => ⟨f, 0, rfl, lt_of_row h, ?_⟩⟩
  obtain rfl : k = 0 := by simpa using hk
  rw [cell_of_row w f _ _ _ _ h, hn]
  rfl

/-- what awake's loop has seen -/
def SeenP (w : World) (hb : Nat) (pre : Ms) (W : World) : Prop := W.heap[hb]? = some (.cells #[.string (str (pre.flatMap (·.2)))] 9 (0, 0)) ∧ Kept (fun i => i < w.heap.size) w W ∧ ∀ p ∈ pre, p.1 ≤ 4

set_option maxHeartbeats 2000000 in
theorem awake_any (w : World) : Calls Try.prog 8 #[] w fun e w' => e = .returned (.bool true) ∧ Ext w w' := by
  have X1 : Hid (Ext w (w.alloc (.cells #[.int .i64 2, .slice none 0 0] 50 (0, 0)))) := (Ext.refl w).alloc _
  have N := hid (new_any 2 w (by omega) (by omega))
  have NW := hid (new_pipe 2 w (by omega) (by omega))
  refine (callsIn_wide (n := 4)).1 (callsIn_of_wp_marks Try.func8 rfl trivial ?_ rfl)
  refine wpIn_wide.2 ?_
  simp only [Try.ntmps8, List.size_toArray, List.length_nil, Nat.reduceSub, Array.replicate_succ, Array.replicate_zero, List.push_toArray, List.append_toArray, List.nil_append, List.cons_append]
  go_wp2_with fail
  refine N.out.mono ?_
  rintro e w1 ⟨rfl, rfl⟩
  generalize w.alloc (.cells #[.int .i64 2, .slice none 0 0] 50 (0, 0)) = w1 at *
  obtain ⟨b, eb⟩ : ∃ b, b = w.heap.size := ⟨_, rfl⟩
  rw [← eb]
  rw [← eb] at NW
  have EB := hid eb
  obtain ⟨V1, e1⟩ : ∃ V1, V1 = w1.alloc (.cells #[.int .u8 97] 5 (1, 2)) := ⟨_, rfl⟩
  have kc1 : (convert 30 30 (.slice (some ⟨w1.heap.size, 0, none⟩) 1 1)).run Try.prog (w1.alloc (.cells #[.int .u8 97] 5)) = .ok (.slice (some ⟨w1.heap.size, 0, none⟩) 1 1) V1 := by rw [e1]; exact run_convert_bytes_const (P := Try.prog) w1 30 5 #[.int .u8 97] 1 1 Try.underlying30 Try.underlying5
  have Y1 : Ext w1 V1 := by rw [e1]; exact (Ext.refl w1).alloc _
  have S1 := put_any _ b 2 5 [] (.slice (some ⟨w1.heap.size, 0, none⟩) 1 1) [97] V1 (NW.out.ext Y1) (bytes_one rfl (by rw [e1]; exact heap_alloc_new w1 _)) (.inr ⟨_, _, _, rfl⟩) (by omega) (by omega) (by simp) (by simp)
  rw [show ins [] (5, [97]) = [(5, [97])] from rfl] at S1
  have SS1 := hid S1
  have YY1 := hid Y1
  have E1 := hid e1
  clear S1 N eb NW Y1 e1
  go_wp2_with fail
  refine SS1.out.mono ?_
  rintro e w2 ⟨rfl, u2, k2⟩
  obtain ⟨V2, e2⟩ : ∃ V2, V2 = w2.alloc (.cells #[.int .u8 98] 5 (1, 2)) := ⟨_, rfl⟩
  have kc2 : (convert 30 30 (.slice (some ⟨w2.heap.size, 0, none⟩) 1 1)).run Try.prog (w2.alloc (.cells #[.int .u8 98] 5)) = .ok (.slice (some ⟨w2.heap.size, 0, none⟩) 1 1) V2 := by rw [e2]; exact run_convert_bytes_const (P := Try.prog) w2 30 5 #[.int .u8 98] 1 1 Try.underlying30 Try.underlying5
  have Y2 : Ext w2 V2 := by rw [e2]; exact (Ext.refl w2).alloc _
  have S2 := put_any _ b 2 3 [(5, [97])] (.slice (some ⟨w2.heap.size, 0, none⟩) 1 1) [98] V2 (u2.ext Y2) (bytes_one rfl (by rw [e2]; exact heap_alloc_new w2 _)) (.inr ⟨_, _, _, rfl⟩) (by omega) (by omega) (by simp) (by simp)
  rw [show ins [(5, [97])] (3, [98]) = [(3, [98]), (5, [97])] from rfl] at S2
  have SS2 := hid S2
  have K2 : Hid (Kept (fun i => i < b) w1 V2) := ((Kept.of_ext YY1.out).trans k2).trans (Kept.of_ext Y2)
  have E2 := hid e2
  clear S2 u2 k2 SS1 Y2 e2 YY1 E1 kc1
  go_wp2_with fail
  refine SS2.out.mono ?_
  rintro e w3 ⟨rfl, u3, k3⟩
  have S3 := put_full _ b 2 1 [(3, [98]), (5, [97])] (.slice none 0 0) [] w3 u3 ⟨none, 0, rfl, Nat.le_refl _, Nat.zero_le _, fun k hk => by simp at hk⟩ (by omega) (by omega) (by simp) rfl
  have SS3 := hid S3
  have K3 := hid (K2.out.trans k3)
  have U3 := hid u3
  clear S3 u3 k3 SS2 K2 E2 kc2
  go_wp2_with fail
  refine SS3.out.mono ?_
  rintro e w4 ⟨rfl, x4⟩
  have K4 := hid (K3.out.trans (Kept.of_ext x4))
  have u4 := U3.out.ext x4
  obtain ⟨W, eW⟩ : ∃ W, W = w4.alloc (.cells #[.string ⟨#[]⟩] 9) := ⟨_, rfl⟩
  have XW : Ext w4 W := by rw [eW]; exact (Ext.refl w4).alloc _
  have zW : W.heap.size = w4.heap.size + 1 := by rw [eW]; simp
  have R0 : W.heap[w4.heap.size]? = some (.cells #[.string ⟨#[]⟩] 9 (0, 0)) := by rw [eW]; exact heap_alloc_new w4 _
  have T := take_any b 4 W
  rw [zW] at T
  have TT := hid T
  have K5 := hid (K4.out.trans (Kept.of_ext XW))
  have U4 := hid u4
  have XX := hid XW
  have RR := hid R0
  have EW := hid eW
  have ZB := hid (show w.heap.size ≤ w4.heap.size from Nat.le_trans X1.out.size K4.out.size)
  clear u4 x4 SS3 U3 K3 K4 T XW R0 eW
  have ZW := hid zW
  clear zW
  go_wp2_with fail
  rw [← EW.out]
  refine TT.out.mono ?_
  rintro e w6 ⟨rfl, cb1, cb2, z6, x6⟩
  have CB1 := hid cb1
  have CB2 := hid cb2
  have WK6 := U4.out.more (XX.out.trans x6)
  rw [z6] at WK6
  obtain ⟨K6, eK⟩ : ∃ K6 : Nat → Prop, K6 = fun i => i < b ∨ (w4.heap.size ≤ i ∧ i < w4.heap.size + 1 + 2) := ⟨_, rfl⟩
  rw [← eK] at WK6
  have k60 : K6 w4.heap.size := by rw [eK]; exact .inr ⟨by omega, by omega⟩
  have k61 : K6 (w4.heap.size + 1) := by rw [eK]; exact .inr ⟨by omega, by omega⟩
  have k62 : K6 (w4.heap.size + 1 + 1) := by rw [eK]; exact .inr ⟨by omega, by omega⟩
  have k6b : ∀ i, i < w.heap.size → K6 i := fun i hi => by rw [eK]; exact .inl (by have := EB.out; omega)
  have WWK := hid WK6
  have G0 : Hid (SeenP w w4.heap.size [] w6) := by
    refine ⟨x6.row RR.out, ?_, fun p hp => by cases hp⟩
    have h1 : Kept (fun i => i < b) w1 w6 := K5.out.trans (Kept.of_ext x6)
    exact (Kept.of_ext X1.out).trans (h1.mono (fun i hi => by have := EB.out; omega))
  clear TT cb1 cb2 WK6 K5 RR EW x6 z6 U4 XX eK
  go_wp2_with fail
  refine rangeP 38 (B1 := w4.heap.size + 1) (B2 := w4.heap.size + 1 + 1) (b := b) (K := K6) (room := 2) (now := 4) (l := [(3, [98]), (5, [97])]) rfl CB1.out CB2.out k61 k62 WWK.out (fun _ => SeenP w w4.heap.size) (fun _ _ _ _ => False) ?hI (fun _ _ _ _ _ _ h _ => h) G0.out
    (fun tm s => (tm.setIfInBounds 38 (sval s)).setIfInBounds 4 (sval s)) ?assign ?body ?done ?stop
  case hI =>
    rintro K' pre A B hKK ⟨h1, h2, h3⟩ k
    exact ⟨k.row (hKK _ k60) h1, h2.trans (k.mono (fun i hi => hKK _ (k6b i hi))), h3⟩
  case assign =>
    intro L s A Kc hK
    obtain ⟨s1, s2, s3⟩ := s
    simp only [sval, List.setIfInBounds_toArray, List.set_cons_zero, List.set_cons_succ] at hK ⊢
    gi_wp2
    exact hK
  case body =>
    rintro L K' pre m s A hKK ⟨h1, h2, h3⟩ hb1 hb2 hp hm ho hlen hns
    obtain ⟨s1, s2, s3⟩ := s
    have CV : (convert 30 9 (.slice s1 s2 s3)).run Try.prog A = .ok (.string (str m.2)) A := Bytes.str ho.bytes
    have c0 : A.cell? ⟨w4.heap.size, 0, none⟩ = some (.string (str (pre.flatMap (·.2)))) := by rw [cell_of_row _ _ 0 _ _ _ h1]; rfl
    have f0 : A.frozen? ⟨w4.heap.size, 0, none⟩ = false := frozen_of_row _ _ _ _ _ h1
    have zb := ZB.out
    obtain ⟨G, eG⟩ : ∃ G : ByteArray, G = str (pre.flatMap (·.2)) ++ str m.2 := ⟨_, rfl⟩
    have eG2 : G = str ((pre ++ [m]).flatMap (·.2)) := by rw [eG, str_append]; simp
    have P4 : Hid (KeepsOthers A (A.setCell ⟨w4.heap.size, 0, none⟩ (.string G)) ∧ ∃ K2, Grown K' (s1, s2, s3) b A K2 (A.setCell ⟨w4.heap.size, 0, none⟩ (.string G)) ∧ SeenP w w4.heap.size (pre ++ [m]) (A.setCell ⟨w4.heap.size, 0, none⟩ (.string G)) ∧ (A.setCell ⟨w4.heap.size, 0, none⟩ (.string G)).cell? ⟨w4.heap.size + 1, 0, none⟩ = some (.pointer (some ⟨b, 0, none⟩)) ∧ (A.setCell ⟨w4.heap.size, 0, none⟩ (.string G)).cell? ⟨w4.heap.size + 1 + 1, 0, none⟩ = some (.int .i64 4)) := by
      refine ⟨KeepsOthers.setCell _ _ _, K', ⟨fun i h => h, fun i h => .inl h, fun K'' hK'' room v ml u => (u.cell (hK'' _ (.inl (hKK _ k60))) 0 _).less (fun i h => h.elim id (fun q => hK'' i (.inl q)))⟩, ⟨?_, ?_, fun p hp2 => ?_⟩, ?_, ?_⟩
      · rw [setCell_eq_setRow _ _ _ _ _ _ _ h1, ← eG2]
        exact setRow_heap _ _ _ _ _ _ h1
      · exact h2.setCell (p := ⟨w4.heap.size, 0, none⟩) (by show ¬ w4.heap.size < w.heap.size; omega) _
      · rcases List.mem_append.1 hp2 with q | q
        · exact h3 p q
        · simp at q; rw [q]; exact hm
      · rw [World.cell?_setCell_far _ _ _ _ (by show w4.heap.size ≠ w4.heap.size + 1; omega)]; exact hb1
      · rw [World.cell?_setCell_far _ _ _ _ (by show w4.heap.size ≠ w4.heap.size + 1 + 1; omega)]; exact hb2
    rw [eG] at P4
    have pf : (pre.flatMap (·.2)).length ≤ 2 := by
      obtain ⟨r0, er⟩ := hp
      have h := congrArg (fun l : Ms => (l.flatMap (·.2)).length) er
      simp only [List.flatMap_append, List.length_append] at h
      have h9 : ((([(3, [98]), (5, [97])] : Ms)).flatMap (·.2)).length = 2 := rfl
      omega
    have hsz : ¬ 9223372036854775807 < (str (pre.flatMap (·.2))).size + (str m.2).size := by
      have e1 : (str (pre.flatMap (·.2))).size = (pre.flatMap (·.2)).length := rfl
      have e2 : (str m.2).size = m.2.length := rfl
      omega
    clear pf
    clear h1 h2 h3 hb1 hb2 hp ho hns eG2 eG
    simp only [sval, List.setIfInBounds_toArray, List.set_cons_zero, List.set_cons_succ]
    gi_wp2_with fail
    exact P4.out
  case stop => rintro D c K' pre rest A hD hKK nD el hf; exact hf.elim
  case done =>
    rintro D K' pre rest A hD hKK nD el hdue ⟨h1, h2, h3⟩ hwk hdf
    have hpr : pre = [(3, [98])] ∧ rest = [(5, [97])] := by
      match pre, el with
      | [], el =>
        have e : rest = [(3, [98]), (5, [97])] := el.symm
        rw [e] at hdue
        exact absurd hdue (by decide)
      | [p], el => simp at el; exact ⟨by rw [el.1], el.2.symm⟩
      | [p, q], el =>
        simp at el
        have := h3 q (by simp)
        rw [← el.2.1] at this
        simp at this
      | p :: q :: r :: s, el => simp at el
    obtain ⟨rfl, rfl⟩ := hpr
    have c0 : A.cell? ⟨w4.heap.size, 0, none⟩ = some (.string ⟨#[98]⟩) := by rw [cell_of_row _ _ 0 _ _ _ h1]; rfl
    obtain ⟨hr, v, ml, hu, em⟩ := hwk
    have ln : ml.length = 1 := by
      have := congrArg List.length em
      simpa using this
    have LN := len_any b 2 v ml A hu.1
    rw [ln] at LN
    have LL := hid LN
    have NB := hid (new_bad 0 A (by omega))
    have HD := hid hdf
    have HK := hid h2
    have dw : w.heap.size ≤ D := by have h1 := ZB.out; have h2 := ZW.out; have h3 := lt_of_row hdf; have := WWK.out.there _ k62; omega
    clear h1 h2 h3 hdf hu el hdue LN em hr G0 WWK CB1 CB2
    go_wp2_with fail
    refine NB.out.mono ?_
    rintro e A2 ⟨rfl, rfl⟩
    clear NB
    go_wp2_with fail
    refine LL.out.mono ?_
    rintro e A3 ⟨rfl, rfl⟩
    clear LL
    go_wp2_with fail
    refine ⟨by simp, .inl ⟨_, _, rfl, run_takeDeferred HD.out, ?_⟩⟩
    refine ⟨.bool true, by simp [results, Try.f8, go_sem], rfl, ?_⟩
    exact (HK.out.trans (kept_put A3 (by show ¬ D < w.heap.size; omega) _)).below (Nat.le_refl _) (fun i hi => hi)
end Go.Proofs.Ytlpdffjbdekjeaa
