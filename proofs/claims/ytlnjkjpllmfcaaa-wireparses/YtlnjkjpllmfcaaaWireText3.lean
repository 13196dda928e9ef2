/-
  Walks of the reference's Text and Sealed.
-/
import Derived.Test.YtlnjkjpllmfcaaaWireText2
import Derived.Test.YtlnjkjpllmfcaaaWireBytes
import Derived.Laws.IdiomStrings
namespace Go.Proofs.Ytlnjkjpllmfcaaa
set_option linter.unusedVariables false
set_option maxRecDepth 100000
open Go.RowKit Go.Lib

theorem field_any (w : World) (p : Pk) (ra rg da : Value) (hp : PL (fun _ => True) w p ra rg da) (hf : fine p) (hl : slim p) (c : Nat) (hc : c ∈ codes) :
    Calls Try.prog 34 #[.agg (prow p ra rg da), .int .u8 (c : Int)] w fun e w' => e = .returned (.string (str (enc c p))) ∧ Ext w w' := by
  rcases codes_cases hc with rfl | rfl | rfl | rfl | rfl | rfl | rfl | rfl | rfl | rfl | rfl | rfl
  · exact field_num w p ra rg da 0 (by decide)
  · exact field_num w p ra rg da 1 (by decide)
  · exact field_seq w p ra rg da hf
  · exact field_num w p ra rg da 2 (by decide)
  · exact field_num w p ra rg da 3 (by decide)
  · exact field_num w p ra rg da 4 (by decide)
  · exact field_num w p ra rg da 5 (by decide)
  · exact field_num w p ra rg da 6 (by decide)
  · exact field_rate w p ra rg da hf
  · exact field_rates w p ra rg da hp.1 hl.1
  · exact field_ranges w p ra rg da hp.2.1 hl.2.1
  · exact field_data w p ra rg da hp.2.2 hl.2.2

theorem kstr_at (k j : Nat) (h : j < (kstr k).length) : ((kstr k).getD j 0).toNat = (kfields k).getD j 0 := by
  have h' : j < (kfields k).length := by unfold kstr at h; rwa [List.length_map] at h
  have hm := kfields_codes k _ (getD_memN _ j h')
  have : (kstr k).getD j 0 = UInt8.ofNat ((kfields k).getD j 0) := by
    unfold kstr
    rw [List.getD_eq_getElem?_getD, List.getElem?_map, List.getD_eq_getElem?_getD, List.getElem?_eq_getElem h']
    rfl
  rw [this]
  apply count_byte
  rcases codes_cases hm with e | e | e | e | e | e | e | e | e | e | e | e <;> rw [e] <;> decide

set_option maxHeartbeats 8000000 in
theorem text_any (w : World) (v : Value) (p : Pk) (hv : PVal w v p) (hf : fine p) (hl : slim p) (hr : right p = true) :
    Calls Try.prog 19 #[v] w fun e w' => e = .returned (.string (str (text p))) ∧ Ext w w' := by
  obtain ⟨ra, rg, da, rfl, pl⟩ := hv
  have hk := (right_parts hr).1
  obtain ⟨k, ek⟩ := Int.eq_ofNat_of_zero_le (show 0 ≤ p.1 0 by omega)
  have TX : text p = UInt8.ofNat k :: (kfields k).flatMap fun c => enc c p := by unfold text; rw [ek]; rfl
  have TL := text_length hr
  rw [TX] at TL
  rw [TX]
  have k17 : 1 ≤ k ∧ k ≤ 7 := by omega
  have hPL := hid pl
  have HF := hid hf
  have HL := hid hl
  obtain ⟨w1, e1⟩ : ∃ w1, w1 = w.alloc (.cells (prow p ra rg da) 35) := ⟨_, rfl⟩
  have X1 : Ext w w1 := by rw [e1]; exact (Ext.refl w).alloc _
  have g1 : w1.heap[w.heap.size]? = some (.cells (prow p ra rg da) 35 (0, 0)) := by rw [e1]; exact heap_alloc_new w _
  have c0 : w1.cell? ⟨w.heap.size, 0, none⟩ = some (.int .i64 (k : Int)) := by rw [cell_of_row _ _ _ _ _ _ g1, ← ek]; rfl
  have CB := hid (refBytes_any w1 k 1 (by omega) (by omega))
  have E1 := hid e1
  have HH := hid (And.intro X1 g1)
  have EK := hid ek
  have FLK := hid (flat_length p (kfields k))
  clear e1 X1 g1 TX hk hr pl hf hl ek
  go_enter Try.func19, Try.ntmps19
  go_wp2_with (rw [← E1.out])
  refine CB.out.mono ?_
  rintro e w2 ⟨rfl, X2⟩
  obtain ⟨w3, e3⟩ : ∃ w3, w3 = w2.alloc (.cells srow 76) := ⟨_, rfl⟩
  have X3 : Ext w2 w3 := by rw [e3]; exact (Ext.refl w2).alloc _
  have g3 : w3.heap[w2.heap.size]? = some (.cells srow 76 (0, 0)) := by rw [e3]; exact heap_alloc_new w2 _
  have E3 := hid e3
  have H3 := hid (And.intro ((X2.trans X3).row HH.2) (And.intro g3 (HH.1.trans (X2.trans X3))))
  have LO := hid (le_one k)
  rw [LO.out]
  clear e3 X3 g3 X2 CB c0
  go_wp2_with (rw [← E3.out])
  have kl := kstr_length k
  have sz : (str (kstr k)).size = (kstr k).length := str_size _
  have KA := hid (kstr_at k)
  have lk : (kstr k).length = (kfields k).length := by unfold kstr; rw [List.length_map]
  have CC := hid (kfields_codes k)
  obtain ⟨cs, ecs⟩ : ∃ cs, cs = kfields k := ⟨_, rfl⟩
  rw [← ecs] at KA lk CC TL FLK
  have ECS := hid ecs
  have SR := hid (srow_at k k17.2)
  obtain ⟨S, eS⟩ : ∃ S, S = kstr k := ⟨_, rfl⟩
  rw [← eS] at SR KA lk kl sz
  clear eS ecs
  have LKH := hid lk
  clear lk
  generalize w2.heap.size = gl at *
  go_loopw [3, 5] (fun s i wr => ∃ j : Nat, j ≤ S.length ∧ i = .int .i64 j ∧ s = .string (str (UInt8.ofNat k :: (cs.take j).flatMap fun c => enc c p)) ∧ wr.heap[w.heap.size]? = some (.cells (prow p ra rg da) 35 (0, 0)) ∧ wr.heap[gl]? = some (.cells srow 76 (0, 0)) ∧ Ext w wr) (fun _ i _ => (S.length - intOf i).toNat)
  case atStart => exact ⟨0, by omega, rfl, rfl, H3.1, H3.2.1, H3.2.2⟩
  case round =>
    obtain ⟨j, hj, rfl, rfl, hg, hs, hx⟩ := hrel
    have c0 : wr.cell? ⟨w.heap.size, 0, none⟩ = some (.int .i64 (k : Int)) := by rw [cell_of_row _ _ _ _ _ _ hg, ← EK.out]; rfl
    have c1 : wr.cell? ⟨gl, k, none⟩ = some (.string (str S)) := by rw [cell_of_row _ _ _ _ _ _ hs]; exact SR.out
    have i1 : (0 : Int) ≤ (k : Int) := by omega
    have i2 : (k : Int) < 8 := by omega
    by_cases t : j < S.length
    · have t1 : (j : Int) < (S.length : Int) := by omega
      have t2 : (0 : Int) ≤ (j : Int) := by omega
      obtain ⟨w8, rfl⟩ : ∃ w8, w8 = wr := ⟨_, rfl⟩
      have jl : j < cs.length := by have := LKH.out; omega
      have LV : Hid ((((str S)[j]'(by rw [sz]; exact t)).toNat : Int) = ((cs.getD j 0 : Nat) : Int)) := by
        show _ = _
        rw [str_at S j t, KA.out j t]
      have CF : Hid (∀ n : Ever w8, Calls Try.prog 34 #[.agg (prow p ra rg da), .int .u8 (((str S)[j]'(by rw [sz]; exact t)).toNat : Int)] n.W fun e w' => e = .returned (.string (str (enc (cs.getD j 0) p))) ∧ Ext n.W w') := by
        intro n
        rw [LV.out]
        exact field_any n.W p ra rg da (hPL.out.kept (.of_ext (hx.trans n.ok))) HF.out HL.out _ (CC.out _ (getD_memN cs j jl))
      have R1 : Hid (∀ W, (∃ n : Ever w8, W = n.W) → W.heap[w.heap.size]? = some (.cells (prow p ra rg da) 35 (0, 0))) := by rintro W ⟨n, rfl⟩; exact n.ok.row hg
      have d0 : ∀ n : Ever w8, n.W.cell? ⟨w.heap.size, 0, none⟩ = some (.int .i64 (k : Int)) := fun n => n.ok.cell c0
      have d1 : ∀ n : Ever w8, n.W.cell? ⟨gl, k, none⟩ = some (.string (str S)) := fun n => n.ok.cell c1
      have TS : Hid (str (UInt8.ofNat k :: (cs.take (j + 1)).flatMap fun c => enc c p) = str (UInt8.ofNat k :: (cs.take j).flatMap fun c => enc c p) ++ str (enc (cs.getD j 0) p)) := by
        show _ = _
        rw [flat_snoc p cs j jl, str_head]
      have z1 : (str (UInt8.ofNat k :: (cs.take j).flatMap fun c => enc c p)).size ≤ 1000 := by
        rw [str_size]
        have := FLK.out j
        simp only [List.length_cons] at TL ⊢
        omega
      have z2 : (str (enc (cs.getD j 0) p)).size ≤ 1000 := by
        rw [str_size]
        have a1 := congrArg List.length (flat_snoc p cs j jl)
        have a2 := FLK.out (j + 1)
        simp only [List.length_append, List.length_cons] at a1 TL
        omega
      have HG := hid (And.intro hg (And.intro hs hx))
      generalize str (enc (cs.getD j 0) p) = S1 at *
      generalize str (UInt8.ofNat k :: (cs.take j).flatMap fun c => enc c p) = S2 at *
      clear hg hs hx TL
      have ZA : Hid ((Try.prog.info? 35).map (·.size) = some (prow p ra rg da).size) := cells_ref
      go_wp2_with fail
      refine wp_region_ext (by kernel_rfl) (by kernel_rfl) ?_
      have some := Ever.some w8
      go_big_quiet_step (fail)
      go_big_quiet_want
      refine quiet_load_row 35 (.tmp 1) rfl w.heap.size rfl 35 (prow p ra rg da) (0, 0) _ R1.out Try.underlying35 rfl ZA.out ?_
      simp [Act.put]
      go_big_quiet_on
      iterate 6 go_big_quiet_step (fail)
      go_big_quiet_step ((go_at_call 34; refine (CF.out _).mono ?_; rintro e w' ⟨rfl, Y⟩; exact ⟨rfl, ⟨_, (Ever.ok _).trans Y⟩, rfl⟩))
      repeat (go_big_quiet_step (fail))
      refine wpQuiet_nil ?_
      rintro w4 ⟨⟨_, x4⟩, rfl⟩
      have R4 := hid (And.intro (x4.row HG.1) (And.intro (x4.row HG.2.1) (HG.2.2.trans x4)))
      clear x4 d0 d1 CF R1 c0 c1 some
      go_wp2_with fail
      go_roundw
      case rel => exact ⟨j + 1, by omega, by go_num, by rw [TS.out], R4.1, R4.2.1, R4.2.2⟩
      case measure => simp [intOf]; omega
    · obtain rfl : j = S.length := by omega
      have HX := hid hx
      have TE : cs.take S.length = cs := by rw [LKH.out, List.take_length]
      rw [TE]
      have FIN : Hid (str (UInt8.ofNat k :: cs.flatMap fun c => enc c p) = str (UInt8.ofNat k :: (kfields k).flatMap fun c => enc c p)) := by rw [ECS.out]; exact rfl
      clear hg hs hx
      go_wp2_with fail
      go_ret
      exact ⟨by rw [← FIN.out]; rfl, HX.out⟩

/-- a string's bytes, as a conversion lays them -/
theorem conv_bytes (w : World) (l : List UInt8) (hl : l.length ≤ 100000) : ∃ c w', (convert 9 27 (.string (str l))).run Try.prog w = .ok (.slice (some ⟨w.heap.size, 0, none⟩) l.length c) w' ∧ Bytes w' (.slice (some ⟨w.heap.size, 0, none⟩) l.length c) l ∧ Ext w w' := by
  have hr := run_bytes_of_string (P := Try.prog) w 9 27 5 (str l) Try.underlying9 Try.underlying27 Try.underlying5
  have ge := grownCap_ge w (str l).size 0 5
  have lm := grownCap_le_maxLen w (str l).size 0 5 (by rw [str_size]; unfold maxLen; omega)
  rw [str_size] at hr ge lm
  generalize grownCap w l.length 0 5 = c at *
  refine ⟨c, _, hr, ⟨_, c, rfl, ge, lm, fun k hk => ⟨w.heap.size, 0, rfl, by simp, ?_⟩⟩, ?_⟩
  · have hz : (w.drew.alloc (.cells (bytesRow (str l) c) 5 ((bytesRow (str l) c).size, (bytesRow (str l) c).size + 1))).heap[w.heap.size]? = some (.cells (bytesRow (str l) c) 5 ((bytesRow (str l) c).size, (bytesRow (str l) c).size + 1)) := heap_alloc_new w.drew _
    rw [Nat.zero_add, cell_of_row _ _ _ _ _ _ hz]
    have h2 : k < (str l).data.size := by show k < l.toArray.size; simpa using hk
    rw [bytesRow_at (str l) c k h2, List.getD_eq_getElem?_getD, List.getElem?_eq_getElem hk]
    rfl
  · exact Below.alloc (Below.drew (Below.refl _ w)) (Nat.le_refl _) _

set_option maxHeartbeats 2000000 in
theorem refSealed_any (w : World) (v : Value) (p : Pk) (hv : PVal w v p) (hf : fine p) (hl : slim p) (hr : right p = true) :
    Calls Try.prog 17 #[v] w fun e w' => e = .returned (.string (str (cseal (text p)))) ∧ Ext w w' := by
  obtain ⟨ra, rg, da, rfl, pl⟩ := hv
  have TL := text_length hr
  obtain ⟨w1, e1⟩ : ∃ w1, w1 = w.alloc (.cells (prow p ra rg da) 35) := ⟨_, rfl⟩
  have X1 : Ext w w1 := by rw [e1]; exact (Ext.refl w).alloc _
  have b1 : Hid (w1.heap[w.heap.size]? = some (.cells (prow p ra rg da) 35 (0, 0))) := by rw [e1]; exact heap_alloc_new w _
  have C := hid (text_any w1 _ p ⟨ra, rg, da, rfl, pl.kept (.of_ext X1)⟩ hf hl hr)
  have E1 := hid e1
  have XX := hid X1
  clear e1 pl X1 hf hl hr
  generalize text p = T at *
  go_enter Try.func17, Try.ntmps17
  go_wp2_with (first | rw [← E1.out] | refine wpList_load_row rfl 35 _ rfl w.heap.size rfl 35 (prow p ra rg da) (0, 0) _ b1.out Try.underlying35 rfl cells_ref ?_)
  refine C.out.mono ?_
  rintro e w2 ⟨rfl, X2⟩
  obtain ⟨c, w3, cv, bv, X3⟩ := conv_bytes w2 T (by omega)
  have CS := hid (sealed_any _ T w3 bv (by omega))
  have Y := hid ((XX.out.trans X2).trans X3)
  clear C X2 X3 bv
  generalize str T = ST at *
  go_wp2_with fail
  refine CS.out.mono ?_
  rintro e w4 ⟨rfl, X4⟩
  have YY := hid (Y.out.trans X4)
  clear X4 CS cv
  go_wp2_with fail
  go_ret
  exact ⟨rfl, YY.out⟩
end Go.Proofs.Ytlnjkjpllmfcaaa
