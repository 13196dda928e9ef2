/-
  A walk of Parse.
-/
import Derived.Test.YtlnjkjpllmfcaaaWireParse
namespace Go.Proofs.Ytlnjkjpllmfcaaa
set_option linter.unusedVariables false
set_option maxRecDepth 100000
open Go.RowKit Go.Lib

theorem parseBody_any (w : World) (b : Nat) (l : List UInt8) (hr : Row w b l) (hl : l.length ≤ 1000) :
    Calls Try.prog 31 #[.slice (some ⟨b, 0, none⟩) l.length l.length] w fun e w' => Told w w' e (pbody l) := by
  by_cases h : kfields (l.getD 0 0).toNat = []
  · exact parseBody_none w b l hr hl h
  · exact parseBody_kind w b l hr hl h

set_option maxHeartbeats 4000000 in
theorem parse_any (w : World) (v : Value) (l : List UInt8) (hv : Bytes w v l) (hl : l.length ≤ 1000) :
    Calls Try.prog 16 #[v] w fun e w' => Told w w' e (pparse l) := by
  obtain ⟨w1, e1⟩ : ∃ w1, w1 = w.alloc (.cells zrow 29) := ⟨_, rfl⟩
  have X1 : Ext w w1 := by rw [e1]; exact (Ext.refl w).alloc _
  have s1 : w1.heap.size = w.heap.size + 1 := by rw [e1]; simp
  have g1 : w1.heap[w.heap.size]? = some (.cells zrow 29 (0, 0)) := by rw [e1]; exact heap_alloc_new w _
  have hv1 := hv.ext X1
  have E1 := hid e1
  have XX := hid X1
  have G1 := hid g1
  have ONZ : Hid (zrow.all (·.oneCell') = true) := by simp [Value.oneCell', Hid]
  have OY := hid (open_yes v l w1 hv1 (by omega))
  have OF := hid (open_no v l w1 hv1 (by omega))
  have LT : Hid ((l.take (l.length - 4)).length = l.length - 4) := by show _ = _; rw [List.length_take]; omega
  have LA : Hid ((l.take (l.length - 4)).length ≤ 1000) := by show _ ≤ _; rw [List.length_take]; omega
  obtain ⟨ao, c, rfl, q1, q2, _⟩ := hv
  unfold maxLen at q2
  clear e1 X1 g1 hv1
  by_cases t : 320 < l.length
  · have PE : Hid (pparse l = (21, pnone)) := by show _ = _; unfold pparse; rw [if_pos t]
    have t1 : (320 : Int) < (l.length : Int) := by omega
    have TZ := hid (told_zero (x := 21) XX.out (Nat.le_refl _) G1.out)
    clear OY OF t
    go_enter Try.func16, Try.ntmps16
    go_wp2_with (first | rw [← E1.out] | refine wpList_store_row rfl 29 _ _ rfl w.heap.size zrow rfl rfl 29 zrow G1.out cells_packet rfl ONZ.out ?_)
    (try simp only [Exit.inBlock, Exit.then])
    refine bodyPost_ret (results_packet Try.results16 _ _ w.heap.size zrow rfl TZ.1 cells_packet) rfl ?_
    rw [PE.out]
    exact TZ.2
  · have t1 : decide ((320 : Int) < (l.length : Int)) = false := by simp; omega
    have tn : ¬ (320 : Int) < (l.length : Int) := by omega
    cases hc : copens l with
    | false =>
      have PE : Hid (pparse l = (21, pnone)) := by show _ = _; unfold pparse; rw [if_neg t, hc]; rfl
      have C := hid (OF.out hc)
      clear OY OF t hc t1
      go_enter Try.func16, Try.ntmps16
      go_wp2_with (rw [← E1.out])
      refine C.out.mono ?_
      rintro e w2 ⟨rfl, X2⟩
      have GR := X2.row G1.out
      have TZ := hid (told_zero (x := 21) (XX.out.trans X2) (Nat.le_refl _) GR)
      have HG := hid GR
      clear C X2 GR
      go_wp2_with (refine wpList_store_row rfl 29 _ _ rfl w.heap.size zrow rfl rfl 29 zrow HG.out cells_packet rfl ONZ.out ?_)
      (try simp only [Exit.inBlock, Exit.then])
      refine bodyPost_ret (results_packet Try.results16 _ _ w.heap.size zrow rfl TZ.1 cells_packet) rfl ?_
      rw [PE.out]
      exact TZ.2
    | true =>
      have PE : Hid (pparse l = pbody (l.take (l.length - 4))) := by show _ = _; unfold pparse; rw [if_neg t, hc]; rfl
      have C := hid (OY.out hc)
      clear OY OF t hc t1
      generalize l.take (l.length - 4) = A at *
      generalize l.length - 4 = m at *
      have LM := LT.out
      go_enter Try.func16, Try.ntmps16
      go_wp2_with (rw [← E1.out])
      refine C.out.mono ?_
      rintro e w2 ⟨r, rfl, hr, row, X2⟩
      have CB := hid (parseBody_any w2 r A row LA.out)
      rw [LM] at CB
      have GR := X2.row G1.out
      have HG := hid GR
      have HX2 := hid X2
      have sz2 := X2.size
      clear C X2 GR row LM
      go_wp2_with fail
      refine CB.out.mono ?_
      rintro e w3 ⟨ra, rg, da, rfl, pl, X3⟩
      have ON := hid (prow_one pl)
      have G3 := hid (X3.row HG.out)
      have G4 : Hid ((w3.setRow w.heap.size (prow (pbody A).2 ra rg da)).heap[w.heap.size]? = some (.cells (prow (pbody A).2 ra rg da) 29 (0, 0))) := setRow_heap _ _ _ _ _ _ G3.out
      have TT : Hid (Told w (w3.setRow w.heap.size (prow (pbody A).2 ra rg da)) (.returned (.tuple #[.agg (prow (pbody A).2 ra rg da), .int .i64 (pbody A).1])) (pbody A)) :=
        ⟨ra, rg, da, rfl, (pl.kept ((Kept.refl _ w3).setRow (fun h => by have : w2.heap.size ≤ w.heap.size := h; omega) _)).mono (fun i _ h => by have : w2.heap.size ≤ i := h; show w.heap.size ≤ i; omega), ((XX.out.trans HX2.out).trans X3).setRow (Nat.le_refl _) _⟩
      clear pl X3 CB
      generalize pbody A = R at *
      go_wp2_with (refine wpList_store_row rfl 29 _ _ rfl w.heap.size (prow R.2 ra rg da) rfl rfl 29 zrow G3.out cells_packet rfl ON.out ?_)
      (try simp only [Exit.inBlock, Exit.then])
      refine bodyPost_ret (results_packet Try.results16 _ _ w.heap.size (prow R.2 ra rg da) rfl G4.out cells_packet) rfl ?_
      rw [PE.out]
      exact TT.out
end Go.Proofs.Ytlnjkjpllmfcaaa
