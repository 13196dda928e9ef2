/-
  Bytes in memory: slices of them, a row of one's own; bytes.Clone. (Texts of Crc, CrcMem, CrcSumsW.)
-/
import Derived.Test.YtjmgigfaiaemeaaPipRow
import Derived.Laws.BytesArg
import Derived.Deep.Strs
import Derived.Lib.BufferMore
namespace Go.Proofs.Ytjmgigfaiaemeaa.Pip
set_option linter.unusedVariables false
set_option maxRecDepth 100000
open Go.RowKit Go.Lib

set_option maxHeartbeats 1000000 in
theorem cloneB_any (w : World) (v : Value) (l : List UInt8) (hv : Bytes w v l) (hp : Plain v) (hl : l.length ≤ 100000) :
    Calls Try.prog 40 #[v] w fun e w' => ∃ s : Sl, e = .returned (sval s) ∧ s.2.1 = l.length ∧ OwnB w' (sval s) l ∧ Ext w w' ∧ ∀ k, (sval s).ownBlock = some k → w.heap.size ≤ k := by
  rcases hp with rfl | ⟨a, n, c, rfl⟩
  · have hn := Lib.run_eql_slice_nil_nil (P := Try.prog) w 0 0 Try.underlying41
    have e0 : l = [] := by
      obtain ⟨ao, c, e, _⟩ := hv
      simp only [Value.slice.injEq] at e
      exact List.eq_nil_of_length_eq_zero e.2.1.symm
    subst e0
    have R : Hid (OwnB w (.slice none 0 0) [] ∧ Ext w w ∧ ∀ k, (Value.slice none 0 0).ownBlock = some k → w.heap.size ≤ k) := ⟨World.ownsRow_nil _ _ _ _, Ext.refl w, fun k hk => by simp [Value.ownBlock] at hk⟩
    clear hv
    go_enter Try.func40, Try.ntmps40
    go_wp2
    go_ret
    exact ⟨(none, 0, 0), rfl, rfl, R.out⟩
  · obtain ⟨w1, e1⟩ : ∃ w1, w1 = w.alloc (.cells #[] 5) := ⟨_, rfl⟩
    have X1 : Ext w w1 := by rw [e1]; exact (Ext.refl w).alloc _
    have n1 : w1.heap[w.heap.size]? = some (.cells (List.toArray []) 5 (0, 0)) := by rw [e1]; exact heap_alloc_new w _
    have o1 : w1.ownsRow w.heap.size 5 1 (.slice (some ⟨w.heap.size, 0, none⟩) 0 0) ([] : List UInt8).length (bcells []) := ⟨rfl, .inr ⟨_, _, _, rfl, Nat.le_refl _, n1, Nat.le_refl _, Nat.zero_le _, rfl, rfl⟩⟩
    obtain ⟨v', w', r, o, gb⟩ := run_append_bytes w1 w.heap.size _ [] o1 (.slice (some a) n c) l (hv.ext X1) (.inr ⟨_, _, _, rfl⟩) (by simp; omega) X1.size
    rw [List.nil_append] at o
    have ob : OwnB w' v' l := ⟨o.1, by
      rcases o.2 with hn | ⟨g, cap, cur, e, hb, rest⟩
      · exact .inl hn
      · exact .inr ⟨g, cap, cur, e, Nat.zero_le _, rest⟩⟩
    obtain ⟨s, es, hs⟩ := ob.slice
    have T : Hid (OwnB w' (sval s) l ∧ Ext w w' ∧ ∀ k, (sval s).ownBlock = some k → w.heap.size ≤ k) := by
      rw [← es]
      refine ⟨ob, X1.by_row gb (fun k hk => by simp [Value.ownBlock] at hk; omega), fun k hk => (World.ownsRow.lt o k hk).1⟩
    subst es
    have R := hid r
    have E1 := hid e1
    have HS := hid hs
    obtain ⟨s1, s2, s3⟩ := s
    clear hv X1 n1 o1 r o gb e1 ob hs
    simp only [sval] at *
    have hn := Lib.run_eql_slice_some_nil (P := Try.prog) w a n c Try.underlying41
    go_enter Try.func40, Try.ntmps40
    go_wp2_with (at_builtin; rw [← E1.out]; refine wpList_append_run _ rfl (.tmp 5) (.tmp 6) 41 41 rfl _ _ rfl rfl _ _ R.out ?_)
    go_ret
    exact ⟨(s1, s2, s3), rfl, HS.out, T.out⟩
end Go.Proofs.Ytjmgigfaiaemeaa.Pip
