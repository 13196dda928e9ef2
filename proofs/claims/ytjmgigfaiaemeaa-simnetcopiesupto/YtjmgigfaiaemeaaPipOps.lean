/-
  A pipe's row, turned and stored. Walks of takeFirst, Clear, Peek.
-/
import Derived.Test.YtjmgigfaiaemeaaPipMem
import Derived.Test.YtjmgigfaiaemeaaPipDel
import Derived.Test.YtjmgigfaiaemeaaMCore
namespace Go.Proofs.Ytjmgigfaiaemeaa.Pip
set_option linter.unusedVariables false
set_option maxRecDepth 100000
open Go.RowKit Go.Lib

/-- a read and a call, either of which may come up -/
theorem loadCallE {P : Program} {md : Region.Mode} {ops : Array Oper} {Q : Exit → Act → World → Prop} {S : World → Prop} (i d j d' : Nat) {oi oj : Oper} {v : Value} {g : FuncId} {args : Array Value} {fuel : Nat} {listed : Array Bool} {a : Act} {w : World}
    (hi : ops[i]? = some oi) (hd : oi.dst = some d) (hj : ops[j]? = some oj) (hd' : oj.dst = some d')
    (hr : Region.ready md ops listed = [i, j]) (hw : Region.wanted oi (yielded ops a.tmps) = true) (hw' : Region.wanted oj (yielded ops a.tmps) = true) (he : (execOp a.eval oi).run P w = .ok (.value v) w) (he' : (execOp a.eval oj).run P w = .ok (.enter g args) w) (hS : S w)
    (h : wpAnyH P md ops Q S fuel (listed.setIfInBounds i true) (a.put (some d) v) w)
    (hc' : Calls P g args w (fun e w' => ∃ v, e = .returned v ∧ S w' ∧ wpAnyH P md ops Q S fuel (listed.setIfInBounds j true) (a.put (some d') v) w')) : wpAnyH P md ops Q S (fuel + 1) listed a w := by
  refine wpAnyH_all hr (by simp) (fun q hq => ?_)
  rcases (show q = i ∨ q = j by simpa using hq) with rfl | rfl
  · unfold wpOp
    simp only [hi, hw, if_true, Oper.wp, he, Oper.upon]
    left
    rw [hd]
    exact ⟨hS, h⟩
  · unfold wpOp
    simp only [hj, hw', if_true, Oper.wp, he', Oper.upon]
    left
    refine hc'.mono ?_
    rintro e w' ⟨v, rfl, h1, h2⟩
    simp only [hd']
    exact ⟨h1, h2⟩

/-- the row was turned: what the pipe is when it is stored -/
theorem PipU.turn {K : Nat → Prop} {w w1 : World} {b : Nat} {room : Int} {v v' : Value} {ml ml' : List Msg} (h : PipU K w b room v ml) (t : OwnM w1 v' (ml'.map mval)) (gb : w.grownBy w1 v.ownBlock)
    (hv : v'.ownBlock = v.ownBlock ∨ ∃ k, v'.ownBlock = some k ∧ w.heap.size ≤ k) (hM : ∀ p ∈ ml', p.2.2.length ≤ 320 ∧ OwnB w (sval p.2.1) p.2.2 ∧ ∀ g, (sval p.2.1).ownBlock = some g → ¬ K g) (hP : ml'.Pairwise Apart) :
    PipU K (w1.setCell ⟨b, 1, none⟩ v') b room v' ml' ∧ Kept K w (w1.setCell ⟨b, 1, none⟩ v') ∧ w1.cell? ⟨b, 1, none⟩ = some v ∧ w1.frozen? ⟨b, 1, none⟩ = false ∧ ∀ u l, OwnB w u l → OwnB (w1.setCell ⟨b, 1, none⟩ v') u l := by
  obtain ⟨hV, hb, hk, hm, hp, hK⟩ := h
  have b1 : w1.heap[b]? = some (.cells #[.int .i64 room, v] 96 (0, 0)) := by
    rw [gb.block b hV.lt (fun e => hV.row_ne e.symm rfl), hV.1]
  have e1 : w1.setCell ⟨b, 1, none⟩ v' = w1.setRow b #[.int .i64 room, v'] := setCell_eq_setRow w1 b 1 _ _ _ _ b1
  have k1 : Kept (fun i => v.ownBlock ≠ some i) w w1 := (Kept.refl _ w).grown gb (fun k e h => h e)
  have k2 : Kept (fun i => i ≠ b) w1 (w1.setCell ⟨b, 1, none⟩ v') := (Kept.refl _ w1).setCell (fun h => h rfl) _
  have k3 : Kept (fun i => v.ownBlock ≠ some i ∧ i ≠ b) w (w1.setCell ⟨b, 1, none⟩ v') := (k1.mono (fun i hi => hi.1)).trans (k2.mono (fun i hi => hi.2))
  have hB : ∀ u l, OwnB w u l → OwnB (w1.setCell ⟨b, 1, none⟩ v') u l := by
    intro u l hu
    refine hu.kept k3 (fun g hg => ?_)
    obtain ⟨cur, e⟩ := ownB_type hu hg
    refine ⟨fun e2 => ?_, ?_⟩
    · obtain ⟨cur2, e3⟩ := ownM_type hV.2.1 e2
      rw [e] at e3
      simp at e3
    · rintro rfl
      rw [hV.1] at e
      simp at e
  refine ⟨⟨⟨?_, t.kept k2 (fun g hg => ?_), fun p hp => ⟨(hM p hp).1, hB _ _ (hM p hp).2.1⟩⟩, hb, fun g hg => ?_, fun p hp => (hM p hp).2.2, hP, fun i hi => Nat.lt_of_lt_of_le (hK i hi) k3.size⟩, ?_, ?_, frozen_of_row _ _ _ _ _ b1, hB⟩
  · rw [e1]; exact setRow_heap w1 b _ _ _ _ b1
  · obtain ⟨cur, e⟩ := ownM_type t hg
    rintro rfl
    rw [b1] at e
    simp at e
  · rcases hv with e | ⟨k, e, hk2⟩
    · rw [e] at hg; exact hk g hg
    · rw [e] at hg
      simp only [Option.some.injEq] at hg
      subst hg
      intro q
      have := hK _ q
      omega
  · exact k3.narrow (fun i hi q => ⟨fun e => hk i e q, fun e => hb (e ▸ q)⟩)
  · rw [cell_of_row w1 b 1 _ _ _ b1]; rfl

theorem delete_first (w : World) (v : Value) (x : Int × Sl) (m : Mv) (hv : OwnM w v (x :: m)) (hm : m.length ≤ 100000) :
    Calls Try.prog 60 #[v, .int .i64 0, .int .i64 1] w fun e w' => ∃ v', e = .returned v' ∧ OwnM w' v' m ∧ w.grownBy w' v.ownBlock ∧ v'.ownBlock = v.ownBlock ∧ ∃ ao c, v' = .slice ao m.length c := by
  rcases hv.at with ⟨_, h⟩ | ⟨g, cap, L, rfl, h1, h2, h3, h4, h5⟩
  · simp at h
  · refine (delete_row g (x :: m).length cap 0 (x :: m) L w h1 h4 rfl h5 (by simp) h2 h3).mono ?_
    rintro e w' ⟨rfl, h6, h7⟩
    exact ⟨_, rfl, h6, h7, rfl, _, _, rfl⟩

set_option maxHeartbeats 1000000 in
theorem takeFirst_any (K : Nat → Prop) (b : Nat) (room : Int) (v : Value) (p : Msg) (r : List Msg) (w : World) (hw : PipU K w b room v (p :: r)) (hr : r.length ≤ 256) :
    Calls Try.prog 53 #[.pointer (some ⟨b, 0, none⟩)] w fun e w' => e = .returned (sval p.2.1) ∧ ∃ v', PipU (fun i => K i ∨ (sval p.2.1).ownBlock = some i) w' b room v' r ∧ OwnB w' (sval p.2.1) p.2.2 ∧ Kept K w w' := by
  obtain ⟨c0, c1⟩ := hw.1.cells
  obtain ⟨ao, cp, ev, k1, k2, vw⟩ := hw.1.2.1.view
  obtain ⟨g, eg, x1, x2⟩ := vw 0 (by simp)
  subst eg
  have x3 : w.cell? ⟨g, 1, none⟩ = some (sval p.2.1) := by simpa [mval] using x2
  have D := delete_first w v (mval p) (r.map mval) hw.1.2.1 (by simp; omega)
  have T : Hid (∀ w1 v', OwnM w1 v' (r.map mval) → w.grownBy w1 v.ownBlock → v'.ownBlock = v.ownBlock → (PipU (fun i => K i ∨ (sval p.2.1).ownBlock = some i) (w1.setCell ⟨b, 1, none⟩ v') b room v' r ∧ OwnB (w1.setCell ⟨b, 1, none⟩ v') (sval p.2.1) p.2.2 ∧ Kept K w (w1.setCell ⟨b, 1, none⟩ v')) ∧ w1.cell? ⟨b, 1, none⟩ = some v ∧ w1.frozen? ⟨b, 1, none⟩ = false) := by
    intro w1 v' h1 h2 h3
    obtain ⟨a1, a2, a3, a4, a5⟩ := hw.turn h1 h2 (.inl h3) (fun q hq => ⟨(hw.1.2.2 q (List.mem_cons_of_mem _ hq)).1, (hw.1.2.2 q (List.mem_cons_of_mem _ hq)).2, hw.2.2.2.1 q (List.mem_cons_of_mem _ hq)⟩) (List.pairwise_cons.1 hw.2.2.2.2.1).2
    have ob := hw.1.2.2 p (List.mem_cons_self ..)
    refine ⟨⟨a1.join ?_ ?_ ?_ ?_, a5 _ _ ob.2, a2⟩, a3, a4⟩
    · exact fun e => (hw.1.byte_ne (List.mem_cons_self ..) e).1 rfl
    · exact fun g hg e => (hw.1.byte_ne (List.mem_cons_self ..) e).2 (by rw [← h3]; exact hg)
    · exact fun q hq g hg e => (List.pairwise_cons.1 hw.2.2.2.2.1).1 q hq g e hg
    · exact fun i hi => Nat.lt_of_lt_of_le (ob.2.lt hi) a2.size
  have DD := hid D
  rw [ev] at DD T c1
  simp only [List.length_map, List.length_cons] at *
  obtain ⟨pd, ⟨ss, sn, sc⟩, pb⟩ := p
  simp only [sval] at *
  have i1 : (0 : Int) < ((r.length + 1 : Nat) : Int) := by omega
  clear hw D vw x1 x2 c0
  generalize r.length = n at *
  go_enter Try.func53, Try.ntmps53
  go_wp2_with fail
  refine DD.out.mono ?_
  rintro e w1 ⟨v', rfl, h1, h2, h3, ao, c, h4⟩
  obtain ⟨h5, h6, h7⟩ := T.out w1 v' h1 h2 h3
  have R := hid h5
  subst h4
  clear DD T h1 h2 h3 h5
  go_wp2_with fail
  go_ret
  exact ⟨rfl, _, R.out⟩

theorem run_clear_none (w : World) (ao : Option Addr) (c : Nat) (ty : TypeId) : (Builtin.clear_ #[94] ty #[.slice ao 0 c]).run Try.prog w = .ok (.tuple #[]) w := by
  cases ao <;> simp [Builtin.clear_, run_underlying Try.underlying94]

end Go.Proofs.Ytjmgigfaiaemeaa.Pip
