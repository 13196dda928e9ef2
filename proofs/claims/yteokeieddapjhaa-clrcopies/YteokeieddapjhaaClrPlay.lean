/-
  Reports compared; a book that is new; walks of the statements' awake and later; calls as they lie in memory.
-/
import Derived.Test.YteokeieddapjhaaClrNew
import Derived.Test.YteokeieddapjhaaClrTake
import Derived.Test.YteokeieddapjhaaClrLeave
import Derived.ChangeKeysEq
namespace Go.Proofs.Yteokeieddapjhaa.Clr
set_option linter.unusedVariables false
set_option linter.unusedSimpArgs false
set_option maxRecDepth 100000
open Go.RowKit Go.Lib

theorem stoodT : Try.prog.stoodInHeld 43 = false := by kernel_rfl
theorem guardT : Try.prog.eqGuardType Try.prog.depth 43 = false := by kernel_rfl
theorem part_t (w : World) (a b c : Int) : (part 3 #[.int .i64 a, .int .i64 b, .int .u64 c] 0).run Try.prog w = .ok (.int .i64 a) w ∧ (part 3 #[.int .i64 a, .int .i64 b, .int .u64 c] 1).run Try.prog w = .ok (.int .i64 b) w ∧ (part 34 #[.int .i64 a, .int .i64 b, .int .u64 c] 2).run Try.prog w = .ok (.int .u64 c) w := by
  refine ⟨?_, ?_, ?_⟩
  · simp only [part, Sem.run_bind, show (isAgg 3).run Try.prog w = .ok false w by simp [isAgg, run_underlying Try.underlying3], Result.andThen_ok, Bool.false_eq_true, if_false]; rfl
  · simp only [part, Sem.run_bind, show (isAgg 3).run Try.prog w = .ok false w by simp [isAgg, run_underlying Try.underlying3], Result.andThen_ok, Bool.false_eq_true, if_false]; rfl
  · simp only [part, Sem.run_bind, show (isAgg 34).run Try.prog w = .ok false w by simp [isAgg, run_underlying Try.underlying34], Result.andThen_ok, Bool.false_eq_true, if_false]; rfl
/-- a report is itself -/
theorem told_eq (w : World) (a b c : Int) : (Op.equalIn 10000 43 (.agg #[.int .i64 a, .int .i64 b, .int .u64 c]) (.agg #[.int .i64 a, .int .i64 b, .int .u64 c])).run Try.prog w = .ok true w := by
  have hu : Try.prog.underlying 43 = some (.struct (Try.prog.fieldsOf 43)) := by unfold Program.fieldsOf; rw [Try.underlying43]
  rw [run_equalIn_struct (P := Try.prog) w 9999 43 _ _ hu stoodT]
  unfold Program.fieldsOf
  rw [Try.underlying43]
  obtain ⟨p0, p1, p2⟩ := part_t w a b c
  simp [Op.eqFields, p0, p1, p2, run_equalIn_int (P := Try.prog) w _ _ _ _ _ _ Try.underlying3, run_equalIn_int (P := Try.prog) w _ _ _ _ _ _ Try.underlying34]

/-- a book at b, new since w -/
def PlS (w : World) (b : Nat) (lim : Int) (V : World) (s : BS) : Prop := Bk (fun i => i < w.heap.size) V b lim s ∧ Ext w V
theorem PlS.ext {w : World} {b : Nat} {lim : Int} {V V' : World} {s : BS} (h : PlS w b lim V s) (e : Ext V V') : PlS w b lim V' s := ⟨h.1.ext e, h.2.trans e⟩
theorem PlS.new {w V V' : World} {b : Nat} {lim : Int} {s : BS} (x : Ext w V) (h : Fresh V V' b lim s) : PlS w b lim V' s := ⟨h.1 _ (fun i hi => Nat.lt_of_lt_of_le hi x.size), x.trans h.2⟩
theorem PlS.wrote {w V V' : World} {b : Nat} {lim : Int} {s s' : BS} (h : PlS w b lim V s) (h' : Bk (fun i => i < w.heap.size) V' b lim s') (k : Kept (fun i => i < w.heap.size) V V') : PlS w b lim V' s' := ⟨h', Below.trans h.2 (k.below h.2.size (fun _ hi => hi))⟩
theorem PlS.take {w V : World} {b : Nat} {lim : Int} {s : BS} (p : PlS w b lim V s) (f t x now : Int) :
    Calls Try.prog 13 #[.pointer (some ⟨b, 0, none⟩), .agg #[.int .i64 f, .int .i64 t, .int .u64 x], .int .i64 now] V fun e w' => e = .returned (.int .i64 (btake s lim f t x now).2) ∧ PlS w b lim w' (btake s lim f t x now).1 := by
  refine (take_any p.1 f t x now).mono ?_
  rintro r w' ⟨rfl, t, k⟩
  exact ⟨rfl, p.wrote t k⟩
theorem PlS.leave {w V : World} {b : Nat} {lim : Int} {s : BS} (p : PlS w b lim V s) (f : Int) :
    Calls Try.prog 19 #[.pointer (some ⟨b, 0, none⟩), .int .i64 f] V fun e w' => e = .returned (.bool (bleave s f).2) ∧ PlS w b lim w' (bleave s f).1 := by
  refine (leave_any p.1 f).mono ?_
  rintro r w' ⟨rfl, t, k⟩
  exact ⟨rfl, p.wrote t k⟩
theorem PlS.pass {w V : World} {b : Nat} {lim : Int} {s : BS} (p : PlS w b lim V s) (now : Int) :
    Calls Try.prog 15 #[.pointer (some ⟨b, 0, none⟩), .int .i64 now] V fun e w' => e = .returned (.bool (bpass s lim now).2) ∧ PlS w b lim w' (bpass s lim now).1 := by
  refine (pass_any p.1 now).mono ?_
  rintro r w' ⟨rfl, t, k⟩
  exact ⟨rfl, p.wrote t k⟩

theorem Bk.less {K L : Nat → Prop} {w : World} {b : Nat} {lim : Int} {s : BS} (h : Bk L w b lim s) (hl : ∀ i, K i → L i) : Bk K w b lim s := by
  obtain ⟨f, l, hk, nb, v, r, o, nv⟩ := h
  exact ⟨f, l, fun i hi => hk i (hl i hi), fun g => nb (hl _ g), v, r, o, fun g hg q => nv g hg (hl _ q)⟩
/-- what is new since V is none of the book's -/
theorem Bk.since {K : Nat → Prop} {V V' : World} {b : Nat} {lim : Int} {s : BS} (h : Bk K V b lim s) (x : Ext V V') : Bk (fun i => K i ∨ (V.heap.size ≤ i ∧ i < V'.heap.size)) V' b lim s := h.more x (fun i hi => hi)
theorem since_kept {K : Nat → Prop} {V V' w' : World} (k : Kept (fun i => K i ∨ (V.heap.size ≤ i ∧ i < V'.heap.size)) V' w') : Kept K V' w' ∧ Kept (fun i => V.heap.size ≤ i) V' w' := ⟨k.mono (fun i hi => .inl hi), k.narrow (fun i h1 h2 => .inr ⟨h2, h1⟩)⟩
theorem Bk.takeX {K : Nat → Prop} {V V' : World} {b : Nat} {lim : Int} {s : BS} (h : Bk K V b lim s) (x : Ext V V') (f t r now : Int) :
    Calls Try.prog 13 #[.pointer (some ⟨b, 0, none⟩), .agg #[.int .i64 f, .int .i64 t, .int .u64 r], .int .i64 now] V' fun e w' => e = .returned (.int .i64 (btake s lim f t r now).2) ∧ Bk K w' b lim (btake s lim f t r now).1 ∧ Kept K V' w' ∧ Kept (fun i => V.heap.size ≤ i) V' w' := by
  refine (take_any (h.since x) f t r now).mono ?_
  rintro e w' ⟨rfl, t, k⟩
  exact ⟨rfl, t.less (fun i hi => .inl hi), since_kept k⟩
theorem Bk.leaveX {K : Nat → Prop} {V V' : World} {b : Nat} {lim : Int} {s : BS} (h : Bk K V b lim s) (x : Ext V V') (f : Int) :
    Calls Try.prog 19 #[.pointer (some ⟨b, 0, none⟩), .int .i64 f] V' fun e w' => e = .returned (.bool (bleave s f).2) ∧ Bk K w' b lim (bleave s f).1 ∧ Kept K V' w' ∧ Kept (fun i => V.heap.size ≤ i) V' w' := by
  refine (leave_any (h.since x) f).mono ?_
  rintro e w' ⟨rfl, t, k⟩
  exact ⟨rfl, t.less (fun i hi => .inl hi), since_kept k⟩
theorem Bk.passX {K : Nat → Prop} {V V' : World} {b : Nat} {lim : Int} {s : BS} (h : Bk K V b lim s) (x : Ext V V') (now : Int) :
    Calls Try.prog 15 #[.pointer (some ⟨b, 0, none⟩), .int .i64 now] V' fun e w' => e = .returned (.bool (bpass s lim now).2) ∧ Bk K w' b lim (bpass s lim now).1 ∧ Kept K V' w' ∧ Kept (fun i => V.heap.size ≤ i) V' w' := by
  refine (pass_any (h.since x) now).mono ?_
  rintro e w' ⟨rfl, t, k⟩
  exact ⟨rfl, t.less (fun i hi => .inl hi), since_kept k⟩
theorem PlS.takeX {w V V' : World} {b : Nat} {lim : Int} {s : BS} (p : PlS w b lim V s) (x : Ext V V') (f t r now : Int) :
    Calls Try.prog 13 #[.pointer (some ⟨b, 0, none⟩), .agg #[.int .i64 f, .int .i64 t, .int .u64 r], .int .i64 now] V' fun e w' => e = .returned (.int .i64 (btake s lim f t r now).2) ∧ PlS w b lim w' (btake s lim f t r now).1 ∧ Kept (fun i => V.heap.size ≤ i) V' w' := by
  refine (p.1.takeX x f t r now).mono ?_
  rintro e w' ⟨rfl, t, k, k2⟩
  exact ⟨rfl, (p.ext x).wrote t k, k2⟩

/-- a time's step -/
def lat (y : Int) : Int := if y < 0 then 0 else if 1000 < y then 1000 else y
theorem lat_room (y : Int) : 0 ≤ lat y ∧ lat y ≤ 1000 := by unfold lat; repeat' split <;> omega
theorem later_any (n y : Int) (w : World) (h0 : 0 ≤ n) (h1 : n ≤ 1000000) : Calls Try.prog 9 #[.int .i64 n, .int .i64 y] w fun e w' => e = .returned (.int .i64 (n + lat y)) ∧ w' = w := by
  unfold lat
  by_cases q0 : y < 0
  · rw [if_pos q0]
    go_enter Try.func9, Try.ntmps9
    go_wp2_with fail
    go_ret
    exact ⟨by simp, rfl⟩
  · rw [if_neg q0]
    by_cases q1 : 1000 < y
    · rw [if_pos q1]
      go_enter Try.func9, Try.ntmps9
      go_wp2_with fail
      go_ret
      exact ⟨rfl, rfl⟩
    · rw [if_neg q1]
      go_enter Try.func9, Try.ntmps9
      go_wp2_with fail
      go_ret
      exact ⟨rfl, rfl⟩

def aw1 : BS := (btake bnew 20 1 5 10 5).1
def aw2 : BS := (btake aw1 20 2 6 8 6).1
def aw3 : BS := (btake aw2 20 2 7 20 7).1
theorem a1 : (btake bnew 20 1 5 10 5).2 = 0 := by decide +kernel
theorem a2 : (btake aw1 20 2 6 8 6).2 = 0 := by decide +kernel
theorem a3 : (btake aw2 20 2 7 20 7).2 = 0 := by decide +kernel
theorem a4 : cl aw3 = some (7, 20) := by decide +kernel
theorem a5 : aw3.2 = 2 := by decide +kernel
theorem a6 : btake aw3 20 2 6 0 8 = (aw3, 23) := by decide +kernel
theorem a7 : (rows 0 aw3.1).length = 2 := by decide +kernel

set_option maxHeartbeats 4000000 in
theorem awake_any (w : World) : Calls Try.prog 7 #[] w fun e w' => e = .returned (.bool true) ∧ Ext w w' := by
  have PE := fun w => told_eq w 2 7 20
  have GT := guardT
  go_enter Try.func7, Try.ntmps7
  go_wp2_with fail
  refine (new_ok 20 _ (by decide)).mono ?_
  rintro e w1 ⟨b, rfl, h1⟩
  have S1 : Hid (PlS w b 20 w1 bnew) := PlS.new (Ext.refl w) h1.out
  clear h1
  go_wp2_with fail
  refine (S1.out.take 1 5 10 5).mono ?_
  rintro e w2 ⟨rfl, s⟩
  rw [a1]
  have S2 : Hid (PlS w b 20 w2 aw1) := s
  clear s S1
  go_wp2_with fail
  refine (S2.out.take 2 6 8 6).mono ?_
  rintro e w3 ⟨rfl, s⟩
  rw [a2]
  have S3 : Hid (PlS w b 20 w3 aw2) := s
  clear s S2
  go_wp2_with fail
  refine (S3.out.take 2 7 20 7).mono ?_
  rintro e w4 ⟨rfl, s⟩
  rw [a3]
  have S4 : Hid (PlS w b 20 w4 aw3) := s
  clear s S3
  go_wp2_with fail
  refine (clr_any S4.out.1).mono ?_
  rintro e w5 ⟨rfl, x⟩
  rw [a4, a5]
  simp only [tv, Option.isSome_some]
  have S5 : Hid (PlS w b 20 (tb w5 2 7 20) aw3) := (S4.out.ext x).ext (tb_ext w5 2 7 20)
  have EZ : Hid (w5.alloc (.cells #[.int .i64 2, .int .i64 7, .int .u64 20] 43) = tb w5 2 7 20) := rfl
  obtain ⟨z0, z1, z2⟩ := row3 (tb_row w5 2 7 20)
  clear x S4
  go_wp2_with (rw [EZ.out])
  refine (new_bad 0 _ (by decide)).mono ?_
  rintro e w6 ⟨rfl, ew⟩
  obtain rfl := ew
  go_wp2_with fail
  refine (S5.out.take 2 6 0 8).mono ?_
  rintro e w7 ⟨rfl, s⟩
  rw [a6] at s
  rw [a6]
  have S6 := hid s
  clear s S5
  go_wp2_with fail
  refine (count_any S6.out.1).mono ?_
  rintro e w8 ⟨rfl, ew⟩
  obtain rfl := ew
  rw [a7]
  go_wp2_with fail
  go_ret
  exact ⟨rfl, S6.out.2⟩

/-! ### calls in memory -/
/-- kind, three numbers, a rate -/
abbrev OpS := Int × Int × Int × Int × Int
def FitO (o : OpS) : Prop := 0 ≤ o.2.2.2.2 ∧ o.2.2.2.2 < 18446744073709551616
def five (o : OpS) : List Value := [.int .i64 o.1, .int .i64 o.2.1, .int .i64 o.2.2.1, .int .i64 o.2.2.2.1, .int .u64 o.2.2.2.2]
def ocs (o : OpS) : Array Value := #[.int .i64 o.1, .int .i64 o.2.1, .int .i64 o.2.2.1, .int .i64 o.2.2.2.1, .int .u64 o.2.2.2.2]
theorem ocs_one (o : OpS) : (ocs o).all (·.oneCell') = true := by simp [ocs, Value.oneCell']
theorem size_o : (Try.prog.info? 36).map (·.size) = some 5 := by kernel_rfl
theorem encO : Enc five 5 := ⟨by decide, fun _ => rfl, fun x u h => by
  simp only [five, List.mem_cons, List.not_mem_nil, or_false] at h
  rcases h with rfl | rfl | rfl | rfl | rfl <;> rfl⟩
/-- calls that came in: their cells, and each one's rate is a word -/
def OpsIn (w : World) (v : Value) (l : List OpS) : Prop := RowK (fun _ => True) w v 5 (fcells five l) ∧ ∀ o ∈ l, FitO o
theorem OpsIn.slice {w : World} {v : Value} {l : List OpS} (h : OpsIn w v l) : ∃ ao c, v = .slice ao l.length c ∧ l.length ≤ c ∧ c ≤ maxLen := by
  obtain ⟨⟨ao, n, c, e, h1, h2, h3, _⟩, _⟩ := h
  rw [fcells_length encO] at h1
  obtain rfl : l.length = n := by omega
  exact ⟨ao, c, e, h2, h3⟩
theorem OpsIn.at {w : World} {ao : Option Addr} {n c : Nat} {l : List OpS} (h : OpsIn w (.slice ao n c) l) {k : Nat} {q : OpS} (hk : l[k]? = some q) :
    ∃ g o, ao = some ⟨g, o, none⟩ ∧ ∀ V, Ext w V → V.cell? ⟨g, o + k * 5, none⟩ = some (.int .i64 q.1) ∧ V.cell? ⟨g, o + k * 5 + 1, none⟩ = some (.int .i64 q.2.1) ∧ V.cell? ⟨g, o + k * 5 + 2, none⟩ = some (.int .i64 q.2.2.1) ∧ V.cell? ⟨g, o + k * 5 + 3, none⟩ = some (.int .i64 q.2.2.2.1) ∧ V.cell? ⟨g, o + k * 5 + 4, none⟩ = some (.int .u64 q.2.2.2.2) := by
  obtain ⟨⟨ao', n', c', e, h1, h2, h3, h4⟩, _⟩ := h
  simp only [Value.slice.injEq] at e
  obtain ⟨rfl, rfl, rfl⟩ := e
  rw [fcells_length encO] at h1
  have kl := (List.getElem?_eq_some_iff.1 hk).1
  obtain ⟨g, o, ea, hg, hc⟩ := h4 (by omega)
  have a0 := hc (k * 5 + 0) _ (fcells_at encO hk (j := 0) (by decide))
  have a1 := hc (k * 5 + 1) _ (fcells_at encO hk (j := 1) (by decide))
  have a2 := hc (k * 5 + 2) _ (fcells_at encO hk (j := 2) (by decide))
  have a3 := hc (k * 5 + 3) _ (fcells_at encO hk (j := 3) (by decide))
  have a4 := hc (k * 5 + 4) _ (fcells_at encO hk (j := 4) (by decide))
  rw [← Nat.add_assoc] at a1 a2 a3 a4
  rw [Nat.add_zero] at a0
  exact ⟨g, o, ea, fun V X => ⟨X.cell a0, X.cell a1, X.cell a2, X.cell a3, X.cell a4⟩⟩
/-- what a walk needs of calls: each one's cells, in any later world -/
def Seen (w : World) (ao : Option Addr) (l : List OpS) : Prop := ∀ (k : Nat) (q : OpS), l[k]? = some q → FitO q ∧ ∃ g o, ao = some ⟨g, o, none⟩ ∧ ∀ V, Ext w V → V.cell? ⟨g, o + k * 5, none⟩ = some (.int .i64 q.1) ∧ V.cell? ⟨g, o + k * 5 + 1, none⟩ = some (.int .i64 q.2.1) ∧ V.cell? ⟨g, o + k * 5 + 2, none⟩ = some (.int .i64 q.2.2.1) ∧ V.cell? ⟨g, o + k * 5 + 3, none⟩ = some (.int .i64 q.2.2.2.1) ∧ V.cell? ⟨g, o + k * 5 + 4, none⟩ = some (.int .u64 q.2.2.2.2)
theorem OpsIn.seen {w : World} {ao : Option Addr} {n c : Nat} {l : List OpS} (h : OpsIn w (.slice ao n c) l) : Seen w ao l := fun k q hk => ⟨h.2 q (List.mem_of_getElem? hk), h.at hk⟩

/-- a call's box -/
def bx (wr : World) (k a n c x : Int) : World := wr.alloc (.cells #[.int .i64 k, .int .i64 a, .int .i64 n, .int .i64 c, .int .u64 x] 36)
theorem bx_ext (wr : World) (k a n c x : Int) : Ext wr (bx wr k a n c x) := (Ext.refl wr).alloc _
theorem bx_row (wr : World) (k a n c x : Int) : (bx wr k a n c x).heap[wr.heap.size]? = some (.cells (ocs (k, a, n, c, x)) 36 (0, 0)) := heap_alloc_new wr _
theorem row_cells {V : World} {g : Nat} {k a n c x : Int} (r : V.heap[g]? = some (.cells (ocs (k, a, n, c, x)) 36 (0, 0))) : V.cell? ⟨g, 0, none⟩ = some (.int .i64 k) ∧ V.cell? ⟨g, 1, none⟩ = some (.int .i64 a) ∧ V.cell? ⟨g, 2, none⟩ = some (.int .i64 n) ∧ V.cell? ⟨g, 3, none⟩ = some (.int .i64 c) ∧ V.cell? ⟨g, 4, none⟩ = some (.int .u64 x) := by
  refine ⟨?_, ?_, ?_, ?_, ?_⟩
  · rw [cell_of_row _ _ 0 _ _ _ r]; rfl
  · rw [cell_of_row _ _ 1 _ _ _ r]; rfl
  · rw [cell_of_row _ _ 2 _ _ _ r]; rfl
  · rw [cell_of_row _ _ 3 _ _ _ r]; rfl
  · rw [cell_of_row _ _ 4 _ _ _ r]; rfl
end Go.Proofs.Yteokeieddapjhaa.Clr
