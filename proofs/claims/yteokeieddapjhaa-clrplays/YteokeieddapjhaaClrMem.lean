/-
  A book in memory; walks of isReceiver, isTick, isOver, find, last, CLR, Of, Count.
-/
import Derived.Test.YteokeieddapjhaaClrBin
namespace Go.Proofs.Yteokeieddapjhaa.Clr
set_option linter.unusedVariables false
set_option maxRecDepth 100000
open Go.RowKit Go.Lib

theorem results_cell_tmp1 {P : Program} {fn : Func} {p t : Tmp} {ty : TypeId} (h : fn.results = #[.cell p ty, .tmp t]) (tmps : Array Value) (w : World) (g : Nat) (tt : TypeId) (cs : Array Value) (fr : Nat × Nat) (d : TypeDesc)
    (hp : tmps.getD p undef = .pointer (some ⟨g, 0, none⟩)) (hg : w.heap[g]? = some (.cells cs tt fr))
    (hu : P.underlying ty = some d) (hd : (match d with | .struct _ | .array _ _ => true | _ => false) = true) (hi : (P.info? ty).map (·.size) = some cs.size) :
    (results fn tmps).run P w = .ok (.tuple #[.agg cs, tmps.getD t undef]) w := by
  have hp' : tmps[p]?.getD undef = .pointer (some ⟨g, 0, none⟩) := by simpa using hp
  simp [results, h, hp', asAddr, run_loadVar_row w g tt ty cs fr d hg hu hd hi]

/-- a book in block b, none of it in K -/
def Bk (K : Nat → Prop) (w : World) (b : Nat) (lim : Int) (s : BS) : Prop :=
  FitB s ∧ (1 ≤ lim ∧ lim ≤ 1048576) ∧ (∀ i, K i → i < w.heap.size) ∧ ¬ K b ∧ ∃ v, w.heap[b]? = some (.cells #[.int .i64 lim, v, .int .i64 s.2] 54 (0, 0)) ∧ OwnR w v (rows 0 s.1) ∧ ∀ g, v.ownBlock = some g → ¬ K g
theorem Bk.kept {K : Nat → Prop} {w w' : World} {b : Nat} {lim : Int} {s : BS} (h : Bk K w b lim s) (k : Kept (fun i => ¬ K i) w w') : Bk K w' b lim s := by
  obtain ⟨f, l, hk, nb, v, r, o, nv⟩ := h
  exact ⟨f, l, fun i hi => Nat.lt_of_lt_of_le (hk i hi) k.size, nb, v, k.row nb r, o.kept k nv, nv⟩
theorem Bk.ext {K : Nat → Prop} {w w' : World} {b : Nat} {lim : Int} {s : BS} (h : Bk K w b lim s) (x : Ext w w') : Bk K w' b lim s := h.kept (Kept.of_ext x)
theorem Bk.more {K L : Nat → Prop} {w w' : World} {b : Nat} {lim : Int} {s : BS} (h : Bk K w b lim s) (x : Ext w w') (hl : ∀ i, L i → K i ∨ (w.heap.size ≤ i ∧ i < w'.heap.size)) : Bk L w' b lim s := by
  obtain ⟨f, l, hk, nb, v, r, o, nv⟩ := h
  refine ⟨f, l, fun i hi => ?_, fun g => ?_, v, x.row r, o.ext x, fun g hg hL => ?_⟩
  · rcases hl i hi with e | e
    · exact Nat.lt_of_lt_of_le (hk i e) x.size
    · exact e.2
  · rcases hl _ g with e | e
    · exact nb e
    · have := lt_of_row r; omega
  · rcases hl _ hL with e | e
    · exact nv g hg e
    · have := o.lt hg; omega
theorem Bk.lt {K : Nat → Prop} {w : World} {b : Nat} {lim : Int} {s : BS} (h : Bk K w b lim s) : b < w.heap.size := by
  obtain ⟨_, _, _, _, v, r, _⟩ := h
  exact lt_of_row r
theorem rows_64 {s : BS} (h : FitB s) : (rows 0 s.1).length ≤ 64 := by
  have := rows_len s.1 0
  rw [h.1] at this
  exact this
theorem Bk.view {K : Nat → Prop} {w : World} {b : Nat} {lim : Int} {s : BS} (h : Bk K w b lim s) : ∃ ao n c, n = (rows 0 s.1).length ∧ n ≤ 64 ∧ n ≤ c ∧ c ≤ maxLen ∧ w.cell? ⟨b, 0, none⟩ = some (.int .i64 lim) ∧ w.cell? ⟨b, 1, none⟩ = some (.slice ao n c) ∧ w.cell? ⟨b, 2, none⟩ = some (.int .i64 s.2) ∧ OwnR w (.slice ao n c) (rows 0 s.1) := by
  obtain ⟨f, l, hk, nb, v, r, o, nv⟩ := h
  obtain ⟨ao, c, rfl, h1, h2, _⟩ := o.view encR
  refine ⟨ao, _, c, rfl, rows_64 f, h1, h2, ?_, ?_, ?_, o⟩
  · rw [cell_of_row _ _ 0 _ _ _ r]; rfl
  · rw [cell_of_row _ _ 1 _ _ _ r]; rfl
  · rw [cell_of_row _ _ 2 _ _ _ r]; rfl

theorem isr_any (a : Int) (w : World) : Calls Try.prog 23 #[.int .i64 a] w fun e w' => e = .returned (.bool (decide (isR a))) ∧ w' = w := by
  by_cases h : 0 ≤ a
  · go_enter Try.func23, Try.ntmps23
    go_wp2
    go_ret
    exact ⟨by simp [isR, h], rfl⟩
  · go_enter Try.func23, Try.ntmps23
    go_wp2
    go_ret
    exact ⟨by have g : ¬ isR a := (by unfold isR; omega); simp [g], rfl⟩
theorem ist_any (a : Int) (w : World) : Calls Try.prog 24 #[.int .i64 a] w fun e w' => e = .returned (.bool (decide (isT a))) ∧ w' = w := by
  by_cases h : 0 ≤ a
  · go_enter Try.func24, Try.ntmps24
    go_wp2
    go_ret
    exact ⟨by simp [isT, h], rfl⟩
  · go_enter Try.func24, Try.ntmps24
    go_wp2
    go_ret
    exact ⟨by have g : ¬ isT a := (by unfold isT; omega); simp [g], rfl⟩

theorem over_any {K : Nat → Prop} {w : World} {b : Nat} {lim : Int} {s : BS} (h : Bk K w b lim s) (f t x now : Int) (ht : isT t) :
    Calls Try.prog 29 #[.pointer (some ⟨b, 0, none⟩), .agg #[.int .i64 f, .int .i64 t, .int .u64 x], .int .i64 now] w fun e w' => e = .returned (.bool (decide (t + lim < now))) ∧ Ext w w' := by
  obtain ⟨ao, n, c, _, _, _, _, c0, c1, c2, _⟩ := h.view
  have X := hid (tb_ext w f t x)
  obtain ⟨y0, y1, y2⟩ := row3 (tb_row w f t x)
  have d0 := X.out.cell c0
  have wl : IntKind.i64.wrap (t + lim) = t + lim := IntWalk.i64_in _ (by have := ht.1; have := ht.2; have := h.2.1; omega)
  have EW : Hid (tb w f t x = w.alloc (.cells #[.int .i64 f, .int .i64 t, .int .u64 x] 43)) := rfl
  rw [EW.out] at y0 y1 y2 d0
  clear h c0 c1 c2 ht
  go_enter Try.func29, Try.ntmps29
  go_wp2_with fail
  go_quiet (fail)
  go_wp2_with fail
  go_ret
  exact ⟨rfl, by rw [← EW.out]; exact X.out.drewN _⟩

theorem find_any {K : Nat → Prop} {w : World} {b : Nat} {lim : Int} {s : BS} (h : Bk K w b lim s) (r : Int) :
    Calls Try.prog 30 #[.pointer (some ⟨b, 0, none⟩), .int .i64 r] w fun e w' => ∃ k : Nat, e = .returned (.tuple #[.int .i64 (k : Int), .bool (la s.1 r).isSome]) ∧ (∀ q, la s.1 r = some q → (rows 0 s.1)[k]? = some (r, q.1, q.2)) ∧ (isR r → k = (lo s.1 r.toNat).length) ∧ Ext w w' := by
  obtain ⟨ao, n, c, en, n64, nc, cm, c0, c1, c2, o⟩ := h.view
  have BS := hid (bsearch_any _ _ r w o (rows_srt s.1 0) (by have := rows_64 h.1; omega))
  have FIN : Hid (∀ k : Nat, k ≤ (rows 0 s.1).length → (∀ i t, i < k → (rows 0 s.1)[i]? = some t → t.1 < r) → (∀ i t, k ≤ i → (rows 0 s.1)[i]? = some t → r ≤ t.1) → hit (rows 0 s.1) k r = (la s.1 r).isSome ∧ (∀ q, la s.1 r = some q → (rows 0 s.1)[k]? = some (r, q.1, q.2)) ∧ (isR r → k = (lo s.1 r.toNat).length)) := by
    intro k hk h1 h2
    by_cases g : isR r
    · obtain ⟨q, eq⟩ : ∃ q : Nat, r = (q : Int) := ⟨r.toNat, by have := g.1; omega⟩
      have hq : q < s.1.length := by rw [h.1.1]; have := g.2; omega
      have sp := split hq
      have ek : k = (lo s.1 q).length := place_at sp (fun t ht => by have := lo_lt ht; omega) (fun t ht => by
        rcases List.mem_append.1 ht with e | e
        · have := rw_mem e; omega
        · have := hi_gt e; omega) hk h1 h2
      have er : r.toNat = q := by omega
      rw [er]
      have at1 : (rows 0 s.1)[k]? = (rw_ q (sat s.1 q) ++ hi s.1 q)[0]? := by rw [sp, ek, List.getElem?_append_right (Nat.le_refl _), Nat.sub_self]
      subst eq
      rw [la_nat]
      cases es : sat s.1 q with
      | some y =>
        rw [es] at at1
        simp only [rw_, List.cons_append, List.getElem?_cons_zero] at at1
        refine ⟨?_, fun y' e => ?_, fun _ => ek⟩
        · unfold hit; rw [at1]; simp
        · rw [Option.some.injEq] at e; rw [at1, e]
      | none =>
        rw [es] at at1
        simp only [rw_, List.nil_append] at at1
        refine ⟨?_, fun y' e => by simp at e, fun _ => ek⟩
        unfold hit
        rw [at1]
        cases eh : (hi s.1 q)[0]? with
        | none => rfl
        | some t =>
          have := hi_gt (List.mem_of_getElem? eh)
          simp only [Option.isSome_none, beq_eq_false_iff_ne, ne_eq]
          omega
    · have e0 : la s.1 r = none := la_out (by rw [h.1.1]; unfold isR at g; omega)
      rw [e0]
      refine ⟨?_, fun q e => by simp at e, fun e => absurd e g⟩
      unfold hit
      cases eh : (rows 0 s.1)[k]? with
      | none => rfl
      | some t =>
        have := rows_mem _ _ _ (List.mem_of_getElem? eh)
        rw [h.1.1] at this
        unfold isR at g
        simp only [Option.isSome_none, beq_eq_false_iff_ne, ne_eq]
        omega
  clear h o en
  generalize rows 0 s.1 = l at *
  go_enter Try.func30, Try.ntmps30
  go_wp2_with fail
  refine BS.out.mono ?_
  rintro e w' ⟨k, rfl, h1, h2, h3, x⟩
  obtain ⟨f1, f2, f3⟩ := FIN.out k h1 h2 h3
  rw [f1]
  have F2 := hid f2
  have F3 := hid f3
  have X := hid x
  clear f1 f2 f3 x h1 h2 h3 FIN BS
  go_wp2_with fail
  go_ret2
  exact ⟨k, rfl, F2.out, F3.out, X.out⟩

/-- what is told of a receiver -/
def tv (r : Int) : Slot → Array Value
  | none => #[.int .i64 0, .int .i64 0, .int .u64 0]
  | some q => #[.int .i64 r, .int .i64 q.1, .int .u64 q.2]
theorem tv_size (r : Int) (q : Slot) : (tv r q).size = 3 := by cases q <;> rfl
theorem tv_one (r : Int) (q : Slot) : (tv r q).all (·.oneCell') = true := by cases q <;> simp [tv, Value.oneCell']

set_option maxHeartbeats 1000000 in
theorem last_any {K : Nat → Prop} {w : World} {b : Nat} {lim : Int} {s : BS} (h : Bk K w b lim s) (r : Int) :
    Calls Try.prog 22 #[.pointer (some ⟨b, 0, none⟩), .int .i64 r] w fun e w' => e = .returned (.tuple #[.agg (tv r (la s.1 r)), .bool (la s.1 r).isSome]) ∧ Ext w w' := by
  have X0 := hid (tb_ext w 0 0 0)
  have R0 := hid (tb_row w 0 0 0)
  have E0 : Hid (tb w 0 0 0 = w.alloc (.cells #[.int .i64 0, .int .i64 0, .int .u64 0] 43)) := rfl
  have FD := hid (find_any (h.ext X0.out) r)
  obtain ⟨ao, n, c, en, n64, nc, cm, c0, c1, c2, o⟩ := (h.ext X0.out).view
  obtain ⟨ao', c', ev, _, _, vw⟩ := o.view encR
  rw [← en] at ev
  simp only [Value.slice.injEq, true_and] at ev
  obtain ⟨rfl, rfl⟩ := ev
  have C1 := hid c1
  have VW := hid vw
  have LN : Hid (∀ (k : Nat) t, (rows 0 s.1)[k]? = some t → k < n) := fun k t e => by have := (List.getElem?_eq_some_iff.1 e).1; omega
  unfold maxLen at cm
  clear h o en c0 c1 c2 vw
  obtain ⟨V0, e0⟩ : ∃ V0, V0 = tb w 0 0 0 := ⟨_, rfl⟩
  rw [← e0] at X0 R0 E0 FD C1 VW
  clear e0
  obtain ⟨bx, ebx⟩ : ∃ bx, bx = w.heap.size := ⟨_, rfl⟩
  have EB := hid ebx
  rw [← ebx] at R0
  have wb : w.heap.size ≤ bx := by omega
  clear ebx
  cases el : la s.1 r with
  | none =>
    rw [el] at FD
    go_enter Try.func22, Try.ntmps22
    go_wp2_with (rw [← EB.out, ← E0.out])
    refine FD.out.mono ?_
    rintro e w1 ⟨k, rfl, _, _, x⟩
    have R1 := hid (x.row R0.out)
    have X1 := hid (X0.out.trans x)
    have FIN : Hid (Ext w (w1.setRow bx (tv r none)) ∧ (w1.setRow bx (tv r none)).heap[bx]? = some (.cells (tv r none) 43 (0, 0))) := ⟨X1.out.setRow wb _, setRow_heap _ _ _ _ _ _ R1.out⟩
    have ONE := hid (tv_one r none)
    clear x
    go_wp2_with (refine wpList_store_row rfl 43 (.tmp 4) _ rfl bx (tv r none) rfl rfl 43 _ R1.out (by kernel_rfl) rfl ONE.out ?_)
    try simp only [Act.put, List.setIfInBounds_toArray, List.set_cons_zero, List.set_cons_succ]
    refine bodyPost_ret (results_cell_tmp1 Try.results22 _ _ bx 43 _ (0, 0) _ rfl FIN.out.2 Try.underlying43 rfl (by kernel_rfl)) rfl ?_
    exact ⟨rfl, FIN.out.1⟩
  | some q =>
    rw [el] at FD
    go_enter Try.func22, Try.ntmps22
    go_wp2_with (rw [← EB.out, ← E0.out])
    refine FD.out.mono ?_
    rintro e w1 ⟨k, rfl, hq, _, x⟩
    have hk := hq q rfl
    obtain ⟨g, rfl, vv⟩ := VW.out k _ hk
    have i1 : (k : Int) < (n : Int) := by have := LN.out k _ hk; omega
    have i2 : (0 : Int) ≤ (k : Int) := by omega
    have d1 := x.cell C1.out
    have x0 := x.cell (vv 0 _ rfl)
    have x1 := x.cell (vv 1 _ rfl)
    have x2 := x.cell (vv 2 _ rfl)
    rw [Nat.add_zero] at x0
    simp only at x0 x1 x2
    have R1 := hid (x.row R0.out)
    have X1 := hid (X0.out.trans x)
    have FIN : Hid (Ext w (w1.setRow bx (tv r (some q))) ∧ (w1.setRow bx (tv r (some q))).heap[bx]? = some (.cells (tv r (some q)) 43 (0, 0))) := ⟨X1.out.setRow wb _, setRow_heap _ _ _ _ _ _ R1.out⟩
    have ONE := hid (tv_one r (some q))
    clear x vv hk hq FD
    go_wp2_with (refine wpList_store_row rfl 43 (.tmp 4) _ rfl bx (tv r (some q)) rfl rfl 43 _ R1.out (by kernel_rfl) rfl ONE.out ?_)
    try simp only [Act.put, List.setIfInBounds_toArray, List.set_cons_zero, List.set_cons_succ]
    refine bodyPost_ret (results_cell_tmp1 Try.results22 _ _ bx 43 _ (0, 0) _ rfl FIN.out.2 Try.underlying43 rfl (by kernel_rfl)) rfl ?_
    exact ⟨rfl, FIN.out.1⟩

theorem tv_lit (r : Int) (q : Slot) : ∃ a b c, tv r q = #[.int .i64 a, .int .i64 b, .int .u64 c] := by
  cases q with
  | none => exact ⟨_, _, _, rfl⟩
  | some q => exact ⟨_, _, _, rfl⟩

set_option maxHeartbeats 1000000 in
theorem clr_any {K : Nat → Prop} {w : World} {b : Nat} {lim : Int} {s : BS} (h : Bk K w b lim s) :
    Calls Try.prog 12 #[.pointer (some ⟨b, 0, none⟩)] w fun e w' => e = .returned (.tuple #[.agg (tv s.2 (cl s)), .bool (cl s).isSome]) ∧ Ext w w' := by
  have X0 := hid (tb_ext w 0 0 0)
  have R0 := hid (tb_row w 0 0 0)
  have E0 : Hid (tb w 0 0 0 = w.alloc (.cells #[.int .i64 0, .int .i64 0, .int .u64 0] 43)) := rfl
  have LA := hid (last_any (h.ext X0.out) s.2)
  obtain ⟨ao, n, c, en, n64, nc, cm, c0, c1, c2, o⟩ := (h.ext X0.out).view
  have ONE := hid (tv_one s.2 (cl s))
  obtain ⟨A, eA⟩ : ∃ A, A = tv s.2 (cl s) := ⟨_, rfl⟩
  have SZ : Hid (A.size = 3) := by show _ = _; rw [eA]; exact tv_size _ _
  rw [← eA] at ONE ⊢
  rw [show la s.1 s.2 = cl s from rfl, ← eA] at LA
  clear h o en c0 c1 eA
  obtain ⟨V0, e0⟩ : ∃ V0, V0 = tb w 0 0 0 := ⟨_, rfl⟩
  rw [← e0] at X0 R0 E0 LA c2
  clear e0
  obtain ⟨bx, ebx⟩ : ∃ bx, bx = w.heap.size := ⟨_, rfl⟩
  have EB := hid ebx
  rw [← ebx] at R0
  have wb : w.heap.size ≤ bx := by omega
  clear ebx
  go_enter Try.func12, Try.ntmps12
  go_wp2_with (rw [← EB.out, ← E0.out])
  refine LA.out.mono ?_
  rintro e w1 ⟨rfl, x⟩
  have R1 := hid (x.row R0.out)
  have X1 := hid (X0.out.trans x)
  have FIN : Hid (Ext w (w1.setRow bx A) ∧ (w1.setRow bx A).heap[bx]? = some (.cells A 43 (0, 0))) := ⟨X1.out.setRow wb _, setRow_heap _ _ _ _ _ _ R1.out⟩
  clear x LA
  go_wp2_with (refine wpList_store_row rfl 43 (.tmp 2) _ rfl bx A rfl rfl 43 _ R1.out (by rw [SZ.out]; kernel_rfl) (by rw [SZ.out]; rfl) ONE.out ?_)
  try simp only [Act.put, List.setIfInBounds_toArray, List.set_cons_zero, List.set_cons_succ]
  refine bodyPost_ret (results_cell_tmp1 Try.results12 _ _ bx 43 _ (0, 0) _ rfl FIN.out.2 Try.underlying43 rfl (by rw [SZ.out]; kernel_rfl)) rfl ?_
  exact ⟨rfl, FIN.out.1⟩

set_option maxHeartbeats 1000000 in
theorem of_any {K : Nat → Prop} {w : World} {b : Nat} {lim : Int} {s : BS} (h : Bk K w b lim s) (r : Int) :
    Calls Try.prog 20 #[.pointer (some ⟨b, 0, none⟩), .int .i64 r] w fun e w' => e = .returned (.tuple #[.agg (tv r (la s.1 r)), .int .i64 (if (la s.1 r).isSome then 0 else 14)]) ∧ Ext w w' := by
  have X0 := hid (tb_ext w 0 0 0)
  have R0 := hid (tb_row w 0 0 0)
  have E0 : Hid (tb w 0 0 0 = w.alloc (.cells #[.int .i64 0, .int .i64 0, .int .u64 0] 43)) := rfl
  have LA := hid (last_any (h.ext X0.out) r)
  have ONE := hid (tv_one r (la s.1 r))
  have NO : Hid (la s.1 r = none → tv r (la s.1 r) = #[.int .i64 0, .int .i64 0, .int .u64 0]) := fun e => by rw [e]; rfl
  obtain ⟨A0, A1, A2, eA⟩ := tv_lit r (la s.1 r)
  rw [eA] at LA ONE NO ⊢
  clear h eA
  obtain ⟨V0, e0⟩ : ∃ V0, V0 = tb w 0 0 0 := ⟨_, rfl⟩
  rw [← e0] at X0 R0 E0 LA
  clear e0
  obtain ⟨bx, ebx⟩ : ∃ bx, bx = w.heap.size := ⟨_, rfl⟩
  have EB := hid ebx
  rw [← ebx] at R0
  have wb : w.heap.size ≤ bx := by omega
  clear ebx
  have GO : Hid (∀ A0 A1 A2 w1, Ext V0 w1 → Ext w ((tb w1 A0 A1 A2).setRow bx #[.int .i64 A0, .int .i64 A1, .int .u64 A2]) ∧ ((tb w1 A0 A1 A2).setRow bx #[.int .i64 A0, .int .i64 A1, .int .u64 A2]).heap[bx]? = some (.cells #[.int .i64 A0, .int .i64 A1, .int .u64 A2] 43 (0, 0)) ∧ (tb w1 A0 A1 A2).heap[bx]? = some (.cells #[.int .i64 0, .int .i64 0, .int .u64 0] 43 (0, 0)))   := fun A0 A1 A2 w1 x => by
    have x2 := x.trans (tb_ext w1 A0 A1 A2)
    have r2 := x2.row R0.out
    exact ⟨(X0.out.trans x2).setRow wb _, setRow_heap _ _ _ _ _ _ r2, r2⟩
  cases el : la s.1 r with
  | none =>
    rw [el] at LA NO
    have NN := NO.out rfl
    rw [NN] at LA ONE ⊢
    clear NN NO
    have GZ : Hid (∀ w1, Ext V0 w1 → Ext w (((tb w1 0 0 0).setRow w1.heap.size #[.int .i64 0, .int .i64 0, .int .u64 0]).setRow bx #[.int .i64 0, .int .i64 0, .int .u64 0]) ∧ (((tb w1 0 0 0).setRow w1.heap.size #[.int .i64 0, .int .i64 0, .int .u64 0]).setRow bx #[.int .i64 0, .int .i64 0, .int .u64 0]).heap[bx]? = some (.cells #[.int .i64 0, .int .i64 0, .int .u64 0] 43 (0, 0)) ∧ ((tb w1 0 0 0).setRow w1.heap.size #[.int .i64 0, .int .i64 0, .int .u64 0]).heap[bx]? = some (.cells #[.int .i64 0, .int .i64 0, .int .u64 0] 43 (0, 0))) := fun w1 x => by
      have x2 := x.trans ((tb_ext w1 0 0 0).setRow (Nat.le_refl _) #[.int .i64 0, .int .i64 0, .int .u64 0])
      have r2 := x2.row R0.out
      exact ⟨(X0.out.trans x2).setRow wb _, setRow_heap _ _ _ _ _ _ r2, r2⟩
    simp only [Option.isSome_none] at LA ⊢
    go_enter Try.func20, Try.ntmps20
    go_wp2_with (rw [← EB.out, ← E0.out])
    refine LA.out.mono ?_
    rintro e w1 ⟨rfl, x⟩
    have G := hid (GZ.out w1 x)
    have TR := hid (tb_row w1 0 0 0)
    have ET : Hid (w1.alloc (.cells #[.int .i64 0, .int .i64 0, .int .u64 0] 43) = tb w1 0 0 0) := rfl
    clear x LA GO GZ
    go_wp2_with (first
      | rw [ET.out]
      | refine wpList_store_row rfl 43 (.tmp 6) _ rfl w1.heap.size _ rfl rfl 43 _ TR.out (by kernel_rfl) rfl ONE.out ?_
      | refine wpList_store_row rfl 43 (.tmp 4) _ rfl bx _ rfl rfl 43 _ G.out.2.2 (by kernel_rfl) rfl ONE.out ?_)
    try simp only [Act.put, List.setIfInBounds_toArray, List.set_cons_zero, List.set_cons_succ]
    refine bodyPost_ret (results_cell_tmp1 Try.results20 _ _ bx 43 _ (0, 0) _ rfl G.out.2.1 Try.underlying43 rfl (by kernel_rfl)) rfl ?_
    exact ⟨rfl, G.out.1⟩
  | some q =>
    rw [el] at LA
    simp only [Option.isSome_some] at LA ⊢
    clear NO
    go_enter Try.func20, Try.ntmps20
    go_wp2_with (rw [← EB.out, ← E0.out])
    refine LA.out.mono ?_
    rintro e w1 ⟨rfl, x⟩
    have G := hid (GO.out A0 A1 A2 w1 x)
    have ET : Hid (w1.alloc (.cells #[.int .i64 A0, .int .i64 A1, .int .u64 A2] 43) = tb w1 A0 A1 A2) := rfl
    have y := row3 (tb_row w1 A0 A1 A2)
    obtain ⟨y0, y1, y2⟩ := y
    clear x LA GO
    go_wp2_with (first
      | rw [ET.out]
      | refine wpList_store_row rfl 43 (.tmp 4) _ rfl bx _ rfl rfl 43 _ G.out.2.2 (by kernel_rfl) rfl ONE.out ?_)
    try simp only [Act.put, List.setIfInBounds_toArray, List.set_cons_zero, List.set_cons_succ]
    refine bodyPost_ret (results_cell_tmp1 Try.results20 _ _ bx 43 _ (0, 0) _ rfl G.out.2.1 Try.underlying43 rfl (by kernel_rfl)) rfl ?_
    exact ⟨rfl, G.out.1⟩

theorem count_any {K : Nat → Prop} {w : World} {b : Nat} {lim : Int} {s : BS} (h : Bk K w b lim s) :
    Calls Try.prog 16 #[.pointer (some ⟨b, 0, none⟩)] w fun e w' => e = .returned (.int .i64 ((rows 0 s.1).length : Int)) ∧ w' = w := by
  obtain ⟨ao, n, c, en, n64, nc, cm, c0, c1, c2, o⟩ := h.view
  rw [← en]
  clear h o en c0 c2
  go_enter Try.func16, Try.ntmps16
  go_wp2
  go_ret
  exact ⟨rfl, rfl⟩
end Go.Proofs.Yteokeieddapjhaa.Clr
