/-
  A bucket that is new; walks of the statements' small and awake; ticks as they lie in memory.
-/
import Derived.Test.YtadgkhdjjnkfcaaBktMem
import Derived.BigRegion
namespace Go.Proofs.Ytadgkhdjjnkfcaa.Bkt
set_option linter.unusedVariables false
set_option maxRecDepth 100000
open Go.RowKit Go.Lib

theorem ext_kept {w w1 w2 : World} {b : Nat} (e : Ext w w1) (k : Kept (fun q => q ≠ b) w1 w2) (hb : w.heap.size ≤ b) : Ext w w2 :=
  ((Kept.of_ext (K := fun q => q < w.heap.size) e).trans (k.mono (fun q hq e => by omega))).below (Nat.le_refl _) (fun i hi => hi)

/-- a bucket at b, new since w -/
def PlS (w : World) (b : Nat) (wr : World) (s : BS) : Prop := BktV wr b s ∧ Ext w wr ∧ w.heap.size ≤ b
theorem PlS.ext {w : World} {b : Nat} {wr w' : World} {s : BS} (h : PlS w b wr s) (e : Ext wr w') : PlS w b w' s := ⟨h.1.ext e, h.2.1.trans e, h.2.2⟩
theorem PlS.drewN {w : World} {b : Nat} {wr : World} {s : BS} (h : PlS w b wr s) (n : Nat) : PlS w b (wr.drewN n) s := h.ext ((Ext.refl wr).drewN n)
theorem PlS.wrote {w : World} {b : Nat} {wr w' : World} {s s' : BS} (h : PlS w b wr s) (hv : BktV w' b s') (k : Kept (fun q => q ≠ b) wr w') : PlS w b w' s' := ⟨hv, ext_kept h.2.1 k h.2.2, h.2.2⟩
/-- another one is written -/
theorem PlS.beside {w : World} {b c : Nat} {wr w' : World} {s : BS} (h : PlS w b wr s) (k : Kept (fun q => q ≠ c) wr w') (hc : w.heap.size ≤ c) (hn : b ≠ c) : PlS w b w' s := ⟨h.1.kept k hn, ext_kept h.2.1 k hc, h.2.2⟩
theorem PlS.fill {w : World} {b : Nat} {V : World} {s : BS} (p : PlS w b V s) (r : Int) (hr : Wd r) :
    Calls Try.prog 11 #[.pointer (some ⟨b, 0, none⟩), .int .u64 r] V fun e w' => e = .returned (.tuple #[]) ∧ PlS w b w' (fil s r) ∧ Kept (fun q => q ≠ b) V w' := by
  refine (fill_any b s r V p.1 hr).mono ?_
  rintro r w' ⟨rfl, t, k⟩
  exact ⟨rfl, p.wrote t k, k⟩
theorem PlS.spend {w : World} {b : Nat} {V : World} {s : BS} (p : PlS w b V s) (n : Int) :
    Calls Try.prog 15 #[.pointer (some ⟨b, 0, none⟩), .int .i64 n] V fun e w' => e = .returned (.bool (decide (Can s n))) ∧ PlS w b w' (spd s n) ∧ Kept (fun q => q ≠ b) V w' := by
  refine (spend_any b s n V p.1).mono ?_
  rintro r w' ⟨rfl, t, k⟩
  exact ⟨rfl, p.wrote t k, k⟩
theorem PlS.fin {w : World} {b : Nat} {V : World} {s : BS} (p : PlS w b V s) :
    Calls Try.prog 17 #[.pointer (some ⟨b, 0, none⟩)] V fun e w' => e = .returned (.tuple #[]) ∧ PlS w b w' (Bkt.fin s) ∧ Kept (fun q => q ≠ b) V w' := by
  refine (end_any b s V p.1).mono ?_
  rintro r w' ⟨rfl, t, k⟩
  exact ⟨rfl, p.wrote t k, k⟩

/-! ### awake -/
theorem aw_fil {k : Int} (h0 : 0 ≤ k) (h1 : k ≤ 2) : fil (10, k * 17179869184, 0) 17179869184 = (10, (k + 1) * 17179869184, 0) := by
  unfold fil wadd
  simp only
  rw [if_neg (by omega), show (k + 1) * 17179869184 = k * 17179869184 + 17179869184 by omega]
theorem aw_can {k : Int} (h1 : k ≤ 2) : ¬ Can (10, k * 17179869184, 0) 9 := by
  intro h
  have := h.2.2
  simp only at this
  omega
theorem aw_fin {k : Int} (h1 : k ≤ 2) : Bkt.fin (10, k * 17179869184, 0) = (10, k * 17179869184, 0) := by
  unfold Bkt.fin cap
  simp only
  rw [if_neg (by omega)]
theorem aw_yes : Can (10, 51539607552, 0) 9 := by decide +kernel
theorem aw_spd : spd (10, 51539607552, 0) 9 = (10, 12884901888, 9) := by decide +kernel

set_option maxHeartbeats 4000000 in
theorem awake_any (w : World) : Calls Try.prog 9 #[] w fun e w' => e = .returned (.bool true) ∧ Ext w w' := by
  have O4 := hid (fun V => of_any 4 (by decide) (by decide) V)
  have O3 := hid (fun V => of_any 3 (by decide) (by decide) V)
  rw [show (4 : Int) * 4294967296 = 17179869184 from rfl] at O4
  rw [show (3 : Int) * 4294967296 = 12884901888 from rfl] at O3
  have NW := hid (new_yes 10 w (by decide) (by decide))
  have NN := hid (fun V => new_no 0 V (.inl (by decide)))
  have W4 : Hid (Wd 17179869184) := by unfold Hid Wd; decide
  go_enter Try.func9, Try.ntmps9
  go_wp2_with fail
  refine NW.out.mono ?_
  rintro e w1 ⟨b, rfl, t, hb, x1⟩
  have S0 : Hid (PlS w b w1 (10, 0 * 17179869184, 0)) := ⟨t, x1, hb⟩
  clear t hb x1 NW
  go_wp2_with fail
  go_loopw [15] (fun iv wr => ∃ k : Nat, k ≤ 2 ∧ iv = .int .i64 (k : Int) ∧ Hid (PlS w b wr (10, (k : Int) * 17179869184, 0))) (fun iv _ => (2 - RowKit.intOf iv).toNat)
  case atStart => exact ⟨0, by omega, rfl, S0⟩
  case round =>
    clear S0
    obtain ⟨k, hk, rfl, S⟩ := hrel
    by_cases q : k < 2
    · have i1 : (k : Int) < 2 := by omega
      have i2 : (0 : Int) ≤ (k : Int) := by omega
      have NC := aw_can (k := (k : Int) + 1) (by omega)
      have FL := S.out.fill 17179869184 W4.out
      rw [aw_fil i2 (by omega)] at FL
      have FI := hid (fun V (p : PlS w b V (10, ((k : Int) + 1) * 17179869184, 0)) => p.fin)
      rw [aw_fin (k := (k : Int) + 1) (by omega)] at FI
      have SP := hid (fun V (p : PlS w b V (10, ((k : Int) + 1) * 17179869184, 0)) => p.spend 9)
      rw [spd_no NC, decide_eq_false NC] at SP
      have FIL := hid FL
      clear NC FL S NN O3
      generalize (10, ((k : Int) + 1) * 17179869184, 0) = s at *
      go_wp2_with fail
      refine (O4.out _).mono ?_
      rintro e w' ⟨rfl, ew⟩
      obtain rfl := ew.symm
      go_wp2_with fail
      refine FIL.out.mono ?_
      rintro e w2 ⟨rfl, t, -⟩
      have S2 := hid t
      clear t FIL
      go_wp2_with fail
      refine (SP.out _ S2.out).mono ?_
      rintro e w3 ⟨rfl, t, -⟩
      have S3 := hid t
      clear t S2
      go_wp2_with fail
      refine (FI.out _ S3.out).mono ?_
      rintro e w4 ⟨rfl, t, -⟩
      have S4 := hid t
      clear t S3 FI SP
      go_wp2_with fail
      go_roundw
      case rel => exact ⟨k + 1, by omega, by go_num, S4⟩
      case measure => simp [RowKit.intOf]; omega
    · obtain rfl : k = 2 := by omega
      have FL := S.out.fill 17179869184 W4.out
      rw [aw_fil (k := ((2 : Nat) : Int)) (by decide) (by decide), show (((2 : Nat) : Int) + 1) * 17179869184 = 51539607552 from rfl] at FL
      have FIL := hid FL
      clear FL S
      go_wp2_with fail
      refine (O4.out _).mono ?_
      rintro e w' ⟨rfl, ew⟩
      obtain rfl := ew.symm
      go_wp2_with fail
      refine FIL.out.mono ?_
      rintro e w2 ⟨rfl, t, -⟩
      have S2 := hid t
      clear t FIL
      go_wp2_with fail
      refine (NN.out _).mono ?_
      rintro e w' ⟨rfl, ew⟩
      obtain rfl := ew.symm
      have CN := can_any b _ 9 w2 S2.out.1
      rw [decide_eq_true aw_yes] at CN
      have CAN := hid CN
      clear CN
      go_wp2_with fail
      refine CAN.out.mono ?_
      rintro e w' ⟨rfl, n, rfl⟩
      have SP := (S2.out.drewN n).spend 9
      rw [aw_spd, decide_eq_true aw_yes] at SP
      have SPE := hid SP
      clear SP CAN S2
      go_wp2_with fail
      refine SPE.out.mono ?_
      rintro e w3 ⟨rfl, t, -⟩
      have S3 := hid t
      clear t SPE
      go_wp2_with fail
      refine (spent_any b _ _ S3.out.1).mono ?_
      rintro e w' ⟨rfl, ew⟩
      obtain rfl := ew.symm
      go_wp2_with fail
      refine (tokens_any b _ _ S3.out.1).mono ?_
      rintro e w' ⟨rfl, ew⟩
      obtain rfl := ew.symm
      go_wp2_with fail
      refine (O3.out _).mono ?_
      rintro e w' ⟨rfl, ew⟩
      obtain rfl := ew.symm
      go_wp2_with fail
      go_ret
      exact ⟨rfl, S3.out.2.1⟩

/-! ### ticks in memory -/
abbrev Sl := Option Addr × Nat × Nat
def sval (s : Sl) : Value := .slice s.1 s.2.1 s.2.2
/-- a tick: its rate, where its packets lie, they -/
abbrev TkS := Int × Sl × List Int
def tk (o : TkS) : List Value := [.int .u64 o.1, sval o.2.1]
def tkc (o : TkS) : Array Value := #[.int .u64 o.1, sval o.2.1]
def ri (x : Int) : List Value := [.int .i64 x]
theorem size_t : (Try.prog.info? 33).map (·.size) = some 2 := by kernel_rfl
theorem encT : Enc tk 2 := ⟨by decide, fun _ => rfl, fun x u h => by
  simp only [tk, List.mem_cons, List.not_mem_nil, or_false] at h
  rcases h with rfl | rfl <;> rfl⟩
theorem encI : Enc ri 1 := ⟨by decide, fun _ => rfl, fun x u h => by
  simp only [ri, List.mem_cons, List.not_mem_nil, or_false] at h
  subst h; rfl⟩
/-- ticks that came in: their cells; each one's rate is a word, its packets lie where it says -/
def TicksIn (w : World) (v : Value) (l : List TkS) : Prop := RowK (fun _ => True) w v 2 (fcells tk l) ∧ ∀ o ∈ l, Wd o.1 ∧ RowK (fun _ => True) w (sval o.2.1) 1 (fcells ri o.2.2)
theorem TicksIn.slice {w : World} {v : Value} {l : List TkS} (h : TicksIn w v l) : ∃ ao c, v = .slice ao l.length c ∧ l.length ≤ c ∧ c ≤ maxLen := by
  obtain ⟨⟨ao, n, c, e, h1, h2, h3, _⟩, _⟩ := h
  rw [fcells_length encT] at h1
  obtain rfl : l.length = n := by omega
  exact ⟨ao, c, e, h2, h3⟩
/-- a packet's place, in any later world -/
def SeenI (w : World) (ao : Option Addr) (l : List Int) : Prop := ∀ (j : Nat) (n : Int), l[j]? = some n → ∃ g o, ao = some ⟨g, o, none⟩ ∧ ∀ V, Ext w V → V.cell? ⟨g, o + j, none⟩ = some (.int .i64 n)
/-- what a walk needs of ticks: each one's cells, its packets, in any later world -/
def Seen (w : World) (ao : Option Addr) (l : List TkS) : Prop := ∀ (k : Nat) (q : TkS), l[k]? = some q → Wd q.1 ∧ (∃ g o, ao = some ⟨g, o, none⟩ ∧ ∀ V, Ext w V → V.cell? ⟨g, o + k * 2, none⟩ = some (.int .u64 q.1) ∧ V.cell? ⟨g, o + k * 2 + 1, none⟩ = some (sval q.2.1)) ∧ q.2.1.2.1 = q.2.2.length ∧ q.2.2.length ≤ q.2.1.2.2 ∧ q.2.1.2.2 ≤ maxLen ∧ SeenI w q.2.1.1 q.2.2
theorem TicksIn.at {w : World} {ao : Option Addr} {n c : Nat} {l : List TkS} (h : TicksIn w (.slice ao n c) l) {k : Nat} {q : TkS} (hk : l[k]? = some q) :
    ∃ g o, ao = some ⟨g, o, none⟩ ∧ ∀ V, Ext w V → V.cell? ⟨g, o + k * 2, none⟩ = some (.int .u64 q.1) ∧ V.cell? ⟨g, o + k * 2 + 1, none⟩ = some (sval q.2.1) := by
  obtain ⟨⟨ao', n', c', e, h1, h2, h3, h4⟩, _⟩ := h
  simp only [Value.slice.injEq] at e
  obtain ⟨rfl, rfl, rfl⟩ := e
  rw [fcells_length encT] at h1
  have kl := (List.getElem?_eq_some_iff.1 hk).1
  obtain ⟨g, o, ea, hg, hc⟩ := h4 (by omega)
  have a0 := hc (k * 2 + 0) _ (fcells_at encT hk (j := 0) (by decide))
  have a1 := hc (k * 2 + 1) _ (fcells_at encT hk (j := 1) (by decide))
  rw [← Nat.add_assoc] at a1
  rw [Nat.add_zero] at a0
  exact ⟨g, o, ea, fun V X => ⟨X.cell a0, X.cell a1⟩⟩
theorem TicksIn.seen {w : World} {ao : Option Addr} {n c : Nat} {l : List TkS} (h : TicksIn w (.slice ao n c) l) : Seen w ao l := fun k q hk => by
  obtain ⟨hw, ⟨a2, n2, c2, e2, h1, h2, h3, h4⟩⟩ := h.2 q (List.mem_of_getElem? hk)
  obtain ⟨r, ⟨sa, sn, sc⟩, is⟩ := q
  simp only [sval, Value.slice.injEq] at e2
  obtain ⟨rfl, rfl, rfl⟩ := e2
  simp only at h1 h2 h3 h4 hw ⊢
  rw [fcells_length encI] at h1
  obtain rfl : is.length = sn := by omega
  refine ⟨hw, h.at hk, rfl, h2, h3, fun j m hj => ?_⟩
  have jl := (List.getElem?_eq_some_iff.1 hj).1
  obtain ⟨g, o, ea, hg, hc⟩ := h4 (by omega)
  have a0 := hc (j * 1 + 0) _ (fcells_at encI hj (j := 0) (by decide))
  rw [Nat.mul_one, Nat.add_zero] at a0
  exact ⟨g, o, ea, fun V X => X.cell a0⟩
theorem Seen.ext {w w' : World} {ao : Option Addr} {l : List TkS} (h : Seen w ao l) (e : Ext w w') : Seen w' ao l := fun k q hk => by
  obtain ⟨h1, ⟨g, o, h2, h3⟩, h4, h5, h6, h7⟩ := h k q hk
  exact ⟨h1, ⟨g, o, h2, fun V X => h3 V (e.trans X)⟩, h4, h5, h6, fun j m hj => by
    obtain ⟨g, o, h8, h9⟩ := h7 j m hj
    exact ⟨g, o, h8, fun V X => h9 V (e.trans X)⟩⟩

/-- a tick's box -/
def bx (wr : World) (r : Int) (v : Value) : World := wr.alloc (.cells #[.int .u64 r, v] 33)
theorem bx_ext (wr : World) (r : Int) (v : Value) : Ext wr (bx wr r v) := (Ext.refl wr).alloc _
theorem bx_row (wr : World) (r : Int) (v : Value) : (bx wr r v).heap[wr.heap.size]? = some (.cells #[.int .u64 r, v] 33 (0, 0)) := heap_alloc_new wr _
theorem row_cells {V : World} {g : Nat} {r : Int} {v : Value} (h : V.heap[g]? = some (.cells #[.int .u64 r, v] 33 (0, 0))) : V.cell? ⟨g, 0, none⟩ = some (.int .u64 r) ∧ V.cell? ⟨g, 1, none⟩ = some v := by
  refine ⟨?_, ?_⟩
  · rw [cell_of_row _ _ 0 _ _ _ h]; rfl
  · rw [cell_of_row _ _ 1 _ _ _ h]; rfl
end Go.Proofs.Ytadgkhdjjnkfcaa.Bkt
