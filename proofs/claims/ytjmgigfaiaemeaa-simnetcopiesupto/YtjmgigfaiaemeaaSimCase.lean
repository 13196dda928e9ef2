/-
  A case as it lies in memory; walks of right, light.
-/
import Derived.Test.YtjmgigfaiaemeaaSimModel
namespace Go.Proofs.Ytjmgigfaiaemeaa.Sim
set_option linter.unusedVariables false
set_option maxRecDepth 100000
open Go.RowKit Go.Lib Go.Proofs.Ytjmgigfaiaemeaa.Crc Go.Proofs.Ytjmgigfaiaemeaa.Grp
open Go.Proofs.Ytjmgigfaiaemeaa.Pip hiding NewR

/-- a call: kind, receiver, level, how much later, text -/
abbrev OpS := Int × Int × Int × Int × Sl
def oenc (o : OpS) : List Value := [.int .i64 o.1, .int .i64 o.2.1, .int .i64 o.2.2.1, .int .i64 o.2.2.2.1, sval o.2.2.2.2]
theorem encO : Enc oenc 5 := ⟨by decide, fun _ => rfl, fun x u h => by
  simp only [oenc, List.mem_cons, List.not_mem_nil, or_false] at h
  rcases h with rfl | rfl | rfl | rfl | rfl <;> rfl⟩
/-- a net's numbers as they lie in cells -/
def ccs (c : Cfg) : Array Value := #[.int .i64 c.1, .int .i64 c.2.1, .int .i64 c.2.2.1, .int .i64 c.2.2.2.1, .int .i64 c.2.2.2.2]
/-- may there be such a net? (receivers, delay, room, join, leave) -/
def okCfg (c : Cfg) : Prop := 1 ≤ c.1 ∧ c.1 ≤ 64 ∧ 0 ≤ c.2.2.2.1 ∧ c.2.2.2.1 ≤ 64 ∧ 0 ≤ c.2.2.2.2 ∧ c.2.2.2.2 ≤ 64 ∧ 1 ≤ c.2.2.1 ∧ c.2.2.1 ≤ 256 ∧ 0 ≤ c.2.1 ∧ c.2.1 ≤ 64

set_option maxHeartbeats 2000000 in
theorem right_yes (c : Cfg) (w : World) (h : okCfg c) :
    Calls Try.prog 5 #[.agg (ccs c)] w fun e w' => e = .returned (.bool true) ∧ Ext w w' := by
  obtain ⟨c1, c2, c3, c4, c5⟩ := c
  obtain ⟨h1, h2, h3, h4, h5, h6, h7, h8, h9, h10⟩ := h
  unfold ccs
  simp only at *
  have X : Hid (Ext w (w.alloc (.cells #[.int .i64 c1, .int .i64 c2, .int .i64 c3, .int .i64 c4, .int .i64 c5] 23))) := (Ext.refl w).alloc _
  go_enter Try.func5, Try.ntmps5
  go_wp2_with fail
  go_ret
  exact ⟨rfl, X.out⟩
set_option maxHeartbeats 4000000 in
theorem right_no (c : Cfg) (w : World) (h : ¬ okCfg c) :
    Calls Try.prog 5 #[.agg (ccs c)] w fun e w' => e = .returned (.bool false) ∧ Ext w w' := by
  obtain ⟨c1, c2, c3, c4, c5⟩ := c
  unfold okCfg at h
  unfold ccs
  simp only at *
  have X : Hid (Ext w (w.alloc (.cells #[.int .i64 c1, .int .i64 c2, .int .i64 c3, .int .i64 c4, .int .i64 c5] 23))) := (Ext.refl w).alloc _
  by_cases h1 : c1 < 1
  · clear h
    go_enter Try.func5, Try.ntmps5
    go_wp2_with fail
    go_ret
    exact ⟨rfl, X.out⟩
  by_cases h2 : 64 < c1
  · clear h
    go_enter Try.func5, Try.ntmps5
    go_wp2_with fail
    go_ret
    exact ⟨rfl, X.out⟩
  by_cases h3 : c4 < 0
  · clear h
    go_enter Try.func5, Try.ntmps5
    go_wp2_with fail
    go_ret
    exact ⟨rfl, X.out⟩
  by_cases h4 : 64 < c4
  · clear h
    go_enter Try.func5, Try.ntmps5
    go_wp2_with fail
    go_ret
    exact ⟨rfl, X.out⟩
  by_cases h5 : c5 < 0
  · clear h
    go_enter Try.func5, Try.ntmps5
    go_wp2_with fail
    go_ret
    exact ⟨rfl, X.out⟩
  by_cases h6 : 64 < c5
  · clear h
    go_enter Try.func5, Try.ntmps5
    go_wp2_with fail
    go_ret
    exact ⟨rfl, X.out⟩
  by_cases h7 : c3 < 1
  · clear h
    go_enter Try.func5, Try.ntmps5
    go_wp2_with fail
    go_ret
    exact ⟨rfl, X.out⟩
  by_cases h8 : 256 < c3
  · clear h
    go_enter Try.func5, Try.ntmps5
    go_wp2_with fail
    go_ret
    exact ⟨rfl, X.out⟩
  by_cases h9 : c2 < 0
  · clear h
    go_enter Try.func5, Try.ntmps5
    go_wp2_with fail
    go_ret
    exact ⟨rfl, X.out⟩
  have h11 : ¬ c2 ≤ 64 := by omega
  clear h
  go_enter Try.func5, Try.ntmps5
  go_wp2_with fail
  go_ret
  exact ⟨by simp <;> omega, X.out⟩

/-- how heavy the first k calls are -/
def heavy (l : List OpS) : Nat → Nat
  | 0 => 0
  | k + 1 => heavy l k + (1 + (l.getD k (0, 0, 0, 0, (none, 0, 0))).2.2.2.2.2.1 / 30)
theorem heavy_ge (l : List OpS) : ∀ k, k ≤ heavy l k
  | 0 => Nat.zero_le _
  | k + 1 => by have := heavy_ge l k; unfold heavy; omega
theorem heavy_le (l : List OpS) (h : ∀ o ∈ l, o.2.2.2.2.2.1 ≤ 1048576) : ∀ k, heavy l k ≤ k * 40000
  | 0 => Nat.le_refl 0
  | k + 1 => by
    have ih := heavy_le l h k
    have : (l.getD k (0, 0, 0, 0, (none, 0, 0))).2.2.2.2.2.1 ≤ 1048576 := by
      rw [List.getD_eq_getElem?_getD]
      cases e : l[k]? with
      | none => simp
      | some o => exact h o (List.mem_of_getElem? e)
    unfold heavy
    omega

set_option maxHeartbeats 2000000 in
theorem light_any (K : Nat → Prop) (c : Cfg) (fa : Option Addr) (FN fc : Nat) (ov : Value) (l : List OpS) (w : World) (hv : RowK K w ov 5 (fcells oenc l)) (hl : l.length ≤ 1048576) (ht : ∀ o ∈ l, o.2.2.2.2.2.1 ≤ 1048576) :
    Calls Try.prog 6 #[.agg #[.int .i64 c.1, .int .i64 c.2.1, .int .i64 c.2.2.1, .int .i64 c.2.2.2.1, .int .i64 c.2.2.2.2, .slice fa FN fc, ov]] w fun e w' => e = .returned (.bool (decide ((heavy l l.length : Int) ≤ 70) && decide ((FN : Int) ≤ 200) && decide (c.1 ≤ 8))) ∧ Ext w w' := by
  obtain ⟨c1, c2, c3, c4, c5⟩ := c
  simp only
  obtain ⟨ao, n, cap, rfl, h1, h2, h3, h4⟩ := hv
  rw [fcells_length encO] at h1
  obtain rfl : l.length = n := by omega
  unfold maxLen at h3
  have H4 := hid h4
  have HL := hid (heavy_le l ht)
  have HS : Hid (∀ k, heavy l (k + 1) = heavy l k + (1 + (l.getD k (0, 0, 0, 0, (none, 0, 0))).2.2.2.2.2.1 / 30)) := fun k => rfl
  have HT : Hid (∀ o ∈ l, o.2.2.2.2.2.1 ≤ 1048576) := ht
  obtain ⟨N, eN⟩ : ∃ N, N = l.length := ⟨_, rfl⟩
  have EN := hid eN
  obtain ⟨HN, eHN⟩ : ∃ HN, heavy l l.length = HN := ⟨_, rfl⟩
  rw [eHN]
  rw [← eN] at eHN hl h2
  rw [← eN]
  have EHN := hid eHN
  have X0 : Hid (Ext w (w.alloc (.cells #[.int .i64 c1, .int .i64 c2, .int .i64 c3, .int .i64 c4, .int .i64 c5, .slice fa FN fc, .slice ao N cap] 27))) := (Ext.refl w).alloc _
  have b0 := heap_alloc_new w (.cells #[.int .i64 c1, .int .i64 c2, .int .i64 c3, .int .i64 c4, .int .i64 c5, .slice fa FN fc, .slice ao N cap] 27)
  obtain ⟨W, eW⟩ : ∃ W, W = w.alloc (.cells #[.int .i64 c1, .int .i64 c2, .int .i64 c3, .int .i64 c4, .int .i64 c5, .slice fa FN fc, .slice ao N cap] 27) := ⟨_, rfl⟩
  rw [← eW] at X0 b0
  have B0 := hid b0
  have EW := hid eW
  obtain ⟨n0, en0⟩ : ∃ n0, n0 = w.heap.size := ⟨_, rfl⟩
  rw [← en0] at B0
  have EN0 := hid en0
  clear ht h4 h1 eN eHN b0 eW en0
  go_enter Try.func6, Try.ntmps6
  go_wp2_with fail
  rw [← EN0.out, ← EW.out]
  go_loopw [3, 5, 9] (fun z _ i wr => ∃ k : Nat, k ≤ N ∧ i = .int .i64 (k : Int) ∧ z = .int .i64 (heavy l k : Int) ∧ Hid (Ext W wr)) (fun _ _ i _ => (N - intOf i).toNat)
  case atStart => exact ⟨0, by omega, rfl, rfl, Ext.refl W⟩
  case round =>
    obtain ⟨k, hk, rfl, rfl, Y⟩ := hrel
    have hz := HL.out k
    by_cases h : k < N
    · have hk2 : k < l.length := by rw [← EN.out]; exact h
      obtain ⟨o, eo⟩ : ∃ o, l[k]? = some o := ⟨_, List.getElem?_eq_getElem hk2⟩
      obtain ⟨g, q, rfl, _, hc⟩ := H4.out (by omega)
      have key : ∀ j u, j < 5 → (oenc o)[j]? = some u → wr.cell? ⟨g, q + k * 5 + j, none⟩ = some u := fun j u hj hu => by
        have := (X0.out.trans Y.out).cell (hc (k * 5 + j) u (by rw [fcells_at encO eo hj]; exact hu))
        rw [← Nat.add_assoc] at this
        exact this
      have y0 := key 0 _ (by decide) rfl
      have y1 := key 1 _ (by decide) rfl
      have y2 := key 2 _ (by decide) rfl
      have y3 := key 3 _ (by decide) rfl
      have y4 := key 4 _ (by decide) rfl
      have to := HT.out o (List.mem_of_getElem? eo)
      have hs := HS.out k
      have eo2 : l.getD k (0, 0, 0, 0, (none, 0, 0)) = o := by rw [List.getD_eq_getElem?_getD, eo]; rfl
      rw [eo2] at hs
      obtain ⟨o0, o1, o2, o3, t1, t2, t3⟩ := o
      simp only [sval, Nat.add_zero] at *
      have i1 : (k : Int) < (N : Int) := by omega
      have i2 : (0 : Int) ≤ (k : Int) := by omega
      obtain ⟨D, eD⟩ : ∃ D, D = t2 / 30 := ⟨_, rfl⟩
      rw [← eD] at hs
      have d1 : Int.tdiv (t2 : Int) 30 = (D : Int) := by rw [Int.tdiv_eq_ediv_of_nonneg (by omega)]; omega
      have d2 : (t2 : Int) / 30 = (D : Int) := by omega
      have dr : D ≤ 40000 := by omega
      have Y1 : Hid (Ext W (wr.alloc (.cells #[.int .i64 o0, .int .i64 o1, .int .i64 o2, .int .i64 o3, .slice t1 t2 t3] 43))) := Y.out.alloc _
      generalize heavy l k = z at *
      have HS2 := hid hs
      have zz : (z : Int) ≤ 1048576 * 40000 := by omega
      clear key hc eo eo2 hk2 hs eD
      go_wp2_with fail
      go_roundw
      case rel => exact ⟨k + 1, by omega, by go_num, by rw [HS2.out]; go_num, Y1⟩
      case measure => simp [intOf]; omega
    · obtain rfl : k = N := by omega
      have B1 := Y.out.row B0.out
      have z5 : wr.cell? ⟨n0, 5, none⟩ = some (.slice fa FN fc) := by rw [cell_of_row wr _ 5 _ _ _ B1]; rfl
      have z0 : wr.cell? ⟨n0, 0, none⟩ = some (.int .i64 c1) := by rw [cell_of_row wr _ 0 _ _ _ B1]; rfl
      have hz2 : (heavy l k : Int) ≤ 1048576 * 40000 := by omega
      rw [EHN.out] at hz2 hz
      have XE := hid (X0.out.trans Y.out)
      clear B1
      rw [EHN.out]
      by_cases a1 : (HN : Int) ≤ 70
      · by_cases a2 : (FN : Int) ≤ 200
        · go_wp2_with fail
          go_ret
          exact ⟨by simp [a1, a2] <;> omega, XE.out⟩
        · go_wp2_with fail
          go_ret
          exact ⟨by simp <;> omega, XE.out⟩
      · go_wp2_with fail
        go_ret
        exact ⟨by simp <;> omega, XE.out⟩
end Go.Proofs.Ytjmgigfaiaemeaa.Sim
