/-
  slices.Delete of one report. (Printed out of PipDel by wip/gen/clrrow.py.)
-/
import Derived.Test.YteokeieddapjhaaClrRow
import Derived.Deep.RegionLaw
namespace Go.Proofs.Yteokeieddapjhaa.Clr
set_option linter.unusedVariables false
set_option maxRecDepth 100000
open Go.RowKit Go.Lib

/-- an append whose run is known, as one step of a region that draws -/
theorem step_append_run {P : Program} {ops : Array Oper} {o : Oper} {a : Act} {w : World} {K : Act → World → Prop} {Q : Exit → Act → World → Prop} {E : Prop} (hg : o.guard = none) (s x : Operand) (t : TypeId)
    (hop : o.op = Op.call { callee := Callee.builtin Builtin.append, args := #[s, x], argTypes := #[t, t] }) (u v r : Value) (w' : World) (hs : a.eval s = u) (hx : a.eval x = v)
    (hrun : (Builtin.append_ #[t, t] o.type #[u, v]).run P w = .ok r w') (hK : K (a.put o.dst r) w') :
    if Region.wanted o (yielded ops a.tmps) = true then Oper.wp P o a w K Q else E := by
  have hw : Region.wanted o (yielded ops a.tmps) = true := by simp [Region.wanted, hg]
  rw [if_pos hw]
  unfold Oper.wp
  simp [execOp, hop, resolve, invoke, builtin, hs, hx, hrun, Result.andThen]
  exact hK

/-- a slice's cells cleared, in a row that is the call's own -/
theorem run_clear_row (w : World) (g o m c : Nat) (cur : Array Value) (ty : TypeId) (hg : w.heap[g]? = some (.cells cur 43 (0, 0))) (hm : 0 < m) (hfit : o + m * 3 ≤ cur.size) :
    ∃ zs : List Value, zs.length = m * 3 ∧ (Builtin.clear_ #[52] ty #[.slice (some ⟨g, o, none⟩) m c]).run Try.prog w = .ok (.tuple #[]) (w.setRow g (cur.toList.take o ++ zs ++ cur.toList.drop (o + m * 3)).toArray) := by
  obtain ⟨i0, hi, hz0, hz1, hz2⟩ := info_parts info_rep
  have hlen : (Builtin.zeroCells #[.int .i64 0, .int .i64 0, .int .u64 0] m).toList.length = m * 3 := by rw [Array.length_toList, size_zeroCells]; rfl
  refine ⟨_, hlen, ?_⟩
  have hone : ∀ u ∈ (Builtin.zeroCells #[.int .i64 0, .int .i64 0, .int .u64 0] m).toList, u.oneCell' = true := by
    intro u hu
    simp only [Builtin.zeroCells, Array.toList_map, List.mem_map] at hu
    obtain ⟨j, _, rfl⟩ := hu
    have : j % (#[Value.int .i64 0, Value.int .i64 0, Value.int .u64 0] : Array Value).size < 3 := Nat.mod_lt _ (by decide)
    generalize j % (#[Value.int .i64 0, Value.int .i64 0, Value.int .u64 0] : Array Value).size = q at this
    match q, this with
    | 0, _ => rfl
    | 1, _ => rfl
    | 2, _ => rfl
  have hst := run_storeCells_at Try.prog g o 43 _ 0 cur w hg (by rw [hlen]; omega) hone
  simp only [Nat.add_zero, hlen] at hst
  obtain ⟨m', rfl⟩ : ∃ m', m = m' + 1 := ⟨m - 1, by omega⟩
  simp [Builtin.clear_, run_underlying Try.underlying52, zeroValue, typeInfo, hi, hz0, Value.cells, hst]


/-- what stands behind a place, moved down upon it -/
theorem run_over (w : World) (g n cap i : Nat) (ad : Addr) (c : Nat) (L : List Value) (xs : List Value) (hg : w.heap[g]? = some (.cells L.toArray 43 (0, 0))) (hn : i < n) (hc : n ≤ cap) (hs : L.length = cap * 3)
    (hx : L.take (n * 3) = xs) (h1 : ∀ u ∈ xs, u.oneCell' = true) (had : i + 1 < n → ad = ⟨g, (i + 1) * 3, none⟩) :
    (Builtin.append_ #[52, 52] 52 #[.slice (some ⟨g, 0, none⟩) i cap, .slice (some ad) (n - (i + 1)) c]).run Try.prog w =
      .ok (.slice (some ⟨g, 0, none⟩) (n - 1) cap) (w.setRow g (xs.take (i * 3) ++ (xs.drop ((i + 1) * 3) ++ L.drop ((n - 1) * 3))).toArray) := by
  obtain ⟨i0, hi, hz0, hz1, hz2⟩ := info_parts info_rep
  have hxl : xs.length = n * 3 := by rw [← hx, List.length_take]; omega
  have := run_append_room (P := Try.prog) w 52 52 43 i0 Try.underlying52 hi g i cap L.toArray hg ad (n - (i + 1)) c (xs.drop ((i + 1) * 3)) (by rw [List.length_drop, hxl, hz1]; omega) ?_ (fun u hu => h1 u (List.mem_of_mem_drop hu)) (by omega) (by rw [List.length_drop, hxl, hz1, List.size_toArray]; omega)
  · rw [this]
    have e1 : i + (n - (i + 1)) = n - 1 := by omega
    have e2 : xs.take (i * 3) = L.take (i * 3) := by rw [← hx, List.take_take, Nat.min_eq_left (by omega)]
    rw [e1, e2, hz1]
    simp only [List.length_drop, hxl]
    rw [show i * 3 + (n * 3 - (i + 1) * 3) = (n - 1) * 3 by omega]
    try simp only [List.append_assoc]
  · intro j u hu
    rw [List.getElem?_drop] at hu
    have hj : (i + 1) * 3 + j < n * 3 := by have := (List.getElem?_eq_some_iff.1 hu).1; omega
    rw [had (by omega), Addr.add_mid, cell_of_row w g _ L.toArray 43 (0, 0) hg]
    rw [← hx, List.getElem?_take, if_pos hj] at hu
    simpa using hu

set_option maxHeartbeats 2000000 in
theorem delete_row (g n cap i : Nat) (l : List Rep) (L : List Value) (w : World) (hg : w.heap[g]? = some (.cells L.toArray 43 (0, 0))) (hL : L.length = cap * 3) (hl : l.length = n) (ht : L.take (n * 3) = rcells l) (hi : i < n) (hc : n ≤ cap) (hm : cap ≤ maxLen) :
    Calls Try.prog 31 #[.slice (some ⟨g, 0, none⟩) n cap, .int .i64 i, .int .i64 ((i : Int) + 1)] w fun e w' =>
      e = .returned (.slice (some ⟨g, 0, none⟩) (n - 1) cap) ∧ OwnR w' (.slice (some ⟨g, 0, none⟩) (n - 1) cap) (l.take i ++ l.drop (i + 1)) ∧ w.grownBy w' (some g) := by
  have cl := rcells_length l
  rw [hl] at cl
  have hm2 := hid hm
  unfold maxLen at hm
  obtain ⟨L2, eL2⟩ : ∃ L2, L2 = (rcells l).take (i * 3) ++ ((rcells l).drop ((i + 1) * 3) ++ L.drop ((n - 1) * 3)) := ⟨_, rfl⟩
  have e0 : (rcells l).take (i * 3) ++ (rcells l).drop ((i + 1) * 3) = rcells (l.take i ++ l.drop (i + 1)) := by rw [rcells_append, rcells_take, rcells_drop]
  have e1 : L2 = rcells (l.take i ++ l.drop (i + 1)) ++ L.drop ((n - 1) * 3) := by rw [eL2, ← e0, List.append_assoc]
  have gl : (rcells (l.take i ++ l.drop (i + 1))).length = (n - 1) * 3 := by rw [rcells_length, List.length_append, List.length_take, List.length_drop, hl]; omega
  have l2 : L2.length = cap * 3 := by rw [e1, List.length_append, gl, List.length_drop, hL]; omega
  have g2 : (w.drew.setRow g L2.toArray).heap[g]? = some (.cells L2.toArray 43 (0, 0)) := setRow_heap w.drew g L.toArray _ _ _ hg
  obtain ⟨zs, hzl, hcl⟩ := run_clear_row (w.drew.setRow g L2.toArray) g ((n - 1) * 3) 1 (cap - (n - 1)) L2.toArray 0 g2 (by omega) (by rw [List.size_toArray, l2]; omega)
  rw [setRow_setRow] at hcl
  obtain ⟨L3, eL3⟩ : ∃ L3, L3 = L2.take ((n - 1) * 3) ++ zs ++ L2.drop ((n - 1) * 3 + 1 * 3) := ⟨_, rfl⟩
  have hcl2 : (Builtin.clear_ #[52] 0 #[.slice (some ⟨g, (n - 1) * 3, none⟩) 1 (cap - (n - 1))]).run Try.prog (w.drew.setRow g L2.toArray) = .ok (.tuple #[]) (w.drew.setRow g L3.toArray) := by rw [hcl, eL3]
  have e3 : L3 = rcells (l.take i ++ l.drop (i + 1)) ++ (zs ++ L2.drop ((n - 1) * 3 + 1 * 3)) := by
    have : L2.take ((n - 1) * 3) = rcells (l.take i ++ l.drop (i + 1)) := by rw [e1, ← gl]; exact List.take_left
    rw [eL3, this, List.append_assoc]
  have LAST : Hid (OwnR (w.drew.setRow g L3.toArray) (.slice (some ⟨g, 0, none⟩) (n - 1) cap) (l.take i ++ l.drop (i + 1)) ∧ w.grownBy (w.drew.setRow g L3.toArray) (some g)) := by
    refine ⟨own_of_row (Y := zs ++ L2.drop ((n - 1) * 3 + 1 * 3)) (by rw [List.length_append, List.length_take, List.length_drop, hl]; omega) (by rw [← e3]; exact setRow_heap w.drew g L.toArray _ _ _ hg) (by omega) hm2.out ?_, grown_from (n := 1) (grown_set (w.drewN 1) g _)⟩
    rw [List.length_append, gl, List.length_append, hzl, List.length_drop, l2]
    omega
  have DOWN : ∀ (ad : Addr) (c : Nat), (i + 1 < n → ad = ⟨g, (i + 1) * 3, none⟩) → Hid ((Builtin.append_ #[52, 52] 52 #[.slice (some ⟨g, 0, none⟩) i cap, .slice (some ad) (n - (i + 1)) c]).run Try.prog w.drew = .ok (.slice (some ⟨g, 0, none⟩) (n - 1) cap) (w.drew.setRow g L2.toArray)) := by
    intro ad c h
    have := run_over w.drew g n cap i ad c L (rcells l) hg hi hc hL ht (rcells_one l) h
    rw [← eL2] at this
    exact this
  have CL := hid hcl2
  clear hcl hcl2 e3 eL3 hzl g2 l2 gl e1 e0 eL2 cl hg hL ht hl
  obtain ⟨m, em⟩ : ∃ m, n = m + 1 := ⟨n - 1, by omega⟩
  subst em
  simp only [Nat.add_sub_cancel] at *
  have i1 : (0 : Int) ≤ (i : Int) := by omega
  have i2 : (i : Int) + 1 ≤ (m : Int) + 1 := by omega
  have i3 : (m : Int) + 1 ≤ (cap : Int) := by omega
  have i4 : ((i : Int) == (i : Int) + 1) = false := by simp; omega
  have j1 : (0 : Int) ≤ (i : Int) + 1 := by omega
  have j2 : m + 1 - (i + 1) = m - i := by omega
  rw [j2] at DOWN
  clear j2
  have i5 : (0 : Int) ≤ (m : Int) + 1 := by omega
  have i6 : (i : Int) ≤ (cap : Int) := by omega
  have i7 : (i : Int) ≤ (i : Int) + 1 := by omega
  have i8 : ((i : Int) + 1).toNat = i + 1 := by omega
  have i9 : ((m : Int) + 1).toNat = m + 1 := by omega
  have k1 : m + 1 - m = 1 := by omega
  have k2 : ¬ cap = m := by omega
  have k3 : ¬ cap = i := by omega
  go_enter Try.func31, Try.ntmps31
  go_wp2
  by_cases hq : cap = i + 1
  case' pos => (subst hq; have hd := DOWN ⟨g, 0, none⟩ 0 (by omega); rw [show m - i = 0 by omega] at hd; have hq : True := trivial)
  case' neg => (have hd := DOWN ⟨g, (i + 1) * 3, none⟩ (cap - (i + 1)) (fun _ => rfl))
  all_goals clear DOWN
  all_goals go_region_law (refine step_append_run rfl (.tmp 22) (.tmp 25) 52 rfl _ _ _ _ (by simp [Act.eval, Act.put]) (by simp [Act.eval, Act.put]) hd.out ?_)
  all_goals clear hd hq
  all_goals have hc0 := CL.out
  all_goals (go_wp2; go_ret; exact ⟨rfl, LAST⟩)
end Go.Proofs.Yteokeieddapjhaa.Clr
