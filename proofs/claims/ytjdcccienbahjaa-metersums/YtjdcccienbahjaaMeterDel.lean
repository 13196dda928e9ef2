/-
  A walk of slices.Delete at the front of a meter's row.
-/
import Derived.Test.YtjdcccienbahjaaMeterRow
import Derived.Deep.RegionLaw
namespace Go.Proofs.Ytjdcccienbahjaa
set_option linter.unusedVariables false
open Go.RowKit

theorem grown_self (w : World) (row : Option Nat) : w.grownBy w row := ⟨rfl, rfl, rfl, Nat.le_refl _, fun _ _ _ => rfl⟩
theorem grown_setRow (w : World) (g : Nat) (cs : Array Value) (n : Nat) : w.grownBy ((w.drewN n).setRow g cs) (some g) :=
  ⟨rfl, rfl, rfl, by simp, fun k _ hk => setRow_other (w.drewN n) g k cs (fun e => hk (by rw [e]))⟩

/-- what is left in the row -/
theorem own_left {w : World} {base g cap n old : Nat} {xs ys : List Value} (hb : base ≤ g) (hc : n ≤ cap) (hm : cap ≤ maxLen) (hxl : xs.length = n * 2) (ho : old ≤ n) (hy : ys.length + (n - old) * 2 = cap * 2)
    (hg : w.heap[g]? = some (.cells (xs.drop (old * 2) ++ ys).toArray 51 (0, 0))) : w.ownsRow base 51 2 (.slice (some ⟨g, 0, none⟩) (n - old) cap) (n - old) (xs.drop (old * 2)) := by
  have hl : (xs.drop (old * 2)).length = (n - old) * 2 := by rw [List.length_drop, hxl]; omega
  refine ⟨hl, .inr ⟨g, cap, _, rfl, hb, hg, by omega, hm, ?_, ?_⟩⟩
  · simp only [List.size_toArray, List.length_append, hl]; omega
  · rw [← hl]; exact List.take_left

/-- an append whose run is known, as one step of a region that draws -/
theorem step_append_run {P : Program} {ops : Array Oper} {o : Oper} {a : Act} {w : World} {K : Act → World → Prop} {Q : Exit → Act → World → Prop} {E : Prop} (hg : o.guard = none) (s x : Operand) (t : TypeId)
    (hop : o.op = Op.call { callee := Callee.builtin Builtin.append, args := #[s, x], argTypes := #[t, t] }) (u v r : Value) (w' : World) (hs : a.eval s = u) (hx : a.eval x = v)
    (hrun : (Builtin.append_ #[t, t] o.type #[u, v]).run P w = .ok r w') (hK : K (a.put o.dst r) w') :
    if Region.wanted o (yielded ops a.tmps) = true then Oper.wp P o a w K Q else E := by
  have hw : Region.wanted o (yielded ops a.tmps) = true := by simp [Region.wanted, hg]
  rw [if_pos hw]
  unfold Oper.wp
  simp [execOp, hop, resolve, invoke, builtin, hs, hx, hrun, Result.andThen]
  exact hK

set_option maxHeartbeats 2000000 in
theorem delete_row (base g n k cap old : Nat) (cur : Array Value) (xs : List Value) (w : World) (hb : base ≤ g) (hg : w.heap[g]? = some (.cells cur 51 (0, 0))) (h0 : 0 < old) (hn : old ≤ n) (hk : n - old = k) (hc : n ≤ cap) (hm : cap ≤ maxLen) (hs : cur.size = cap * 2)
    (hx : cur.toList.take (n * 2) = xs) (h1 : ∀ u ∈ xs, u.oneCell' = true) :
    Calls Try.prog 28 #[.slice (some ⟨g, 0, none⟩) n cap, .int .i64 0, .int .i64 old] w fun e w' =>
      e = .returned (.slice (some ⟨g, 0, none⟩) k cap) ∧ w'.ownsRow base 51 2 (.slice (some ⟨g, 0, none⟩) k cap) k (xs.drop (old * 2)) ∧ w.grownBy w' (some g) := by
  have hxl : xs.length = n * 2 := by rw [← hx, List.length_take, Array.length_toList]; omega
  have i1 : (0 : Int) ≤ (old : Int) := by omega
  have i2 : (old : Int) ≤ (n : Int) := by omega
  have i3 : (n : Int) ≤ (cap : Int) := by omega
  have i4 : ((0 : Int) == (old : Int)) = false := by simp; omega
  have i5 : (0 : Int) ≤ (n : Int) := by omega
  have i6 : (0 : Int) ≤ (k : Int) := by omega
  have i7 : (k : Int) ≤ (n : Int) := by omega
  have hk2 : n - k = old := by omega
  have hk3 : ¬ cap = k := by omega
  have hm2 := hid hm
  unfold maxLen at hm
  obtain ⟨cu2, hcu2⟩ : ∃ cu2, cu2 = (xs.drop (old * 2) ++ cur.toList.drop (k * 2)).toArray := ⟨_, rfl⟩
  have hcs : cu2.size = cap * 2 := by rw [hcu2]; simp only [List.size_toArray, List.length_append, List.length_drop, Array.length_toList, hxl, hs]; omega
  have hg2 : (w.drew.setRow g cu2).heap[g]? = some (.cells cu2 51 (0, 0)) := setRow_heap w.drew g cur _ _ _ hg
  obtain ⟨zs, hzl, hcl⟩ := run_clear_row (w.drew.setRow g cu2) g (k * 2) old (cap - k) cu2 0 hg2 h0 (by omega)
  rw [setRow_setRow] at hcl
  obtain ⟨cu3, hcu3⟩ : ∃ cu3, cu3 = (cu2.toList.take (k * 2) ++ zs ++ cu2.toList.drop (k * 2 + old * 2)).toArray := ⟨_, rfl⟩
  rw [← hcu3] at hcl
  have hlast : (w.drew.setRow g cu3).ownsRow base 51 2 (.slice (some ⟨g, 0, none⟩) k cap) k (xs.drop (old * 2)) := by
    have e1 : cu2.toList.take (k * 2) = xs.drop (old * 2) := by
      rw [hcu2, show k * 2 = (xs.drop (old * 2)).length by rw [List.length_drop, hxl]; omega]
      exact List.take_left
    subst hk
    refine own_left (ys := zs ++ cu2.toList.drop ((n - old) * 2 + old * 2)) hb hc hm2 hxl hn ?_ ?_
    · rw [List.length_append, hzl, List.length_drop, Array.length_toList, hcs]; omega
    · rw [setRow_heap w.drew g cur _ _ _ hg, hcu3, e1, List.append_assoc]
  have LAST := hid hlast
  have CU := hid hcu2
  have DOWN : ∀ (ad : Addr) (c : Nat), (old < n → ad = ⟨g, old * 2, none⟩) → Hid ((Builtin.append_ #[47, 47] 47 #[.slice (some ⟨g, 0, none⟩) 0 cap, .slice (some ad) k c]).run Try.prog w.drew = .ok (.slice (some ⟨g, 0, none⟩) k cap) (w.drew.setRow g cu2)) := by
    intro ad c h
    have := run_down w.drew g n cap old ad c cur 47 xs hg hn hc hs hx h1 h
    rw [hk, ← hcu2] at this
    exact this
  clear hlast hcu3 hcu2 h1 hx hxl hs hg hcs
  go_enter Try.func28, Try.ntmps28
  go_wp2
  by_cases hq : cap = old
  case' pos => (subst hq; have hd := DOWN ⟨g, 0, none⟩ 0 (by omega); have hq : True := trivial)
  case' neg => have hd := DOWN ⟨g, old * 2, none⟩ (cap - old) (fun _ => rfl)
  all_goals clear DOWN
  all_goals go_region_law (refine step_append_run rfl (.tmp 22) (.tmp 25) 47 rfl _ _ _ _ (by simp [Act.eval, Act.put]) (by simp [Act.eval, Act.put]) hd.out ?_)
  all_goals clear hd hq
  all_goals (go_wp2; go_ret; exact ⟨rfl, LAST, grown_setRow w g _ 1⟩)

/-- the front of a meter's row deleted -/
theorem delete_any (base : Nat) (v : Value) (l : Ams) (old : Nat) (w : World) (hown : w.ownsRow base 51 2 v l.length (cells2 l)) (ho : old ≤ l.length) :
    Calls Try.prog 28 #[v, .int .i64 0, .int .i64 old] w fun e w' =>
      ∃ v', e = .returned v' ∧ w'.ownsRow base 51 2 v' (l.drop old).length (cells2 (l.drop old)) ∧ w.grownBy w' v.ownBlock ∧ v'.ownBlock = v.ownBlock := by
  rcases Nat.eq_zero_or_pos old with rfl | hpos
  · have hown0 := hown
    rcases hown.2 with ⟨rfl, hn⟩ | ⟨g, cap, cur, rfl, hb, hg, hnc, hcm, hcs, htake⟩
    · have R := hid hown0
      clear hown hown0 hn
      go_enter Try.func28, Try.ntmps28
      go_wp2
      go_ret
      exact ⟨_, rfl, R, grown_self _ _, rfl⟩
    · have R := hid hown0
      have i3 : (l.length : Int) ≤ (cap : Int) := by omega
      have i5 : (0 : Int) ≤ (l.length : Int) := by omega
      unfold maxLen at hcm
      clear hown hown0 hg hcs htake
      go_enter Try.func28, Try.ntmps28
      go_wp2
      go_ret
      exact ⟨_, rfl, R, grown_self _ _, rfl⟩
  · rcases hown.2 with ⟨rfl, hn⟩ | ⟨g, cap, cur, rfl, hb, hg, hnc, hcm, hcs, htake⟩
    · omega
    · refine (delete_row base g l.length (l.length - old) cap old cur (cells2 l) w hb hg hpos ho rfl hnc hcm hcs htake (cells2_one l)).mono ?_
      rintro e w' ⟨rfl, h1, h2⟩
      rw [← cells2_drop] at h1
      exact ⟨_, rfl, by rw [List.length_drop]; exact h1, h2, rfl⟩
end Go.Proofs.Ytjdcccienbahjaa
