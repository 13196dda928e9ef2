/-
  All's numbers, one by one: the walk of the closure that All tells, for every loop body that keeps all but two boxes.
-/
import Derived.RangeFuncNested
import Derived.RangeFuncBound
import Derived.RangeFuncCalls
import Derived.RangeFuncLeaves
import Derived.Shelf.Abstract
import Derived.Shelf.RegionOpen
import Derived.WalkKit
import Derived.OwnWalkIn
import Derived.TacticsInMore
import Derived.LoopNIn
import Derived.LoopIn
import Derived.Test.YtbolhkafdgiggaaRngMem
namespace Go.Proofs.Ytbolhkafdgiggaa
set_option linter.unusedVariables false
set_option maxRecDepth 100000
open Go.RowKit Go.Lib Go.Shelf
attribute [local go_sem] Oper.semAt_some

/-- the first j numbers of a stretch -/
def firsts (p : Int × Int) (j : Nat) : List Int := (List.range j).map fun i : Nat => p.1 + (i : Int)
/-- all numbers of the stretches -/
def nums : Sts → List Int
  | [] => []
  | p :: l => firsts p (p.2 - p.1).toNat ++ nums l
theorem firsts_succ (p : Int × Int) (j : Nat) : firsts p (j + 1) = firsts p j ++ [p.1 + (j : Int)] := by
  unfold firsts
  rw [List.range_succ, List.map_append]
  rfl
theorem firsts_length (p : Int × Int) (j : Nat) : (firsts p j).length = j := by simp [firsts]
theorem nums_append (a b : Sts) : nums (a ++ b) = nums a ++ nums b := by
  induction a with
  | nil => rfl
  | cons p l ih => simp only [List.cons_append, nums, ih, List.append_assoc]
theorem firsts_prefix (p : Int × Int) (j k : Nat) (h : j ≤ k) : firsts p j <+: firsts p k := by
  unfold firsts
  have : (List.range j).map (fun i : Nat => p.1 + (i : Int)) = ((List.range k).map (fun i : Nat => p.1 + (i : Int))).take j := by
    rw [← List.map_take, List.take_range, Nat.min_eq_left h]
  rw [this]
  exact List.take_prefix _ _
/-- what has come is the begin of all -/
theorem nums_prefix (l : Sts) (k j : Nat) (hk : k < l.length) (hj : j ≤ ((l.getD k (0, 0)).2 - (l.getD k (0, 0)).1).toNat) : nums (l.take k) ++ firsts (l.getD k (0, 0)) j <+: nums l := by
  have e : nums l = nums (l.take k) ++ (firsts (l.getD k (0, 0)) ((l.getD k (0, 0)).2 - (l.getD k (0, 0)).1).toNat ++ nums (l.drop (k + 1))) := by
    conv => lhs; rw [← List.take_append_drop (k + 1) l, nums_append, take_more l k hk, nums_append]
    simp only [nums, List.append_nil, List.append_assoc]
  rw [e, List.prefix_append_right_inj]
  exact (firsts_prefix _ _ _ hj).trans (List.prefix_append _ _)
theorem nums_take (l : Sts) (k : Nat) (hk : k < l.length) : nums (l.take (k + 1)) = nums (l.take k) ++ firsts (l.getD k (0, 0)) ((l.getD k (0, 0)).2 - (l.getD k (0, 0)).1).toNat := by
  rw [take_more l k hk, nums_append]
  simp only [nums, List.append_nil]

/-- cells stay, but for two blocks -/
def Spare (b1 b2 : Nat) (W W' : World) : Prop := W.heap.size ≤ W'.heap.size ∧ ∀ (i : Nat) (c : Array Value) (t : TypeId) (fr : Nat × Nat), i ≠ b1 → i ≠ b2 → W.heap[i]? = some (.cells c t fr) → W'.heap[i]? = some (.cells c t fr)
theorem Spare.refl (b1 b2 : Nat) (W : World) : Spare b1 b2 W W := ⟨Nat.le_refl _, fun _ _ _ _ _ _ h => h⟩
theorem Spare.trans {b1 b2 : Nat} {A B C : World} (h : Spare b1 b2 A B) (k : Spare b1 b2 B C) : Spare b1 b2 A C := ⟨Nat.le_trans h.1 k.1, fun i c t fr h1 h2 hi => k.2 i c t fr h1 h2 (h.2 i c t fr h1 h2 hi)⟩
theorem Spare.put {b1 b2 : Nat} (W : World) (l : Nat) (o o' : Obj) (h : W.heap[l]? = some o) (ho : o.isCells = false) : Spare b1 b2 W (W.putObj l o') := by
  refine ⟨by simp, fun i c t fr _ _ hi => ?_⟩
  rw [World.putObj_heap_other (fun e => ?_), hi]
  subst e
  rw [h] at hi
  cases hi
  simp [Obj.isCells] at ho
theorem Spare.own {b1 b2 : Nat} {W W' : World} (h : Spare b1 b2 W W') {v : Value} {l : Sts} (o : OwnG W v l) (hb : ∀ k, v.ownBlock = some k → k ≠ b1 ∧ k ≠ b2) : OwnG W' v l := by
  refine ⟨o.1, ?_⟩
  rcases o.2 with hn | ⟨g, cap, cur, rfl, hb0, hgg, rest⟩
  · exact .inl hn
  · exact .inr ⟨g, cap, cur, rfl, hb0, h.2 g _ _ _ (hb g rfl).1 (hb g rfl).2 hgg, rest⟩

set_option maxHeartbeats 4000000 in
/-- the closure, for every loop body that keeps all cells but two blocks -/
theorem all1_in (F : Fence) (n : Nat) (hF : F.fn 31) (hro : F.round = none) (hn : 1 ≤ n) (L Bs b b1 b2 : Nat) (v : Value) (l : Sts) (hg : Good l) (J Jx : List Int → World → Prop)
    (hY : ∀ pre x W, J pre W → pre.length < (nums l).length → YieldAt F (n - 1) Try.prog L #[.int .i64 x] W fun e W' =>
      (e = .returned (.bool true) ∧ J (pre ++ [x]) W' ∧ Spare b1 b2 W W') ∨ (e = .returned (.bool false) ∧ Jx (pre ++ [x]) W'))
    (W : World) (hA : ∀ pre W1 o, J pre W1 → J pre (W1.alloc o)) (hBs : W.cell? ⟨Bs, 0, none⟩ = some (.pointer (some ⟨b, 0, none⟩))) (hs : SetV W b v l) (hv : ∀ k, v.ownBlock = some k → k ≠ b1 ∧ k ≠ b2) (h1 : b1 < W.heap.size) (h2 : b2 < W.heap.size) (h0 : J [] W) :
    CallsIn F n Try.prog 31 #[.func (.yield L) #[] #[], .pointer (some ⟨Bs, 0, none⟩)] W fun e W' => (∃ v, e = .returned v) ∧ ((∃ ys, ys = nums l ∧ J ys W') ∨ (∃ pre, pre <+: nums l ∧ Jx pre W')) := by
  have c := hs.cell
  obtain ⟨ao, cp, ev, q1, q2, _⟩ := hs.2.view
  have LN := hg.len
  have O0 := hid hs.2
  have HV := hid hv
  have HG := hid hg
  have HA := hid hA
  have HY := hid hY
  have H0 := hid h0
  subst ev
  unfold maxLen at q2
  clear hs hv hg hY hA h0
  refine callsIn_of_wp Try.func31 rfl hF ?_ hro
  simp only [Try.ntmps31, List.size_toArray, List.length_cons, List.length_nil, Nat.reduceAdd, Nat.reduceSub, Array.replicate_succ, Array.replicate_zero, List.push_toArray, List.append_toArray, List.nil_append, List.cons_append]
  gi_wp2
  gi_loopw [11] (fun i wr => ∃ k : Nat, k ≤ l.length ∧ i = .int .i64 (k : Int) ∧ J (nums (l.take k)) wr ∧ OwnG wr (.slice ao l.length cp) l ∧ b1 < wr.heap.size ∧ b2 < wr.heap.size) (fun i _ => (l.length - intOf i).toNat)
  case atStart => exact ⟨0, Nat.zero_le _, rfl, H0.out, O0.out, h1, h2⟩
  case round =>
    obtain ⟨w8, e8⟩ : ∃ w8, w8 = wr := ⟨_, rfl⟩
    subst e8
    obtain ⟨k, hk, rfl, hJ, own, z1, z2⟩ := hrel
    by_cases t : k < l.length
    · obtain ⟨ao', cp', ev', _, _, vw⟩ := own.view
      cases ev'
      obtain ⟨g, rfl, x1, x2⟩ := vw k t
      have P2 := HG.out.1 _ (at_mem t)
      have NP := hid (nums_prefix l k)
      have NT := hid (nums_take l k t)
      have i1 : (k : Int) < (l.length : Int) := by omega
      have i2 : (0 : Int) ≤ (k : Int) := by omega
      have OW := hid own
      have HJ := hid hJ
      have HV2 := hid HV.out
      clear own hJ vw
      obtain ⟨p, ep⟩ : ∃ p, p = l.getD k (0, 0) := ⟨_, rfl⟩
      rw [← ep] at x1 x2 P2 NP NT
      have NP := hid (fun j => NP.out j t)
      clear ep
      obtain ⟨p1, p2⟩ := p
      simp only at x1 x2 P2 NP NT
      have B2 : w8.heap.size < (w8.alloc (.cells #[.int .i64 p1, .int .i64 p2] 33 (0, 0))).heap.size := by simp
      have S0 : Hid (J (nums (l.take k) ++ firsts (p1, p2) 0) (w8.alloc (.cells #[.int .i64 p1, .int .i64 p2] 33 (0, 0))) ∧ OwnG (w8.alloc (.cells #[.int .i64 p1, .int .i64 p2] 33 (0, 0))) (.slice (some ⟨g, 0, none⟩) l.length cp) l ∧ (w8.alloc (.cells #[.int .i64 p1, .int .i64 p2] 33 (0, 0))).heap[w8.heap.size]? = some (.cells #[.int .i64 p1, .int .i64 p2] 33 (0, 0))) := by
        refine ⟨?_, OW.out.ext ((Ext.refl w8).alloc _), heap_alloc_new w8 _⟩
        rw [show firsts (p1, p2) 0 = [] from rfl, List.append_nil]
        exact HA.out _ _ _ HJ.out
      clear HJ OW
      gi_wp2
      gi_loopw [5] (fun i wi => ∃ j : Nat, (j : Int) ≤ p2 - p1 ∧ i = .int .i64 (p1 + (j : Int)) ∧ J (nums (l.take k) ++ firsts (p1, p2) j) wi ∧ OwnG wi (.slice (some ⟨g, 0, none⟩) l.length cp) l ∧ wi.heap[w8.heap.size]? = some (.cells #[.int .i64 p1, .int .i64 p2] 33 (0, 0))) (fun i _ => (p2 - intOf i).toNat)
      case atStart => exact ⟨0, by omega, by simp, S0.1, S0.2.1, S0.2.2⟩
      case round =>
        obtain ⟨j, hj, rfl, hJ, own, rb⟩ := hrel
        clear S0 x1 x2
        have y1 : wr.cell? ⟨w8.heap.size, 1, none⟩ = some (.int .i64 p2) := by rw [cell_of_row wr _ 1 _ _ _ rb]; rfl
        have y0 : wr.cell? ⟨w8.heap.size, 0, none⟩ = some (.int .i64 p1) := by rw [cell_of_row wr _ 0 _ _ _ rb]; rfl
        have OW := hid own
        have RB := hid rb
        by_cases t2 : (j : Int) < p2 - p1
        · have PX := hid (NP.out (j + 1) (by omega))
          rw [firsts_succ, ← List.append_assoc] at PX
          have PL : (nums (l.take k) ++ firsts (p1, p2) j).length < (nums l).length := by
            have := PX.out.length_le
            rw [List.length_append] at this
            simp only [List.length_cons, List.length_nil] at this
            omega
          obtain ⟨fn, tmps, assign, body, hy, hR⟩ := HY.out _ (p1 + (j : Int)) wr hJ PL
          have FS : Hid (nums (l.take k) ++ firsts (p1, p2) (j + 1) = nums (l.take k) ++ firsts (p1, p2) j ++ [p1 + (j : Int)]) := by show _ = _; rw [firsts_succ, List.append_assoc]
          have t3 : p1 + (j : Int) < p2 := by omega
          clear hJ own rb PL
          generalize nums (l.take k) ++ firsts (p1, p2) j = pre at *
          gi_wp2
          refine hR.mono ?_
          rintro e W3 (⟨rfl, hJ3, hk3⟩ | ⟨rfl, hJx3⟩)
          · have R3 : Hid (J (nums (l.take k) ++ firsts (p1, p2) (j + 1)) W3 ∧ OwnG W3 (.slice (some ⟨g, 0, none⟩) l.length cp) l ∧ W3.heap[w8.heap.size]? = some (.cells #[.int .i64 p1, .int .i64 p2] 33 (0, 0))) :=
              ⟨by rw [FS.out]; exact hJ3, hk3.own OW.out HV.out, hk3.2 _ _ _ _ (by omega) (by omega) RB.out⟩
            clear hJ3 hk3 hR hy
            gi_wp2
            go_roundw
            case rel => exact ⟨j + 1, by omega, by go_num, R3.1, R3.2.1, R3.2.2⟩
            case measure => simp [intOf]; omega
          · have R3 : Hid (∃ pre, pre <+: nums l ∧ Jx pre W3) := ⟨_, PX.out, hJx3⟩
            clear hJx3 hR hy
            gi_wp2
            refine bodyPost_ret (results_none rfl _ _ _) rfl ?_
            exact ⟨⟨_, rfl⟩, .inr R3.out⟩
        · have ej : j = (p2 - p1).toNat := by omega
          subst ej
          rw [← NT.out] at hJ
          have WS : Hid (J (nums (l.take (k + 1))) wr ∧ OwnG wr (.slice (some ⟨g, 0, none⟩) l.length cp) l ∧ b1 < wr.heap.size ∧ b2 < wr.heap.size) := by
            have := lt_of_row rb
            exact ⟨hJ, own, by omega, by omega⟩
          have t3 : ¬ (p1 + ((p2 - p1).toNat : Int) < p2) := by omega
          clear hJ own rb
          gi_wp2
          go_roundw
          case rel => exact ⟨k + 1, by omega, by go_num, WS.1, WS.2.1, WS.2.2.1, WS.2.2.2⟩
          case measure => simp [intOf]; omega
    · obtain rfl : k = l.length := by omega
      rw [List.take_length] at hJ
      have R := hid hJ
      clear hJ own
      gi_wp2
      go_end0
      exact ⟨⟨_, rfl⟩, .inl ⟨_, rfl, R.out⟩⟩
end Go.Proofs.Ytbolhkafdgiggaa
