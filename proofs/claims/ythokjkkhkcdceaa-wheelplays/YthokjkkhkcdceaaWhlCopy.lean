/-
  The walk of Copy.
-/
import Derived.Test.YthokjkkhkcdceaaWhlPut
namespace Go.Proofs.Ythokjkkhkcdceaa
set_option linter.unusedVariables false
set_option maxRecDepth 100000
open Go.RowKit Go.Lib

/-- the timers of the first k spokes -/
def lowk (l : Sts) (k : Nat) : Sts := l.filter fun p => decide (p.2 % 64 < (k : Int))
theorem sp_lowk (l : Sts) (k j : Nat) : sp (lowk l k) j = if j < k then sp l j else [] := by
  unfold sp lowk
  rw [List.filter_filter]
  by_cases h : j < k
  · rw [if_pos h]
    congr 1; funext p
    by_cases e : p.2 % 64 = (j : Int)
    · simp [e]; omega
    · simp [e]
  · rw [if_neg h, List.filter_eq_nil_iff]
    intro p _
    simp
    omega
theorem lowk_all (l : Sts) : lowk l 64 = l := by
  unfold lowk
  refine List.filter_eq_self.2 fun p _ => ?_
  have := Int.emod_lt_of_pos p.2 (show (0 : Int) < 64 by decide)
  simp; omega

def newCellsT (t : Int) : Array Value := #[.int .i64 t, .slice none 0 0, .slice none 0 0, .slice none 0 0, .slice none 0 0, .slice none 0 0, .slice none 0 0, .slice none 0 0, .slice none 0 0, .slice none 0 0, .slice none 0 0, .slice none 0 0, .slice none 0 0, .slice none 0 0, .slice none 0 0, .slice none 0 0, .slice none 0 0, .slice none 0 0, .slice none 0 0, .slice none 0 0, .slice none 0 0, .slice none 0 0, .slice none 0 0, .slice none 0 0, .slice none 0 0, .slice none 0 0, .slice none 0 0, .slice none 0 0, .slice none 0 0, .slice none 0 0, .slice none 0 0, .slice none 0 0, .slice none 0 0, .slice none 0 0, .slice none 0 0, .slice none 0 0, .slice none 0 0, .slice none 0 0, .slice none 0 0, .slice none 0 0, .slice none 0 0, .slice none 0 0, .slice none 0 0, .slice none 0 0, .slice none 0 0, .slice none 0 0, .slice none 0 0, .slice none 0 0, .slice none 0 0, .slice none 0 0, .slice none 0 0, .slice none 0 0, .slice none 0 0, .slice none 0 0, .slice none 0 0, .slice none 0 0, .slice none 0 0, .slice none 0 0, .slice none 0 0, .slice none 0 0, .slice none 0 0, .slice none 0 0, .slice none 0 0, .slice none 0 0, .slice none 0 0]
theorem newCellsT_list (t : Int) : (newCellsT t).toList = .int .i64 t :: List.replicate 64 (.slice none 0 0) := rfl
theorem new_low (w : World) (t : Int) (l : Sts) : WhU (fun i => i < w.heap.size) (w.alloc (.cells (newCellsT t) 50 (0, 0))) w.heap.size t (fun _ => .slice none 0 0) (lowk l 0) := by
  refine ⟨⟨newCellsT t, heap_alloc_new w _, rfl, rfl, fun k hk => ⟨?_, ?_⟩⟩, by omega, fun k hk g hg => by simp [Value.ownBlock] at hg, fun j k hj hk hjk g hg => by simp [Value.ownBlock] at hg, fun i hi => by simp; omega⟩
  · rw [← Array.getElem?_toList, newCellsT_list, List.getElem?_cons_succ, List.getElem?_replicate, if_pos hk]
  · rw [sp_lowk, if_neg (by omega)]
    exact World.ownsRow_nil _ _ _ _

set_option maxHeartbeats 1000000 in
theorem copy_any (b : Nat) (t : Int) (v : Nat → Value) (l : Sts) (w : World) (hw : WhV w b t v l) (hl : Wl l) (ht : 0 ≤ t ∧ t ≤ 2199023255552) :
    Calls Try.prog 15 #[.pointer (some ⟨b, 0, none⟩)] w fun e w' => ∃ c, e = .returned (.pointer (some ⟨c, 0, none⟩)) ∧ WhK (fun i => i < w.heap.size) w' c t l ∧ Ext w w' := by
  have HW := hid hw
  have ct := hw.time
  have WL := hid hl
  have TT := hid ht
  have LL := hl.2.2.2
  have bl := hw.lt
  have NL : Hid (WhU (fun i => i < w.heap.size) (w.alloc (.cells #[.int .i64 t, .slice none 0 0, .slice none 0 0, .slice none 0 0, .slice none 0 0, .slice none 0 0, .slice none 0 0, .slice none 0 0, .slice none 0 0, .slice none 0 0, .slice none 0 0, .slice none 0 0, .slice none 0 0, .slice none 0 0, .slice none 0 0, .slice none 0 0, .slice none 0 0, .slice none 0 0, .slice none 0 0, .slice none 0 0, .slice none 0 0, .slice none 0 0, .slice none 0 0, .slice none 0 0, .slice none 0 0, .slice none 0 0, .slice none 0 0, .slice none 0 0, .slice none 0 0, .slice none 0 0, .slice none 0 0, .slice none 0 0, .slice none 0 0, .slice none 0 0, .slice none 0 0, .slice none 0 0, .slice none 0 0, .slice none 0 0, .slice none 0 0, .slice none 0 0, .slice none 0 0, .slice none 0 0, .slice none 0 0, .slice none 0 0, .slice none 0 0, .slice none 0 0, .slice none 0 0, .slice none 0 0, .slice none 0 0, .slice none 0 0, .slice none 0 0, .slice none 0 0, .slice none 0 0, .slice none 0 0, .slice none 0 0, .slice none 0 0, .slice none 0 0, .slice none 0 0, .slice none 0 0, .slice none 0 0, .slice none 0 0, .slice none 0 0, .slice none 0 0, .slice none 0 0, .slice none 0 0] 50 (0, 0))) w.heap.size t (fun _ => .slice none 0 0) (lowk l 0)) := new_low w t l
  clear hw hl ht
  go_enter Try.func15, Try.ntmps15
  go_wp2_with fail
  go_loopw [4, 11] (fun _ i wr => ∃ k : Nat, k ≤ 64 ∧ i = .int .i64 (k : Int) ∧ Hid (Ext w wr) ∧ Hid (∃ v', WhU (fun i => i < w.heap.size) wr w.heap.size t v' (lowk l k) ∧ ∀ j, k ≤ j → v' j = .slice none 0 0)) (fun _ i _ => (64 - intOf i).toNat)
  case atStart => exact ⟨0, by omega, rfl, (Ext.refl w).alloc _, ⟨_, NL.out, fun j _ => rfl⟩⟩
  case round =>
    obtain ⟨k, hk, rfl, X, U⟩ := hrel
    by_cases h : k < 64
    · obtain ⟨v', u', n'⟩ := U.out
      have c := (HW.out.ext X.out).cell h
      have C := clone_any wr.drew (v k) (sp l k) (((HW.out.ext X.out).own h).ext ((Ext.refl wr).drewN 1)) (Nat.le_trans (sp_le l k) (by omega))
      obtain ⟨ao, cp, e1, k1, k2, _⟩ := (HW.out.own h).view
      rw [e1] at c C
      have CC := hid C
      have UU := hid u'
      have NN := hid n'
      have i3 : (k : Int) < 64 := by omega
      have i4 : (0 : Int) ≤ (k : Int) := by omega
      unfold maxLen at k2
      clear C u' n' e1 U NL
      generalize (sp l k).length = n at c CC k1
      go_wp2_with fail
      refine wp_region_held_drew (S := fun _ => True) (by kernel_rfl) trivial (fun hHeld => ?_)
      refine takeE (v := ?_) 0 14 rfl rfl (by kernel_rfl) (by kernel_rfl) (by kernel_rfl) (fun _ _ _ h => h) (Or.inl ⟨by rfl, fun V hV => ?_⟩) hHeld ?_
      rotate_left
      · (go_simp; try with_reducible rfl)
      simp only [Act.put, List.setIfInBounds_toArray, List.set_cons_zero, List.set_cons_succ]
      refine takeE (v := ?_) 1 15 rfl rfl (by kernel_rfl) (by kernel_rfl) (by kernel_rfl) (fun _ _ _ h => h) (Or.inl ⟨by rfl, fun V hV => ?_⟩) hHeld ?_
      rotate_left
      · (go_simp; try with_reducible rfl)
      simp only [Act.put, List.setIfInBounds_toArray, List.set_cons_zero, List.set_cons_succ]
      refine takeE (v := ?_) 2 16 rfl rfl (by kernel_rfl) (by kernel_rfl) (by kernel_rfl) (fun _ _ _ h => h) (Or.inl ⟨by rfl, fun V hV => ?_⟩) hHeld ?_
      rotate_left
      · (go_simp; try with_reducible rfl)
      simp only [Act.put, List.setIfInBounds_toArray, List.set_cons_zero, List.set_cons_succ]
      refine takeE (v := ?_) 3 17 rfl rfl (by kernel_rfl) (by kernel_rfl) (by kernel_rfl) (fun _ _ _ h => h) (Or.inl ⟨by rfl, fun V hV => ?_⟩) hHeld ?_
      rotate_left
      · (go_simp; try with_reducible rfl)
      simp only [Act.put, List.setIfInBounds_toArray, List.set_cons_zero, List.set_cons_succ]
      refine takeE (v := ?_) 4 18 rfl rfl (by kernel_rfl) (by kernel_rfl) (by kernel_rfl) (fun _ _ _ h => h) (Or.inl ⟨by rfl, fun V hV => ?_⟩) hHeld ?_
      rotate_left
      · (go_simp; try with_reducible rfl)
      simp only [Act.put, List.setIfInBounds_toArray, List.set_cons_zero, List.set_cons_succ]
      refine takeE (v := ?_) 5 19 rfl rfl (by kernel_rfl) (by kernel_rfl) (by kernel_rfl) (fun _ _ _ h => h) (Or.inl ⟨by rfl, fun V hV => ?_⟩) hHeld ?_
      rotate_left
      · (go_simp; try with_reducible rfl)
      simp only [Act.put, List.setIfInBounds_toArray, List.set_cons_zero, List.set_cons_succ]
      refine takeE (v := ?_) 6 20 rfl rfl (by kernel_rfl) (by kernel_rfl) (by kernel_rfl) (fun _ _ _ h => h) (Or.inl ⟨by rfl, fun V hV => ?_⟩) hHeld ?_
      rotate_left
      · (go_simp; try with_reducible rfl)
      simp only [Act.put, List.setIfInBounds_toArray, List.set_cons_zero, List.set_cons_succ]
      refine takeE (v := ?_) 9 23 rfl rfl (by kernel_rfl) (by kernel_rfl) (by kernel_rfl) (fun _ _ _ h => h) (Or.inl ⟨by rfl, fun V hV => ?_⟩) hHeld ?_
      rotate_left
      · (go_simp; try with_reducible rfl)
      simp only [Act.put, List.setIfInBounds_toArray, List.set_cons_zero, List.set_cons_succ]
      refine takeE (v := ?_) 10 24 rfl rfl (by kernel_rfl) (by kernel_rfl) (by kernel_rfl) (fun _ _ _ h => h) (Or.inl ⟨by rfl, fun V hV => ?_⟩) hHeld ?_
      rotate_left
      · (go_simp; try with_reducible rfl)
      simp only [Act.put, List.setIfInBounds_toArray, List.set_cons_zero, List.set_cons_succ]
      refine knownE 7 21 rfl rfl (by kernel_rfl) (by rfl) (w' := wr.drew) (v := .slice ao n cp) (by go_simp) trivial ?_
      simp only [Act.put, List.setIfInBounds_toArray, List.set_cons_zero, List.set_cons_succ]
      refine callE 8 22 rfl rfl (by kernel_rfl) (by rfl) (by go_simp; first | exact ⟨rfl, rfl⟩ | rfl) ?_
      refine CC.out.mono ?_
      rintro e W2 ⟨s', rfl, o, x, hs⟩
      have hT : Turned wr.drew W2 (v' k) s' (sp l k) := by
        refine ⟨o, ⟨Below.os x, Below.tape x, Below.output x, Below.size x, fun i hi _ => Below.block x i hi⟩, ?_⟩
        cases e : s'.ownBlock with
        | none => left; rw [NN.out k (Nat.le_refl _)]; rfl
        | some g => exact .inr ⟨g, rfl, hs g e⟩
      obtain ⟨U3, K3, c3, f3⟩ := (UU.out.ext ((Ext.refl wr).drewN 1)).put h hT (l' := lowk l (k + 1)) (by rw [sp_lowk, if_pos (by omega)]) (fun j _ hj => by
        rw [sp_lowk, sp_lowk]
        by_cases q : j < k
        · rw [if_pos (by omega), if_pos q]
        · rw [if_neg (by omega), if_neg q])
      have U4 := hid U3
      have XX : Hid (Ext w (W2.setCell ⟨w.heap.size, 1 + k, none⟩ s')) := ((X.out.drewN 1).trans x).setCell (p := ⟨w.heap.size, 1 + k, none⟩) (by simp) s'
      obtain ⟨a1, m1, c1, e1⟩ := owns_slice o
      subst e1
      refine ⟨_, rfl, trivial, ?_⟩
      clear hT U3 K3 CC o x hs c
      simp only [Act.put, List.setIfInBounds_toArray, List.set_cons_zero, List.set_cons_succ]
      refine takeE (v := ?_) 11 25 rfl rfl (by kernel_rfl) (by kernel_rfl) (by kernel_rfl) (fun _ _ _ h => h) (Or.inl ⟨by rfl, fun V hV => ?_⟩) hHeld ?_
      rotate_left
      · (go_simp; try with_reducible rfl)
      simp only [Act.put, List.setIfInBounds_toArray, List.set_cons_zero, List.set_cons_succ]
      refine storeE 12 rfl (by kernel_rfl) (by rfl) (w' := W2.setCell ⟨w.heap.size, 1 + k, none⟩ (.slice a1 m1 c1)) (by go_simp; try with_reducible rfl) trivial ?_
      simp only [Act.put]
      refine wpAnyH_done (by kernel_rfl) ?_ _
      clear c3 f3
      have NX : Hid (∀ j, k + 1 ≤ j → (fun j => if j = k then (.slice a1 m1 c1) else v' j) j = .slice none 0 0) := fun j hj => by
        show (if j = k then (.slice a1 m1 c1) else v' j) = _
        rw [if_neg (by omega)]
        exact NN.out j (by omega)
      generalize W2.setCell ⟨w.heap.size, 1 + k, none⟩ (.slice a1 m1 c1) = V5 at *
      go_wp2_with fail
      go_roundw
      case rel => exact ⟨k + 1, by omega, by go_num, XX, ⟨_, U4.out, NX.out⟩⟩
      case measure => simp [intOf]; omega
    · obtain rfl : k = 64 := by omega
      go_wp2_with fail
      go_ret
      obtain ⟨v', u', n'⟩ := U.out
      rw [lowk_all] at u'
      exact ⟨_, rfl, ⟨WL.out, TT.out, v', u'⟩, X.out⟩
end Go.Proofs.Ythokjkkhkcdceaa
