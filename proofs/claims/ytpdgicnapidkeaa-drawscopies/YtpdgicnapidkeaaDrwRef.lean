/-
  Walks of the reference's All, and of the fixed answer that each law ends with.
-/
import Derived.Test.YtpdgicnapidkeaaDrwNew
namespace Go.Proofs.Ytpdgicnapidkeaa
set_option linter.unusedVariables false
set_option maxRecDepth 100000
open Go.RowKit Go.Lib

/-- v is a slice of the numbers l of 32 bits, as they lie in w -/
def IsU32s (w : World) (v : Value) (l : List Int) : Prop := RowK (fun _ => True) w v 1 (ucells l) ∧ Plain v ∧ Room l

theorem NewU.alloc {w0 w : World} {v : Value} {l : List Int} (h : NewU w0 w v l) (o : Obj) : NewU w0 (w.alloc o) v l := ⟨h.1.alloc o, h.2.alloc o⟩
theorem NewU.step {w0 w : World} {v : Value} {l : List Int} (h : NewU w0 w v l) (x : Int) (hl : l.length ≤ 90000) :
    ∃ v' w', (Builtin.append_ #[22, 22] 22 #[v, .slice (some ⟨w.heap.size, 0, none⟩) 1 1]).run Try.prog (w.alloc (.cells #[.int .u32 x] 27)) = .ok v' w' ∧ NewU w0 w' v' (l ++ [x]) :=
  append_u32s (h.alloc _) (lit_row w [x] (by simp)) (.inr ⟨_, _, _, rfl⟩) (by simp; omega)

set_option maxHeartbeats 4000000 in
theorem refAll_any (K : Nat → Prop) (w : World) (v : Value) (l : List Int) (n : Nat) (hv : RowK K w v 1 (ucells l)) (hr : Room l) (hl : l.length ≤ 1000) (hn : n ≤ 10000) :
    Calls Try.prog 9 #[v, .int .i64 (n : Int)] w fun e w' => ∃ v', e = .returned v' ∧ NewU w w' v' (drs l n) := by
  have HR := hid hr
  obtain ⟨ao, m, c, rfl, h1, h2, h3, h4⟩ := hv
  have e : m = l.length := by rw [ucells_length] at h1; omega
  subst e
  have H4 := hid h4
  have N0 := hid (NewU.nil w)
  unfold maxLen at h3
  clear h1 h4 hr
  go_enter Try.func9, Try.ntmps9
  go_wp2_with fail
  go_loopw [5, 6, 7] (fun o x i wr => ∃ k : Nat, k ≤ n ∧ i = .int .i64 (k : Int) ∧ x = .int .u64 (ahead l k) ∧ NewU w wr o (drs l k)) (fun _ _ i _ => (n - intOf i).toNat)
  case atStart => exact ⟨0, by omega, rfl, rfl, N0.out⟩
  case round =>
    obtain ⟨k, hk, rfl, rfl, N⟩ := hrel
    clear N0
    by_cases q : k < n
    · have ST := N.step (dr l k) (by rw [drs_length]; omega)
      rw [← drs_snoc] at ST
      obtain ⟨oa, on, oc, eo⟩ := slice_of N.row
      subst eo
      have X := hid N.2
      obtain ⟨v', w', r, N'⟩ := ST
      have N2 := hid N'
      have R := hid r
      obtain ⟨oa', on', oc', eo'⟩ := slice_of N'.row
      subst eo'
      have i1 : (k : Int) < (n : Int) := by omega
      have i2 : (0 : Int) ≤ (k : Int) := by omega
      have NX : Hid (ahead l (k + 1) = dr l k) := rfl
      obtain ⟨a1, a2⟩ := ahead_room HR.out k
      obtain ⟨d1, d2⟩ := dr_room HR.out k
      clear N' r N
      by_cases t : k < l.length
      · obtain ⟨g, o, rfl, hg, hc⟩ := H4.out (by omega)
        have x1 := X.out.cell (hc k _ (ucells_at l k t))
        have E := hid (dr_in l k t)
        rw [← E.out] at x1
        have i3 : (k : Int) < (l.length : Int) := by omega
        clear hc hg
        obtain ⟨y, ey⟩ : ∃ y, y = ahead l k := ⟨_, rfl⟩
        rw [← ey]
        obtain ⟨z, ez⟩ : ∃ z, z = dr l k := ⟨_, rfl⟩
        rw [← ez] at x1 R NX d1 d2
        clear ey ez a1 a2 E
        have z1 : z % 4294967296 = z := by omega
        go_wp2_with (at_builtin; refine wpList_append_run rfl (.tmp 26) (.tmp 29) 22 rfl _ _ _ _ rfl rfl R.out ?_)
        go_roundw
        case rel => exact ⟨k + 1, by omega, by go_num, by rw [NX.out], N2.out⟩
        case measure => simp [intOf]; omega
      · have E := hid (dr_behind l k (by omega))
        have i3 : ¬ (k : Int) < (l.length : Int) := by omega
        obtain ⟨y, ey⟩ : ∃ y, y = ahead l k := ⟨_, rfl⟩
        rw [← ey] at a1 a2 E
        rw [← ey]
        obtain ⟨z, ez⟩ : ∃ z, z = dr l k := ⟨_, rfl⟩
        rw [← ez] at R NX d1 d2 E
        have E2 : Hid ((1664525 * y + 1013904223) % 4294967296 = z) := E.out.symm
        clear ey ez E
        go_wp2_with (at_builtin; rw [E2.out]; refine wpList_append_run rfl (.tmp 26) (.tmp 29) 22 rfl _ _ _ _ rfl rfl R.out ?_)
        go_roundw
        case rel => exact ⟨k + 1, by omega, by go_num, by rw [NX.out], N2.out⟩
        case measure => simp [intOf]; omega
    · obtain rfl : k = n := by omega
      have N2 := hid N
      obtain ⟨oa, on, oc, eo⟩ := slice_of N.row
      subst eo
      clear N q
      go_wp2_with fail
      go_ret
      exact ⟨_, rfl, N2.out⟩

theorem tells_ext {a w : World} {b : Nat} (h : Ext a w) (hb : a.heap.size ≤ b) (m : Nat) : Ext a (tells w b m) := h.setCell (p := ⟨b, 1, none⟩) hb _
theorem room7 : Room [7] := fun i => by
  match i with
  | 0 => exact ⟨by decide, by decide⟩
  | n + 1 => exact ⟨by simp, by simp⟩
theorem room0 : Room [] := fun i => by simp

set_option maxHeartbeats 4000000 in
theorem awake_any (w : World) : Calls Try.prog 7 #[] w fun e w' => e = .returned (.bool true) ∧ Ext w w' := by
  have X1 : Hid (Ext w (w.alloc (.cells #[.int .u32 7] 27))) := (Ext.refl w).alloc _
  have C := hid (new_any _ _ _ [7] (lit_row w [7] (by simp)) (.inr ⟨_, _, _, rfl⟩) (by simp) room7)
  go_enter Try.func7, Try.ntmps7
  go_wp2_with fail
  refine C.out.mono ?_
  rintro e w1 ⟨b, rfl, D, X⟩
  have D1 := hid (D.mono (L := fun _ => True) (fun _ _ _ => True.intro))
  have B1 : Hid (w.heap.size ≤ b) := Nat.le_trans X1.out.size D.its
  have X2 := hid (X1.out.trans X)
  have C1 := hid (next_any _ b [7] 0 w1 D (by omega))
  rw [show dr [7] 0 = 7 by rfl] at C1
  clear D X C X1
  go_wp2_with fail
  refine C1.out.mono ?_
  rintro e w2 ⟨rfl, e2⟩
  have D2 : Hid (Drw (fun _ => True) w2 b [7] 1) := by rw [e2]; exact D1.out.tells 1
  have X3 : Hid (Ext w w2) := by rw [e2]; exact tells_ext X2.out B1.out 1
  have C2 := hid (next_any _ b [7] 1 w2 D2.out (by omega))
  rw [show dr [7] 1 = 1025555898 by rfl] at C2
  clear e2 D1 X2 C1
  go_wp2_with fail
  refine C2.out.mono ?_
  rintro e w3 ⟨rfl, e3⟩
  have D3 : Hid (Drw (fun _ => True) w3 b [7] 2) := by rw [e3]; exact D2.out.tells 2
  have X4 : Hid (Ext w w3) := by rw [e3]; exact tells_ext X3.out B1.out 2
  have C3 := hid (told_any _ b [7] 2 w3 D3.out)
  clear e3 D2 X3 C2
  go_wp2_with fail
  refine C3.out.mono ?_
  rintro e w4 ⟨rfl, rfl⟩
  have C4 := hid (new_any (fun _ => True) w4 (.slice none 0 0) [] (RowK.nil _ _ _) (.inl rfl) (by simp) room0)
  clear C3 D3
  go_wp2_with fail
  refine C4.out.mono ?_
  rintro e w5 ⟨d, rfl, D, X⟩
  have D5 := hid D
  have B5 : Hid (w.heap.size ≤ d) := Nat.le_trans X4.out.size D.its
  have X5 := hid (X4.out.trans X)
  have C5 := hid (next_any _ d [] 0 w5 D (by omega))
  rw [show dr [] 0 = 1013904223 by rfl] at C5
  clear D X C4 X4
  go_wp2_with fail
  refine C5.out.mono ?_
  rintro e w6 ⟨rfl, e6⟩
  have X6 : Hid (Ext w w6) := by rw [e6]; exact tells_ext X5.out B5.out 1
  clear e6 D5 X5 C5
  go_wp2_with fail
  go_ret
  exact ⟨rfl, X6.out⟩
end Go.Proofs.Ytpdgicnapidkeaa
