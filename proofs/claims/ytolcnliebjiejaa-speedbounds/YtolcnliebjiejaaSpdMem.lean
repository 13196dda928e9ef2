/-
  A speed in memory; walks of New, Rate, Floor, Copy, Held, Free, Left and what they lean on; of the reference's sum, less.
-/
import Derived.Test.YtolcnliebjiejaaSpdMath
import Derived.Test.YtolcnliebjiejaaFix
import Derived.Test.YtolcnliebjiejaaRowAny
import Derived.Test.YtolcnliebjiejaaStoreCore
namespace Go.Proofs.Ytolcnliebjiejaa.Spd
set_option linter.unusedVariables false
set_option maxRecDepth 100000
open Go.RowKit Go.Lib

/-- floor, rate -/
abbrev SS := Int × Int
def Fit (s : SS) : Prop := Wd s.1 ∧ Wd s.2 ∧ s.1 ≤ s.2
def sr (s : SS) : Array Value := #[.int .u64 s.1, .int .u64 s.2]
theorem sr_one (s : SS) : (sr s).all (·.oneCell') = true := by simp [sr, Value.oneCell']
theorem size_s : (Try.prog.info? 47).map (·.size) = some 2 := by kernel_rfl
def SpdV (w : World) (b : Nat) (s : SS) : Prop := Fit s ∧ w.heap[b]? = some (.cells (sr s) 47 (0, 0))
theorem SpdV.c0 {w : World} {b : Nat} {s : SS} (h : SpdV w b s) : w.cell? ⟨b, 0, none⟩ = some (.int .u64 s.1) := by
  rw [cell_of_row _ _ 0 _ _ _ h.2]; rfl
theorem SpdV.c1 {w : World} {b : Nat} {s : SS} (h : SpdV w b s) : w.cell? ⟨b, 1, none⟩ = some (.int .u64 s.2) := by
  rw [cell_of_row _ _ 1 _ _ _ h.2]; rfl
theorem SpdV.free {w : World} {b : Nat} {s : SS} (h : SpdV w b s) (i : Nat) : w.frozen? ⟨b, i, none⟩ = false := frozen_of_row _ _ _ _ _ h.2
theorem SpdV.lt {w : World} {b : Nat} {s : SS} (h : SpdV w b s) : b < w.heap.size := lt_of_row h.2
theorem SpdV.kept {K : Nat → Prop} {w w' : World} {b : Nat} {s : SS} (h : SpdV w b s) (k : Kept K w w') (hb : K b) : SpdV w' b s := ⟨h.1, k.row hb h.2⟩
theorem SpdV.ext {w w' : World} {b : Nat} {s : SS} (h : SpdV w b s) (e : Ext w w') : SpdV w' b s := ⟨h.1, e.row h.2⟩
theorem SpdV.drewN {w : World} {b : Nat} {s : SS} (h : SpdV w b s) (n : Nat) : SpdV (w.drewN n) b s := h
/-- its rate written anew -/
theorem SpdV.put {w : World} {b : Nat} {s : SS} (h : SpdV w b s) {x : Int} (f : Fit (s.1, x)) : SpdV (w.setCell ⟨b, 1, none⟩ (.int .u64 x)) b (s.1, x) ∧ Kept (fun q => q ≠ b) w (w.setCell ⟨b, 1, none⟩ (.int .u64 x)) := by
  refine ⟨⟨f, ?_⟩, (Kept.refl _ w).setCell (fun hne => hne rfl) _⟩
  rw [setCell_eq_setRow _ _ _ _ _ _ _ h.2]
  exact setRow_heap _ _ _ _ _ _ h.2

theorem issize_any (a : Int) (w : World) : Calls Try.prog 20 #[.int .i64 a] w fun e w' => e = .returned (.bool (decide (1 ≤ a ∧ a ≤ 320))) ∧ w' = w := by
  by_cases h0 : 1 ≤ a
  · by_cases h1 : a ≤ 320
    · rw [decide_eq_true ⟨h0, h1⟩]
      go_enter Try.func20, Try.ntmps20
      go_wp2_with fail
      go_ret
      exact ⟨rfl, rfl⟩
    · rw [decide_eq_false (fun h => h1 h.2)]
      go_enter Try.func20, Try.ntmps20
      go_wp2_with fail
      go_ret
      exact ⟨rfl, rfl⟩
  · rw [decide_eq_false (fun h => h0 h.1)]
    go_enter Try.func20, Try.ntmps20
    go_wp2_with fail
    go_ret
    exact ⟨rfl, rfl⟩

theorem istrip_any (a : Int) (w : World) : Calls Try.prog 21 #[.int .i64 a] w fun e w' => e = .returned (.bool (decide (1 ≤ a ∧ a ≤ 1048576))) ∧ w' = w := by
  by_cases h0 : 1 ≤ a
  · by_cases h1 : a ≤ 1048576
    · rw [decide_eq_true ⟨h0, h1⟩]
      go_enter Try.func21, Try.ntmps21
      go_wp2_with fail
      go_ret
      exact ⟨rfl, rfl⟩
    · rw [decide_eq_false (fun h => h1 h.2)]
      go_enter Try.func21, Try.ntmps21
      go_wp2_with fail
      go_ret
      exact ⟨rfl, rfl⟩
  · rw [decide_eq_false (fun h => h0 h.1)]
    go_enter Try.func21, Try.ntmps21
    go_wp2_with fail
    go_ret
    exact ⟨rfl, rfl⟩

/-- the sum of layer 1, in the words of this layer -/
theorem fadd_ssum (a b : Int) : fadd a b = ssum a b := by
  unfold fadd ssum
  split <;> split <;> omega
theorem add_word {a b : Int} (ha : Wd a) (hb : Wd b) (w : World) : Calls Try.prog 13 #[.int .u64 a, .int .u64 b] w fun e w' => e = .returned (.int .u64 (ssum a b)) ∧ w' = w := by
  rw [← fadd_ssum]
  exact add_any a b ha.1 hb.1 (by have := ha.2; omega) (by have := hb.2; omega) w
theorem half_word {a : Int} (ha : Wd a) (w : World) : Calls Try.prog 26 #[.int .u64 a, .int .i64 1] w fun e w' => e = .returned (.int .u64 (a / 2)) ∧ w' = w := by
  have q := half_any a 1 ha.1 (by have := ha.2; omega) w
  rw [show fhalf a 1 = a / 2 from by unfold fhalf; rw [if_neg (by decide), if_neg (by decide)]; rfl] at q
  exact q
theorem ratio_pace {a c : Int} (a1 : 1 ≤ a) (a2 : a ≤ 320) (c1 : 1 ≤ c) (c2 : c ≤ 1048576) (w : World) : Calls Try.prog 14 #[.int .u64 a, .int .u64 c] w fun e w' => e = .returned (.int .u64 (pace a c)) ∧ ∃ n, w' = w.drewN n := by
  have q := ratio_any a c (by omega) (by omega) (by omega) (by omega) w
  rw [show fratio a c = pace a c from by unfold fratio pace; rw [if_neg (by omega)]] at q
  exact q
theorem twice_any {a : Int} (ha : Wd a) (w : World) : Calls Try.prog 25 #[.int .u64 a] w fun e w' => e = .returned (.int .u64 (ssum a a)) ∧ w' = w := by
  have AD := hid (add_word ha ha w)
  generalize ssum a a = y at *
  go_enter Try.func25, Try.ntmps25
  go_wp2_with fail
  refine AD.out.mono ?_
  rintro e w' ⟨rfl, ew⟩
  obtain rfl : w = w' := ew.symm
  go_wp2_with fail
  go_ret
  exact ⟨rfl, rfl⟩

theorem max_sup (fl x : Int) : max x fl = sup fl x := by
  unfold sup
  split <;> omega
theorem min_sless (a b : Int) : min a b = sless a b := by
  unfold sless
  split <;> omega

theorem become_any (b : Nat) (s : SS) (x : Int) (w : World) (h : SpdV w b s) (hx : Wd x) : Calls Try.prog 22 #[.pointer (some ⟨b, 0, none⟩), .int .u64 x] w fun e w' => e = .returned (.tuple #[]) ∧ SpdV w' b (s.1, sup s.1 x) ∧ Kept (fun q => q ≠ b) w w' := by
  have c0 := h.c0
  have c1 := h.c1
  have fr := h.free 1
  have r := sup_room h.1.1 hx
  have FIN := hid (h.put (x := sup s.1 x) ⟨h.1.1, r.1, r.2.1⟩)
  obtain ⟨fl, rt⟩ := s
  simp only at c0 c1 FIN ⊢
  obtain ⟨fl0, fl1⟩ := (show Wd fl from h.1.1)
  obtain ⟨x0, x1⟩ := hx
  have em := max_sup fl x
  obtain ⟨y, ey⟩ : ∃ y, y = sup fl x := ⟨_, rfl⟩
  rw [← ey] at em FIN ⊢
  clear ey h r
  go_enter Try.func22, Try.ntmps22
  go_wp2_with fail
  refine bodyPost_end (results_none Try.results22 _ _ _) rfl ?_
  exact ⟨rfl, FIN.out⟩

theorem rate_any (b : Nat) (s : SS) (w : World) (h : SpdV w b s) : Calls Try.prog 10 #[.pointer (some ⟨b, 0, none⟩)] w fun e w' => e = .returned (.int .u64 s.2) ∧ w' = w := by
  have c := h.c1
  clear h
  go_enter Try.func10, Try.ntmps10
  go_wp2_with fail
  go_ret
  exact ⟨rfl, rfl⟩

theorem floor_any (b : Nat) (s : SS) (w : World) (h : SpdV w b s) : Calls Try.prog 11 #[.pointer (some ⟨b, 0, none⟩)] w fun e w' => e = .returned (.int .u64 s.1) ∧ w' = w := by
  have c := h.c0
  clear h
  go_enter Try.func11, Try.ntmps11
  go_wp2_with fail
  go_ret
  exact ⟨rfl, rfl⟩

theorem left_any (b : Nat) (s : SS) (w : World) (h : SpdV w b s) : Calls Try.prog 16 #[.pointer (some ⟨b, 0, none⟩)] w fun e w' => e = .returned (.tuple #[]) ∧ SpdV w' b (s.1, left s.1 s.2) ∧ Kept (fun q => q ≠ b) w w' := by
  have c := h.c1
  have HF := hid (half_word h.1.2.1 w)
  have BE := hid (become_any b s (s.2 / 2) w h (by have := h.1.2.1; unfold Wd at *; omega))
  rw [show sup s.1 (s.2 / 2) = left s.1 s.2 from rfl] at BE
  generalize left s.1 s.2 = z at *
  obtain ⟨fl, r⟩ := s
  simp only at c HF BE ⊢
  generalize r / 2 = y at *
  clear h
  go_enter Try.func16, Try.ntmps16
  go_wp2_with fail
  refine HF.out.mono ?_
  rintro e w' ⟨rfl, ew⟩
  obtain rfl : w = w' := ew.symm
  go_wp2_with fail
  refine BE.out.mono ?_
  rintro e w' ⟨rfl, F⟩
  have FIN := hid F
  clear F
  go_wp2_with fail
  refine bodyPost_end (results_none Try.results16 _ _ _) rfl ?_
  exact ⟨rfl, FIN.out⟩

theorem free_any (b : Nat) (s : SS) (x : Int) (t : Bool) (w : World) (h : SpdV w b s) (hx : Wd x) : Calls Try.prog 15 #[.pointer (some ⟨b, 0, none⟩), .int .u64 x, .bool t] w fun e w' => e = .returned (.tuple #[]) ∧ SpdV w' b (s.1, if t then free s.1 s.2 x else s.2) ∧ Kept (fun q => q ≠ b) w w' := by
  cases t with
  | false =>
    rw [if_neg (by decide)]
    have H := hid h
    clear h
    go_enter Try.func15, Try.ntmps15
    go_wp2_with fail
    refine bodyPost_end (results_none Try.results15 _ _ _) rfl ?_
    exact ⟨rfl, H.out, Kept.refl _ w⟩
  | true =>
    rw [if_pos rfl]
    have c := h.c1
    have r1 := (ssum_room h.1.2.1 h.1.2.1).1
    have r2 := (ssum_room hx hx).1
    have T1 := hid (twice_any h.1.2.1 w)
    have T2 := hid (twice_any hx w)
    have BE := hid (become_any b s (sless (ssum s.2 s.2) (ssum x x)) w h (sless_room r1 r2))
    rw [show sup s.1 (sless (ssum s.2 s.2) (ssum x x)) = free s.1 s.2 x from rfl] at BE
    generalize free s.1 s.2 x = z at *
    have em := min_sless (ssum s.2 s.2) (ssum x x)
    generalize ssum x x = y at *
    obtain ⟨fl, r⟩ := s
    simp only at c T1 BE em r1 ⊢
    generalize ssum r r = u at *
    generalize sless u y = m at *
    obtain ⟨r10, r11⟩ := r1
    obtain ⟨r20, r21⟩ := r2
    clear h
    go_enter Try.func15, Try.ntmps15
    go_wp2_with fail
    refine T1.out.mono ?_
    rintro e w' ⟨rfl, ew⟩
    obtain rfl : w = w' := ew.symm
    go_wp2_with fail
    refine T2.out.mono ?_
    rintro e w' ⟨rfl, ew⟩
    obtain rfl : w = w' := ew.symm
    go_wp2_with fail
    refine BE.out.mono ?_
    rintro e w' ⟨rfl, F⟩
    have FIN := hid F
    clear F
    go_wp2_with fail
    refine bodyPost_end (results_none Try.results15 _ _ _) rfl ?_
    exact ⟨rfl, FIN.out⟩

/-- what Held takes -/
abbrev Ok (a c : Int) : Prop := (1 ≤ a ∧ a ≤ 320) ∧ 1 ≤ c ∧ c ≤ 1048576
theorem held_no (b : Nat) (x a c : Int) (w : World) (hn : ¬ Ok a c) : Calls Try.prog 12 #[.pointer (some ⟨b, 0, none⟩), .int .u64 x, .int .i64 a, .int .i64 c] w fun e w' => e = .returned (.int .i64 11) ∧ w' = w := by
  have SZ := hid (issize_any a w)
  have TR := hid (istrip_any c w)
  by_cases qa : 1 ≤ a ∧ a ≤ 320
  · have qc : ¬ (1 ≤ c ∧ c ≤ 1048576) := fun h => hn ⟨qa, h⟩
    rw [decide_eq_true qa] at SZ
    rw [decide_eq_false qc] at TR
    clear hn qa qc
    go_enter Try.func12, Try.ntmps12
    go_wp2_with fail
    refine SZ.out.mono ?_
    rintro e w' ⟨rfl, ew⟩
    obtain rfl : w = w' := ew.symm
    go_wp2_with fail
    refine TR.out.mono ?_
    rintro e w' ⟨rfl, ew⟩
    obtain rfl : w = w' := ew.symm
    go_wp2_with fail
    go_ret
    exact ⟨rfl, rfl⟩
  · rw [decide_eq_false qa] at SZ
    clear hn qa TR
    go_enter Try.func12, Try.ntmps12
    go_wp2_with fail
    refine SZ.out.mono ?_
    rintro e w' ⟨rfl, ew⟩
    obtain rfl : w = w' := ew.symm
    go_wp2_with fail
    go_ret
    exact ⟨rfl, rfl⟩

theorem held_yes (b : Nat) (s : SS) (x a c : Int) (w : World) (h : SpdV w b s) (hx : Wd x) (ok : Ok a c) : Calls Try.prog 12 #[.pointer (some ⟨b, 0, none⟩), .int .u64 x, .int .i64 a, .int .i64 c] w fun e w' => e = .returned (.int .i64 0) ∧ SpdV w' b (s.1, held s.1 s.2 x a c) ∧ Kept (fun q => q ≠ b) w w' := by
  have SZ := hid (issize_any a w)
  have TR := hid (istrip_any c w)
  rw [decide_eq_true ok.1] at SZ
  rw [decide_eq_true ok.2] at TR
  have RT := hid (ratio_pace ok.1.1 ok.1.2 ok.2.1 ok.2.2 w)
  have rp := (pace_room ok.1.1 ok.1.2 ok.2.1).1
  have rs := (ssum_room h.1.2.1 rp).1
  have AD := hid (fun V => add_word h.1.2.1 rp V)
  have BE := hid (fun V (k : SpdV V b s) => become_any b s (sless x (ssum s.2 (pace a c))) V k (sless_room hx rs))
  rw [show sup s.1 (sless x (ssum s.2 (pace a c))) = held s.1 s.2 x a c from rfl] at BE
  generalize held s.1 s.2 x a c = z at *
  have em := min_sless x (ssum s.2 (pace a c))
  have H := hid h
  have CL := hid (fun n => (h.drewN n).c1)
  obtain ⟨fl, r⟩ := s
  simp only at AD BE em CL rs H ⊢
  clear rp
  generalize pace a c = y at *
  generalize ssum r y = u at *
  generalize sless x u = m at *
  obtain ⟨r10, r11⟩ := rs
  obtain ⟨x0, x1⟩ := hx
  obtain ⟨⟨a1, a2⟩, c1, c2⟩ := ok
  clear h
  go_enter Try.func12, Try.ntmps12
  go_wp2_with fail
  refine SZ.out.mono ?_
  rintro e w' ⟨rfl, ew⟩
  obtain rfl : w = w' := ew.symm
  go_wp2_with fail
  refine TR.out.mono ?_
  rintro e w' ⟨rfl, ew⟩
  obtain rfl : w = w' := ew.symm
  go_wp2_with fail
  refine RT.out.mono ?_
  rintro e w' ⟨rfl, n, rfl⟩
  have cl := CL.out n
  have BE' := hid (BE.out _ (H.out.drewN n))
  have KN : Hid (Kept (fun q => q ≠ b) w (w.drewN n)) := (Kept.refl _ w).drewN n
  clear CL BE H
  generalize w.drewN n = V at *
  go_wp2_with fail
  refine (AD.out _).mono ?_
  rintro e w' ⟨rfl, ew⟩
  obtain rfl : V = w' := ew.symm
  go_wp2_with fail
  refine BE'.out.mono ?_
  rintro e w' ⟨rfl, F, K⟩
  have FIN := hid F
  have KIN := hid (KN.out.trans K)
  clear F K KN
  go_wp2_with fail
  go_ret
  exact ⟨rfl, FIN.out, KIN.out⟩

theorem new_no (f r : Int) (w : World) (hn : f = 0 ∨ r < f) : Calls Try.prog 8 #[.int .u64 f, .int .u64 r] w fun e w' => e = .returned (.tuple #[.pointer none, .int .i64 11]) ∧ w' = w := by
  by_cases q : f = 0
  · subst q
    clear hn
    go_enter Try.func8, Try.ntmps8
    go_wp2_with fail
    go_ret2
    exact ⟨rfl, rfl⟩
  · have n1 : r < f := by omega
    have ne : (f == 0) = false := by simp; omega
    clear hn q
    go_enter Try.func8, Try.ntmps8
    go_wp2_with fail
    go_ret2
    exact ⟨rfl, rfl⟩

theorem new_yes (f r : Int) (w : World) (hf : Wd f) (hr : Wd r) (h1 : f ≠ 0) (h2 : f ≤ r) : Calls Try.prog 8 #[.int .u64 f, .int .u64 r] w fun e w' => ∃ b, e = .returned (.tuple #[.pointer (some ⟨b, 0, none⟩), .int .i64 0]) ∧ SpdV w' b (f, r) ∧ w.heap.size ≤ b ∧ Ext w w' := by
  have F := hid (show Fit (f, r) from ⟨hf, hr, h2⟩)
  have ne : (f == 0) = false := by simp; omega
  clear h1 hf hr
  go_enter Try.func8, Try.ntmps8
  go_wp2_with fail
  go_ret2
  exact ⟨_, rfl, ⟨F.out, heap_alloc_new w _⟩, Nat.le_refl _, (Ext.refl w).alloc _⟩

theorem rsum_any {a b : Int} (ha : Wd a) (hb : Wd b) (w : World) : Calls Try.prog 28 #[.int .u64 a, .int .u64 b] w fun e w' => e = .returned (.int .u64 (ssum a b)) ∧ w' = w := by
  obtain ⟨a0, a1⟩ := ha
  obtain ⟨b0, b1⟩ := hb
  by_cases h : 18446744073709551615 - b < a
  · rw [show ssum a b = 18446744073709551615 from by unfold ssum; rw [if_pos h]]
    go_enter Try.func28, Try.ntmps28
    go_wp2_with fail
    go_ret
    exact ⟨rfl, rfl⟩
  · rw [show ssum a b = a + b from by unfold ssum; rw [if_neg h]]
    go_enter Try.func28, Try.ntmps28
    go_wp2_with fail
    go_ret
    exact ⟨rfl, rfl⟩

theorem rless_any (a b : Int) (w : World) : Calls Try.prog 27 #[.int .u64 a, .int .u64 b] w fun e w' => e = .returned (.int .u64 (sless a b)) ∧ w' = w := by
  by_cases h : a < b
  · rw [show sless a b = a from by unfold sless; rw [if_pos h]]
    go_enter Try.func27, Try.ntmps27
    go_wp2_with fail
    go_ret
    exact ⟨rfl, rfl⟩
  · rw [show sless a b = b from by unfold sless; rw [if_neg h]]
    go_enter Try.func27, Try.ntmps27
    go_wp2_with fail
    go_ret
    exact ⟨rfl, rfl⟩
end Go.Proofs.Ytolcnliebjiejaa.Spd
