/-
  Walks of a set's reading functions: count, Len, First, Has.
-/
import Derived.Test.YtbolhkafdgiggaaRngMem
import Derived.Test.YtbolhkafdgiggaaEverCore
namespace Go.Proofs.Ytbolhkafdgiggaa
set_option linter.unusedVariables false
set_option maxRecDepth 100000
open Go.RowKit Go.Lib

theorem parted_ex (P : Int × Int → Prop) [DecidablePred P] : ∀ l : Sts, l.Pairwise (fun p q => P p → P q) → ∃ k, Parted l k P
  | [], _ => ⟨0, by simp, by simp, by simp⟩
  | p :: l, h => by
    have h' := List.pairwise_cons.1 h
    by_cases hp : P p
    · refine ⟨0, by simp, by simp, fun q hq => ?_⟩
      rw [List.drop_zero] at hq
      rcases List.mem_cons.1 hq with rfl | hq
      · exact hp
      · exact h'.1 q hq hp
    · obtain ⟨k, h1, h2, h3⟩ := parted_ex P l h'.2
      refine ⟨k + 1, by simpa using h1, fun q hq => ?_, fun q hq => ?_⟩
      · rw [List.take_succ_cons] at hq
        rcases List.mem_cons.1 hq with rfl | hq
        · exact hp
        · exact h2 q hq
      · exact h3 q (by simpa using hq)
theorem parted_one {P : Int × Int → Prop} {l : Sts} {k m : Nat} (h : Parted l k P) (h' : Parted l m P) : k = m := by
  rcases Nat.lt_trichotomy k m with q | q | q
  · exact absurd (h.2.2 _ (mem_drop_at (Nat.le_refl k) (by have := h'.1; omega))) (h'.2.1 _ (mem_take_at q (by have := h'.1; omega)))
  · exact q
  · exact absurd (h'.2.2 _ (mem_drop_at (Nat.le_refl m) (by have := h.1; omega))) (h.2.1 _ (mem_take_at q (by have := h.1; omega)))
theorem Good.ends {l : Sts} (h : Good l) (n : Int) : ∃ k, Parted l k (fun p => n < p.2) :=
  parted_ex _ l (h.2.imp_of_mem fun {p q} hp hq h1 h2 => by have := h.1 p hp; have := h.1 q hq; omega)
theorem Good.begins {l : Sts} (h : Good l) (n : Int) : ∃ k, Parted l k (fun p => n < p.1) :=
  parted_ex _ l (h.2.imp_of_mem fun {p q} hp hq h1 h2 => by have := h.1 p hp; have := h.1 q hq; omega)

theorem endsBehind_at (b : Nat) (n : Int) (v : Value) (l : Sts) (k : Nat) (w : World) (hs : SetV w b v l) (hg : Good l) (hk : Parted l k (fun p => n < p.2)) :
    Calls Try.prog 27 #[.pointer (some ⟨b, 0, none⟩), .int .i64 n] w fun e w' => e = .returned (.int .i64 (k : Int)) ∧ Ext w w' := by
  refine (endsBehind_any b n v l w hs hg).mono ?_
  rintro e w' ⟨m, rfl, h1, h2⟩
  rw [parted_one h1 hk]
  exact ⟨rfl, h2⟩
theorem beginsBehind_at (b : Nat) (n : Int) (v : Value) (l : Sts) (k : Nat) (w : World) (hs : SetV w b v l) (hg : Good l) (hk : Parted l k (fun p => n < p.1)) :
    Calls Try.prog 32 #[.pointer (some ⟨b, 0, none⟩), .int .i64 n] w fun e w' => e = .returned (.int .i64 (k : Int)) ∧ Ext w w' := by
  refine (beginsBehind_any b n v l w hs hg).mono ?_
  rintro e w' ⟨m, rfl, h1, h2⟩
  rw [parted_one h1 hk]
  exact ⟨rfl, h2⟩

/-- where a slice begins that is cut at k -/
def cutAt (ao : Option Addr) (cp k : Nat) : Option Addr := if cp = k then ao else ao.map (·.add (k * 2))
theorem run_cut (w : World) (ao : Option Addr) (n cp k : Nat) (h1 : k ≤ n) (h2 : n ≤ cp) :
    (Instr.sliceAt 31 (.slice ao n cp) (some (.int .i64 (k : Int))) none none).run Try.prog w = .ok (.slice (cutAt ao cp k) (n - k) (cp - k)) w := by
  have i1 : (0 : Int) ≤ (k : Int) ∧ (k : Int) ≤ (n : Int) := by omega
  simp [Instr.sliceAt, Instr.slice, Instr.sliceBounds, Instr.sliceBound, asIntOf, run_underlying Try.underlying31, Try.sizeOf33, i1, cutAt]
  intro h; omega
theorem quiet_cut {o : Oper} {a : Act} {C : World → Prop} {K : Act → Prop} (x y : Operand) (ho : o.op = .slice 31 x (some y) none none) (ao : Option Addr) (n cp k : Nat) (hx : a.eval x = .slice ao n cp) (hy : a.eval y = .int .i64 (k : Int)) (h1 : k ≤ n) (h2 : n ≤ cp)
    (h : K (a.put o.dst (.slice (cutAt ao cp k) (n - k) (cp - k)))) : o.quiet Try.prog a C K :=
  ⟨_, fun w _ => by
    unfold Oper.quietAt execOp
    simp only [ho, Option.map_some, Option.map_none, hx, hy, Sem.run_bind, run_cut w ao n cp k h1 h2, Result.andThen_ok, Sem.run_pure]
    exact ⟨rfl, rfl⟩, h⟩
/-- what is read of the rest of a row -/
theorem OwnG.rest {w : World} {v : Value} {l : Sts} (h : OwnG w v l) (k : Nat) (hk : k ≤ l.length) : ∃ ao c, v = .slice ao l.length c ∧ l.length ≤ c ∧ c ≤ maxLen ∧
    ∀ j, k + j < l.length → ∃ g, cutAt ao c k = some ⟨g, k * 2, none⟩ ∧ w.cell? ⟨g, k * 2 + j * 2, none⟩ = some (.int .i64 (l.getD (k + j) (0, 0)).1) ∧ w.cell? ⟨g, k * 2 + j * 2 + 1, none⟩ = some (.int .i64 (l.getD (k + j) (0, 0)).2) := by
  obtain ⟨ao, c, rfl, h1, h2, h3⟩ := h.view
  refine ⟨ao, c, rfl, h1, h2, fun j hj => ?_⟩
  obtain ⟨g, rfl, x1, x2⟩ := h3 (k + j) hj
  refine ⟨g, ?_, ?_, ?_⟩
  · unfold cutAt
    rw [if_neg (by omega), Option.map_some, Addr.add_mid, Nat.zero_add]
  · rw [← Nat.add_mul]; exact x1
  · rw [← Nat.add_mul]; exact x2

theorem tot_take (a c : Int) (l : Sts) (j : Nat) (h : a ≤ c) : 0 ≤ tot a c (l.take j) ∧ tot a c (l.take j) ≤ tot a c l := by
  have e : tot a c l = tot a c (l.take j) + tot a c (l.drop j) := by rw [← tot_append, List.take_append_drop]
  have := tot_range (l.take j) h
  have := tot_range (l.drop j) h
  omega
theorem tot_drop (a c : Int) (l : Sts) (j : Nat) (h : a ≤ c) : 0 ≤ tot a c (l.drop j) ∧ tot a c (l.drop j) ≤ tot a c l := by
  have e : tot a c l = tot a c (l.take j) + tot a c (l.drop j) := by rw [← tot_append, List.take_append_drop]
  have := tot_range (l.take j) h
  have := tot_range (l.drop j) h
  omega

set_option maxHeartbeats 2000000 in
theorem count_any (b : Nat) (a c : Int) (v : Value) (l : Sts) (w : World) (hs : SetV w b v l) (hg : Good l) (ha : 0 ≤ a) (hac : a ≤ c) (hc : c ≤ 16384) :
    Calls Try.prog 26 #[.pointer (some ⟨b, 0, none⟩), .int .i64 a, .int .i64 c] w fun e w' => e = .returned (.int .i64 (tot a c l)) ∧ Ext w w' := by
  obtain ⟨k, hk⟩ := hg.ends a
  have kl := hk.1
  have CE : Hid (∀ n : Ever w, Calls Try.prog 27 #[.pointer (some ⟨b, 0, none⟩), .int .i64 a] n.W fun e w' => e = .returned (.int .i64 (k : Int)) ∧ Ext n.W w') := fun n => endsBehind_at b a v l k n.W (hs.ext n.ok) hg hk
  have cc : ∀ n : Ever w, n.W.cell? ⟨b, 0, none⟩ = some v := fun n => (hs.ext n.ok).cell
  obtain ⟨ao, cp, rfl, q1, q2, rd⟩ := hs.2.rest k kl
  have RD := hid rd
  have HG := hid hg
  have HK := hid hk
  have LN := hg.len
  clear hs rd hk hg
  obtain ⟨co, eco⟩ : ∃ co, co = cutAt ao cp k := ⟨_, rfl⟩
  unfold maxLen at q2
  go_enter Try.func26, Try.ntmps26
  go_wp2_with fail
  refine wp_region_ext (by kernel_rfl) (by kernel_rfl) ?_
  have ev := Ever.some w
  go_big_quiet_step (fail)
  go_big_quiet_step (fail)
  go_big_quiet_step (fail)
  go_big_quiet_step (fail)
  go_big_quiet_step (fail)
  go_big_quiet_step (fail)
  go_big_quiet_step ((go_at_call 27; refine (CE.out _).mono ?_; rintro e w' ⟨rfl, Y⟩; exact ⟨rfl, ⟨_, (Ever.ok _).trans Y⟩, rfl⟩))
  go_big_quiet_want
  refine quiet_cut (.tmp 13) (.tmp 16) rfl _ _ _ k rfl rfl kl q1 ?_
  simp [Act.put]
  go_big_quiet_on
  go_big_quiet_step (fail)
  go_big_quiet_step (fail)
  refine wpQuiet_nil ?_
  rintro w3 ⟨⟨_, x3⟩, rfl⟩
  have XX := hid x3
  clear x3 cc CE ev eco
  go_wp2_with fail
  go_loopw [7, 19] (fun n i wr => ∃ j : Nat, k + j ≤ l.length ∧ i = .int .i64 (j : Int) ∧ n = .int .i64 (tot a c ((l.drop k).take j)) ∧ Ext w wr) (fun _ i _ => (l.length - k - intOf i).toNat)
  case atStart => exact ⟨0, by omega, rfl, rfl, XX.out⟩
  case round =>
    obtain ⟨j, hj, rfl, rfl, xr⟩ := hrel
    have XR := hid xr
    clear XX
    have B1 := tot_take a c (l.drop k) j hac
    have B2 := tot_drop a c l k hac
    have B3 := tot_bound ha hac hc HG.out
    by_cases t : k + j < l.length
    · obtain ⟨g, eg, x1, x2⟩ := RD.out j t
      have y1 := XR.out.cell x1
      have y2 := XR.out.cell x2
      have R1 := hid (rest_behind HG.out (b := c) t)
      have R2 := hid (tot_more HG.out hac HK.out t)
      have R3 := hid (tot_part (j := j) hac HK.out)
      have i1 : (j : Int) < ((l.length - k : Nat) : Int) := by omega
      have i2 : (0 : Int) ≤ (j : Int) := by omega
      have P1 := HK.out.2.2 _ (mem_drop_at (show k ≤ k + j by omega) t)
      have P2 := HG.out.1 _ (at_mem t)
      clear x1 x2
      generalize (l.getD (k + j) (0, 0)).1 = x at *
      generalize (l.getD (k + j) (0, 0)).2 = y at *
      have X2 := hid (XR.out.alloc (.cells #[.int .i64 x, .int .i64 y] 33))
      by_cases t2 : c ≤ x
      · have E := hid (R3.out (R1.out t2))
        generalize tot a c ((l.drop k).take j) = T at *
        go_wp2_with fail
        rw [E.out]
        go_ret
        exact ⟨rfl, X2.out⟩
      · have E := hid (R2.out (by omega))
        generalize tot a c ((l.drop k).take j) = T at *
        have t3 : ¬ (c ≤ x) := t2
        obtain ⟨M, eM⟩ : ∃ M, (if c < y then c else y) = M := ⟨_, rfl⟩
        obtain ⟨N, eN⟩ : ∃ N, (if x < a then a else x) = N := ⟨_, rfl⟩
        have eM2 : min y c = M := by rw [← eM]; split <;> omega
        have eN2 : max x a = N := by rw [← eN]; split <;> omega
        rw [eM2, eN2] at E
        have m1 : 0 ≤ M ∧ M ≤ 16384 := by omega
        have m2 : 0 ≤ N ∧ N ≤ 16384 := by omega
        clear eM2 eN2
        go_wp2_with fail
        go_roundw
        case rel => exact ⟨j + 1, by omega, by go_num, by rw [E.out], X2.out⟩
        case measure => simp [intOf]; omega
    · have E := hid (tot_part (j := j) hac HK.out (fun p hp => by rw [List.drop_eq_nil_of_le (by omega)] at hp; cases hp))
      have i1 : ¬ ((j : Int) < ((l.length - k : Nat) : Int)) := by omega
      generalize tot a c ((l.drop k).take j) = T at *
      go_wp2_with fail
      rw [E.out]
      go_ret
      exact ⟨rfl, XR.out⟩

theorem len_any (b : Nat) (v : Value) (l : Sts) (w : World) (hs : SetV w b v l) (hg : Good l) :
    Calls Try.prog 14 #[.pointer (some ⟨b, 0, none⟩)] w fun e w' => e = .returned (.int .i64 (lens l)) ∧ Ext w w' := by
  have C := hid (count_any b 0 16384 v l w hs hg (by decide) (by decide) (by decide))
  rw [tot_all hg (by decide)] at C
  generalize lens l = T at *
  clear hs
  go_enter Try.func14, Try.ntmps14
  go_wp2_with fail
  refine C.out.mono ?_
  rintro e w1 ⟨rfl, X⟩
  go_wp2_with fail
  go_ret
  exact ⟨rfl, X⟩

/-- what First tells -/
def Firsts (l : Sts) (n : Int) (e : Ending) (F : Sts → Int → Int → Bool → Prop) : Prop := ∃ r ok, e = .returned (.tuple #[.int .i64 r, .bool ok]) ∧ F l n r ok
/-- .. when it is right -/
def FirstOf (l : Sts) (n : Int) (r : Int) (ok : Bool) : Prop := (ok = false ∧ r = 0 ∧ ∀ i, n ≤ i → has l i = false) ∨ (ok = true ∧ n ≤ r ∧ has l r = true ∧ ∀ i, n ≤ i → i < r → has l i = false)

set_option maxHeartbeats 1000000 in
theorem first_any (b : Nat) (n : Int) (v : Value) (l : Sts) (w : World) (hs : SetV w b v l) (hg : Good l) :
    Calls Try.prog 17 #[.pointer (some ⟨b, 0, none⟩), .int .i64 n] w fun e w' => Firsts l n e FirstOf ∧ Ext w w' := by
  obtain ⟨k, hk⟩ := hg.ends n
  have kl := hk.1
  have CE := hid (endsBehind_at b n v l k w hs hg hk)
  have HS := hid hs
  obtain ⟨ao, cp, rfl, q1, q2, rd⟩ := hs.2.view
  have RD := hid rd
  clear hs rd
  unfold maxLen at q2
  go_enter Try.func17, Try.ntmps17
  go_wp2_with fail
  refine CE.out.mono ?_
  rintro e w1 ⟨rfl, X⟩
  have c1 := (HS.out.ext X).cell
  have XX := hid X
  clear CE
  by_cases t : k < l.length
  · obtain ⟨g, rfl, x1, _⟩ := RD.out k t
    have y1 := X.cell x1
    have F := hid (first_some hg t hk)
    clear x1 X
    generalize (l.getD k (0, 0)).1 = x at *
    have i1 : ¬ ((k : Int) = (l.length : Int)) := by omega
    have i2 : (0 : Int) ≤ (k : Int) := by omega
    have i3 : (k : Int) < (l.length : Int) := by omega
    have F2 : Hid (n ≤ max n x) := by show n ≤ max n x; omega
    by_cases t2 : n < x
    · rw [Int.max_eq_right (by omega)] at F F2
      go_wp2_with fail
      go_ret2
      exact ⟨⟨x, true, rfl, .inr ⟨rfl, F2.out, F.1, F.2⟩⟩, XX.out⟩
    · rw [Int.max_eq_left (by omega)] at F F2
      go_wp2_with fail
      go_ret2
      exact ⟨⟨n, true, rfl, .inr ⟨rfl, F2.out, F.1, F.2⟩⟩, XX.out⟩
  · obtain rfl : k = l.length := by omega
    have F := hid (first_none hk)
    clear X
    go_wp2_with fail
    go_ret2
    exact ⟨⟨0, false, rfl, .inl ⟨rfl, rfl, F.out⟩⟩, XX.out⟩

theorem has_any (b : Nat) (n : Int) (v : Value) (l : Sts) (w : World) (hs : SetV w b v l) (hg : Good l) :
    Calls Try.prog 16 #[.pointer (some ⟨b, 0, none⟩), .int .i64 n] w fun e w' => e = .returned (.bool (has l n)) ∧ Ext w w' := by
  have C := hid (first_any b n v l w hs hg)
  clear hs
  obtain ⟨B, eB⟩ : ∃ B, has l n = B := ⟨_, rfl⟩
  rw [eB]
  have EB := hid eB
  clear eB
  go_enter Try.func16, Try.ntmps16
  go_wp2_with fail
  refine C.out.mono ?_
  rintro e w1 ⟨⟨r, ok, rfl, F⟩, X⟩
  clear C
  rcases F with ⟨rfl, rfl, F⟩ | ⟨rfl, h1, h2, F⟩
  · obtain rfl : B = false := EB.out.symm.trans (F n (Int.le_refl _))
    clear F
    go_wp2_with fail
    go_ret
    exact ⟨rfl, X⟩
  · by_cases t : r = n
    · subst t
      obtain rfl : B = true := EB.out.symm.trans h2
      clear F h2
      go_wp2_with fail
      go_ret
      exact ⟨rfl, X⟩
    · obtain rfl : B = false := EB.out.symm.trans (F n (Int.le_refl _) (by omega))
      have tb : (r == n) = false := by simpa using t
      clear F h2
      go_wp2_with fail
      go_ret
      exact ⟨rfl, X⟩
end Go.Proofs.Ytbolhkafdgiggaa
