/-
  The walks of a net's calls but New and Copy.
-/
import Derived.Test.YtjmgigfaiaemeaaSimPass
import Derived.Test.YtjmgigfaiaemeaaPipLaw
namespace Go.Proofs.Ytjmgigfaiaemeaa.Sim
set_option linter.unusedVariables false
set_option maxRecDepth 100000
open Go.RowKit Go.Lib Go.Proofs.Ytjmgigfaiaemeaa.Crc Go.Proofs.Ytjmgigfaiaemeaa.Grp
open Go.Proofs.Ytjmgigfaiaemeaa.Pip hiding NewR

/-- may these bytes go? -/
def goes (t : List UInt8) (now : Int) : Prop := 0 ≤ now ∧ now ≤ 1099511627776 ∧ t.length ≤ 320
theorem mayGo_yes {K : Nat → Prop} (uv : Value) (t : List UInt8) (now : Int) (w : World) (hu : RowK K w uv 1 (bcells t)) (h : goes t now) :
    Calls Try.prog 32 #[uv, .int .i64 now] w fun e w' => e = .returned (.bool true) ∧ w' = w := by
  obtain ⟨ua, n, uc, rfl, h1, h2, h3, _⟩ := hu
  rw [bcells_length, Nat.mul_one] at h1
  obtain ⟨g1, g2, g3⟩ := h
  have g4 : (n : Int) ≤ 320 := by omega
  unfold maxLen at h3
  go_enter Try.func32, Try.ntmps32
  go_wp2
  go_ret
  exact ⟨rfl, rfl⟩
theorem mayGo_no {K : Nat → Prop} (uv : Value) (t : List UInt8) (now : Int) (w : World) (hu : RowK K w uv 1 (bcells t)) (h : ¬ goes t now) :
    Calls Try.prog 32 #[uv, .int .i64 now] w fun e w' => e = .returned (.bool false) ∧ w' = w := by
  obtain ⟨ua, n, uc, rfl, h1, h2, h3, _⟩ := hu
  rw [bcells_length, Nat.mul_one] at h1
  unfold goes at h
  unfold maxLen at h3
  by_cases q1 : 0 ≤ now
  · by_cases q2 : now ≤ 1099511627776
    · have q3 : ¬ (n : Int) ≤ 320 := by omega
      clear h
      go_enter Try.func32, Try.ntmps32
      go_wp2
      go_ret
      exact ⟨rfl, rfl⟩
    · clear h
      go_enter Try.func32, Try.ntmps32
      go_wp2
      go_ret
      exact ⟨rfl, rfl⟩
  · clear h
    go_enter Try.func32, Try.ntmps32
    go_wp2
    go_ret
    exact ⟨rfl, rfl⟩

/-- where the pipes' pointers lie -/
theorem NetK.down {K : Nat → Prop} {w : World} {b : Nat} {bs : Nat → Nat} {c : Cfg} {l : List Tri} {fs : List (Int × Int)} {x : St} (h : NetK K w b bs c l fs x) :
    ∃ n gd od cap : Nat, c.1 = (n : Int) ∧ 1 ≤ n ∧ n ≤ 64 ∧ x.1.length = n + 1 ∧ w.cell? ⟨b, 2, none⟩ = some (.slice (some ⟨gd, od, none⟩) n cap) ∧ n ≤ cap ∧ cap ≤ maxLen ∧ (∀ i : Nat, i < n → w.cell? ⟨gd, od + i, none⟩ = some (.pointer (some ⟨bs i, 0, none⟩))) ∧ w.cell? ⟨b, 3, none⟩ = some (.pointer (some ⟨bs n, 0, none⟩)) := by
  obtain ⟨K2, gb, gg, gc, n, dv, fv, h⟩ := h
  obtain ⟨ao, m, cap, ev, h1, h2, h3, h4⟩ := h.2.2.2.1
  rw [fcells_length encPt, List.length_map, List.length_range, Nat.mul_one, Nat.mul_one] at h1
  subst h1
  have h0 := h.2.2.1.1.1
  obtain ⟨g, o, ea, _, hc⟩ := h4 (by omega)
  subst ea
  refine ⟨n, g, o, cap, h.1.1, h0, h.2.2.1.1.2.1, h.1.2.1, ?_, h2, h3, fun i hi => ?_, h.cells 3 _ rfl⟩
  · rw [← ev]; exact h.cells 2 dv rfl
  · refine hc i _ ?_
    have e : ((List.range n).map bs)[i]? = some (bs i) := by simp [hi]
    have := fcells_at encPt e (j := 0) (by decide)
    rw [Nat.mul_one, Nat.add_zero] at this
    rw [this]
    rfl
theorem has_net {K : Nat → Prop} {w : World} {b : Nat} {bs : Nat → Nat} {c : Cfg} {l : List Tri} {fs : List (Int × Int)} {x : St} (h : NetK K w b bs c l fs x) (r : Int) :
    Calls Try.prog 35 #[.pointer (some ⟨b, 0, none⟩), .int .i64 r] w fun e w' => e = .returned (.bool (decide (0 ≤ r) && decide (r < c.1))) ∧ w' = w := by
  obtain ⟨n, gd, od, cap, e1, _, _, _, c2, k1, k2, _, _⟩ := h.down
  rw [e1]
  unfold maxLen at k2
  clear h e1
  by_cases q1 : 0 ≤ r
  · go_enter Try.func35, Try.ntmps35
    go_wp2
    go_ret
    exact ⟨by simp [q1], rfl⟩
  · go_enter Try.func35, Try.ntmps35
    go_wp2
    go_ret
    exact ⟨by simp; omega, rfl⟩
theorem has_net_yes {K : Nat → Prop} {w : World} {b : Nat} {bs : Nat → Nat} {c : Cfg} {l : List Tri} {fs : List (Int × Int)} {x : St} (h : NetK K w b bs c l fs x) (r : Int) (h0 : 0 ≤ r) (h1 : r < c.1) :
    Calls Try.prog 35 #[.pointer (some ⟨b, 0, none⟩), .int .i64 r] w fun e w' => e = .returned (.bool true) ∧ w' = w := by
  have := has_net h r
  rwa [show (decide (0 ≤ r) && decide (r < c.1)) = true by simp; omega] at this
theorem has_net_no {K : Nat → Prop} {w : World} {b : Nat} {bs : Nat → Nat} {c : Cfg} {l : List Tri} {fs : List (Int × Int)} {x : St} (h : NetK K w b bs c l fs x) (r : Int) (h0 : r < 0 ∨ c.1 ≤ r) :
    Calls Try.prog 35 #[.pointer (some ⟨b, 0, none⟩), .int .i64 r] w fun e w' => e = .returned (.bool false) ∧ w' = w := by
  have := has_net h r
  rwa [show (decide (0 ≤ r) && decide (r < c.1)) = false by simp; omega] at this

/-- Waiting -/
theorem waiting_no {K : Nat → Prop} {w : World} {b : Nat} {bs : Nat → Nat} {c : Cfg} {l : List Tri} {fs : List (Int × Int)} {x : St} (h : NetK K w b bs c l fs x) (r : Int) (h0 : r < 0 ∨ c.1 ≤ r) :
    Calls Try.prog 24 #[.pointer (some ⟨b, 0, none⟩), .int .i64 r] w fun e w' => e = .returned (.int .i64 0) ∧ w' = w := by
  have H := hid (has_net_no h r h0)
  clear h h0
  go_enter Try.func24, Try.ntmps24
  go_wp2_with fail
  refine H.out.mono ?_
  rintro e w1 ⟨rfl, rfl⟩
  go_wp2_with fail
  go_ret
  exact ⟨rfl, rfl⟩
theorem waiting_yes {K : Nat → Prop} {w : World} {b : Nat} {bs : Nat → Nat} {c : Cfg} {l : List Tri} {fs : List (Int × Int)} {x : St} (h : NetK K w b bs c l fs x) (i : Nat) (hi : (i : Int) < c.1) :
    Calls Try.prog 24 #[.pointer (some ⟨b, 0, none⟩), .int .i64 (i : Int)] w fun e w' => e = .returned (.int .i64 ((x.1.getD i []).length : Int)) ∧ w' = w := by
  have H := hid (has_net_yes h i (by omega) hi)
  obtain ⟨n, gd, od, cap, e1, n1, n2, _, c2, k1, k2, pp, _⟩ := h.down
  have hn : i < n := by omega
  have p := pp i hn
  obtain ⟨K2, gb, gg, gc, n', dv, fv, h⟩ := h
  have en : n' = n := by have := h.1.1; omega
  obtain ⟨Ki, pk, _, _, _⟩ := h.one (i := i) (by omega)
  obtain ⟨v, ml, pu, em⟩ := pk.2
  have LN := hid (len_any (bs i) c.2.2.1 v ml w pu.1)
  have e3 : ml.length = (x.1.getD i []).length := by rw [← ord_length, ← em, List.length_map]
  rw [e3] at LN
  unfold maxLen at k2
  have i1 : (i : Int) < (n : Int) := by omega
  have i2 : (0 : Int) ≤ (i : Int) := by omega
  clear h pk pu em e3 pp hi en
  generalize (x.1.getD i []).length = L at *
  go_enter Try.func24, Try.ntmps24
  go_wp2_with fail
  refine H.out.mono ?_
  rintro e w1 ⟨rfl, rfl⟩
  go_wp2_with fail
  refine LN.out.mono ?_
  rintro e w1 ⟨rfl, rfl⟩
  go_wp2_with fail
  go_ret
  exact ⟨rfl, rfl⟩

/-- Used -/
theorem used_net {K : Nat → Prop} {w : World} {b : Nat} {bs : Nat → Nat} {c : Cfg} {l : List Tri} {fs : List (Int × Int)} {x : St} (h : NetK K w b bs c l fs x) :
    Calls Try.prog 26 #[.pointer (some ⟨b, 0, none⟩)] w fun e w' => e = .returned (.int .i64 (x.2.1 : Int)) ∧ w' = w := by
  obtain ⟨K2, gb, gg, gc, n, dv, fv, h⟩ := h
  have c5 := h.cells 5 (.int .i64 (x.2.1 : Int)) rfl
  clear h
  go_enter Try.func26, Try.ntmps26
  go_wp2
  go_ret
  exact ⟨rfl, rfl⟩
theorem size_nsts : (Try.prog.info? 54).map (·.size) = some 6 := by kernel_rfl

set_option maxHeartbeats 1000000 in
/-- Stats -/
theorem stats_net {K : Nat → Prop} {w : World} {b : Nat} {bs : Nat → Nat} {c : Cfg} {l : List Tri} {fs : List (Int × Int)} {x : St} (h : NetK K w b bs c l fs x) :
    Calls Try.prog 16 #[.pointer (some ⟨b, 0, none⟩)] w fun e w' => e = .returned (.agg (scs x.2.2)) ∧ Ext w w' := by
  obtain ⟨K2, gb, gg, gc, n, dv, fv, h⟩ := h
  obtain ⟨ls, u, s0, s1, s2, s3, s4, s5⟩ := x
  have X : Hid (Ext w (w.alloc (.cells #[.int .i64 0, .int .i64 0, .int .i64 0, .int .i64 0, .int .i64 0, .int .i64 0] 54))) := (Ext.refl w).alloc _
  have X2 : Hid (Ext w (w.alloc (.cells #[.int .i64 s0, .int .i64 s1, .int .i64 s2, .int .i64 s3, .int .i64 s4, .int .i64 s5] 54))) := (Ext.refl w).alloc _
  have c6 := X.out.cell (h.cells 6 (.int .i64 s0) rfl)
  have c7 := X.out.cell (h.cells 7 (.int .i64 s1) rfl)
  have c8 := X.out.cell (h.cells 8 (.int .i64 s2) rfl)
  have c9 := X.out.cell (h.cells 9 (.int .i64 s3) rfl)
  have c10 := X.out.cell (h.cells 10 (.int .i64 s4) rfl)
  have c11 := X.out.cell (h.cells 11 (.int .i64 s5) rfl)
  clear h
  go_enter Try.func16, Try.ntmps16
  go_wp2
  refine bodyPost_ret (results_cell_row Try.results16 _ _ w.heap.size 54 _ (0, 0) _ rfl (heap_alloc_new w _) Try.underlying54 rfl size_nsts) rfl ?_
  exact ⟨rfl, X2.out⟩

/-- a message to the sender -/
theorem up_bad {K : Nat → Prop} {w : World} {b : Nat} {bs : Nat → Nat} {c : Cfg} {l : List Tri} {fs : List (Int × Int)} {x : St} (h : NetK K w b bs c l fs x) (r : Int) (uv : Value) (t : List UInt8) (now : Int) (hu : RowK K w uv 1 (bcells t)) (hb : r < 0 ∨ c.1 ≤ r ∨ ¬ goes t now) :
    Calls Try.prog 23 #[.pointer (some ⟨b, 0, none⟩), .int .i64 r, uv, .int .i64 now] w fun e w' => e = .returned (.int .i64 11) ∧ w' = w := by
  obtain ⟨ua, un, uc, eu, _⟩ := id hu
  by_cases q : r < 0 ∨ c.1 ≤ r
  · have H := hid (has_net_no h r q)
    subst eu
    clear h hb q hu
    go_enter Try.func23, Try.ntmps23
    go_wp2_with fail
    refine H.out.mono ?_
    rintro e w1 ⟨rfl, rfl⟩
    go_wp2_with fail
    go_ret
    exact ⟨rfl, rfl⟩
  · have H := hid (has_net_yes h r (by omega) (by omega))
    have M := hid (mayGo_no uv t now w hu (hb.elim (fun h => absurd (.inl h) q) (fun h => h.elim (fun h => absurd (.inr h) q) id)))
    subst eu
    clear h hb q hu
    go_enter Try.func23, Try.ntmps23
    go_wp2_with fail
    refine H.out.mono ?_
    rintro e w1 ⟨rfl, rfl⟩
    go_wp2_with fail
    refine M.out.mono ?_
    rintro e w1 ⟨rfl, rfl⟩
    go_wp2_with fail
    go_ret
    exact ⟨rfl, rfl⟩

set_option maxHeartbeats 1000000 in
theorem up_net {K : Nat → Prop} {w : World} {b : Nat} {bs : Nat → Nat} {c : Cfg} {l : List Tri} {fs : List (Int × Int)} {x : St} (h : NetK K w b bs c l fs x) (r : Int) (n : Nat) (hn : c.1 = (n : Int)) (uv : Value) (t : List UInt8) (now : Int) (hu : RowK K w uv 1 (bcells t)) (hp : Plain uv) (h0 : 0 ≤ r) (h1 : r < c.1) (hg : goes t now) (hs : SB 800000000 x.2.2) (hfs : fs.length ≤ 1000) (hfb : ∀ f ∈ fs, -9223372036854775808 ≤ f.2 ∧ f.2 ≤ 9223372036854775807) :
    Calls Try.prog 23 #[.pointer (some ⟨b, 0, none⟩), .int .i64 r, uv, .int .i64 now] w fun e w' => e = .returned (.int .i64 0) ∧ NetK K w' b bs c l fs (gv c fs now t x n) ∧ Kept K w w' := by
  have H := hid (has_net_yes h r h0 h1)
  have M := hid (mayGo_yes uv t now w hu hg)
  obtain ⟨n', gd, od, cap, e1, n1, n2, n3, _, _, _, _, c3⟩ := h.down
  obtain rfl : n = n' := by omega
  have P := hid (npass K w b bs c l fs x h n (by omega) uv t now hu hp hg.1 hg.2.1 hg.2.2 hs hfs hfb)
  obtain ⟨ua, un, uc, eu, _⟩ := id hu
  subst eu
  clear h hu hp hg hs hfb h0 h1 hn
  go_enter Try.func23, Try.ntmps23
  go_wp2_with fail
  refine H.out.mono ?_
  rintro e w1 ⟨rfl, rfl⟩
  go_wp2_with fail
  refine M.out.mono ?_
  rintro e w1 ⟨rfl, rfl⟩
  go_wp2_with fail
  refine P.out.mono ?_
  rintro e w1 ⟨rfl, h2, k2⟩
  have R := hid h2
  have K2 := hid k2
  clear P H M h2 k2
  go_wp2_with fail
  go_ret
  exact ⟨rfl, R.out, K2.out⟩

/-- Take of no receiver, of one; TakeUp -/
theorem take_no {K : Nat → Prop} {w : World} {b : Nat} {bs : Nat → Nat} {c : Cfg} {l : List Tri} {fs : List (Int × Int)} {x : St} (h : NetK K w b bs c l fs x) (r now : Int) (h0 : r < 0 ∨ c.1 ≤ r) :
    Calls Try.prog 15 #[.pointer (some ⟨b, 0, none⟩), .int .i64 r, .int .i64 now] w fun e w' => e = .returned (.func (.func 36) #[] #[]) ∧ w' = w := by
  have H := hid (has_net_no h r h0)
  clear h h0
  go_enter Try.func15, Try.ntmps15
  go_wp2_with fail
  refine H.out.mono ?_
  rintro e w1 ⟨rfl, rfl⟩
  go_wp2_with fail
  go_ret
  exact ⟨rfl, rfl⟩
/-- what Take tells -/
def TakesAt (w : World) (p : Nat) (now : Int) (e : Ending) (w' : World) : Prop :=
  e = .returned (.func (.func 51) #[] #[.pointer (some ⟨w.heap.size, 0, none⟩), .pointer (some ⟨w.heap.size + 1, 0, none⟩)]) ∧
    w'.cell? ⟨w.heap.size, 0, none⟩ = some (.pointer (some ⟨p, 0, none⟩)) ∧ w'.cell? ⟨w.heap.size + 1, 0, none⟩ = some (.int .i64 now) ∧ w'.heap.size = w.heap.size + 2 ∧ Ext w w'

set_option maxHeartbeats 1000000 in
theorem take_net {K : Nat → Prop} {w : World} {b : Nat} {bs : Nat → Nat} {c : Cfg} {l : List Tri} {fs : List (Int × Int)} {x : St} (h : NetK K w b bs c l fs x) (i : Nat) (now : Int) (hi : (i : Int) < c.1) :
    Calls Try.prog 15 #[.pointer (some ⟨b, 0, none⟩), .int .i64 (i : Int), .int .i64 now] w fun e w' => TakesAt w (bs i) now e w' := by
  have H := hid (has_net_yes h i (by omega) hi)
  obtain ⟨n, gd, od, cap, e1, n1, n2, _, c2, k1, k2, pp, _⟩ := h.down
  have hn : i < n := by omega
  have p := pp i hn
  have T := hid (take_any (bs i) now w)
  unfold maxLen at k2
  have i1 : (i : Int) < (n : Int) := by omega
  have i2 : (0 : Int) ≤ (i : Int) := by omega
  clear h pp hi
  go_enter Try.func15, Try.ntmps15
  go_wp2_with fail
  refine H.out.mono ?_
  rintro e w1 ⟨rfl, rfl⟩
  go_wp2_with fail
  refine T.out.mono ?_
  rintro e w2 ⟨rfl, t1⟩
  have TT := hid t1
  clear T t1 H p c2
  go_wp2_with fail
  go_ret
  exact ⟨rfl, TT.out⟩
theorem takeUp_net {K : Nat → Prop} {w : World} {b : Nat} {bs : Nat → Nat} {c : Cfg} {l : List Tri} {fs : List (Int × Int)} {x : St} (h : NetK K w b bs c l fs x) (n : Nat) (now : Int) (hn : c.1 = (n : Int)) :
    Calls Try.prog 43 #[.pointer (some ⟨b, 0, none⟩), .int .i64 now] w fun e w' => TakesAt w (bs n) now e w' := by
  obtain ⟨n', gd, od, cap, e1, n1, n2, _, _, _, _, _, c3⟩ := h.down
  obtain rfl : n = n' := by omega
  have T := hid (take_any (bs n) now w)
  clear h
  go_enter Try.func43, Try.ntmps43
  go_wp2_with fail
  refine T.out.mono ?_
  rintro e w2 ⟨rfl, t1⟩
  have TT := hid t1
  clear T t1 c3
  go_wp2_with fail
  go_ret
  exact ⟨rfl, TT.out⟩
end Go.Proofs.Ytjmgigfaiaemeaa.Sim
