/-
  What BucketWindows carries from tick to tick: what was spent since the window's begin, against the rates; the rates' row; what small counts where the lengths are small.
-/
import Derived.Test.YtadgkhdjjnkfcaaBktSmall
namespace Go.Proofs.Ytadgkhdjjnkfcaa.Bkt
set_option linter.unusedVariables false
set_option maxRecDepth 100000
open Go.RowKit Go.Lib

/-! ### how many packets -/
def tot : List TkS → Nat
  | [] => 0
  | o :: l => o.2.2.length + tot l
theorem tot_append (a b : List TkS) : tot (a ++ b) = tot a + tot b := by
  induction a with
  | nil => simp [tot]
  | cons o a ih => simp only [List.cons_append, tot, ih]; omega
theorem tot_take {l : List TkS} {k : Nat} {q : TkS} (h : l[k]? = some q) : tot (l.take (k + 1)) = tot (l.take k) + q.2.2.length := by
  rw [List.take_add_one, h, tot_append]
  simp [tot]
theorem tot_part (l : List TkS) (k : Nat) : tot (l.take k) ≤ tot l := by
  have := tot_append (l.take k) (l.drop k)
  rw [List.take_append_drop] at this
  omega
theorem tot_bound {l : List TkS} {m : Nat} (h : ∀ o ∈ l, o.2.2.length ≤ m) : tot l ≤ l.length * m := by
  induction l with
  | nil => simp [tot]
  | cons o l ih =>
    have h1 := h o (by simp)
    have h2 := ih (fun q hq => h q (by simp [hq]))
    simp only [tot, List.length_cons, Nat.add_mul]
    omega
theorem smn_small : ∀ (l : List TkS) (n : Int), 0 ≤ n → n + tot l ≤ 9223372036854775807 → smn n l = n + tot l
  | [], n, _, _ => by simp [smn, tot]
  | o :: l, n, h0, h1 => by
    simp only [tot] at h1 ⊢
    have e : smn n (o :: l) = smn (isum n o.2.2.length) l := rfl
    rw [e, isum_in (by unfold Nm; omega), smn_small l _ (by omega) (by omega)]
    omega
/-- where the lengths are small: few packets -/
theorem few {l : List TkS} (hN : l.length ≤ 1048576) (hL : ∀ o ∈ l, o.2.2.length ≤ 1048576) : decide (smn l.length l ≤ 300) = decide (l.length + tot l ≤ 300) := by
  have h1 := tot_bound hL
  have h2 : l.length * 1048576 ≤ 1048576 * 1048576 := Nat.mul_le_mul_right _ hN
  rw [smn_small l _ (by omega) (by omega)]
  exact decide_eq_decide.2 ⟨fun h => by omega, fun h => by omega⟩

/-! ### rates, added -/
def lsum : List Int → Int
  | [] => 0
  | x :: l => x + lsum l
theorem lsum_snoc (l : List Int) (x : Int) : lsum (l ++ [x]) = lsum l + x := by
  induction l with
  | nil => simp [lsum]
  | cons y l ih => simp only [List.cons_append, lsum, ih]; omega
theorem msum_top : ∀ l : List Int, (∀ x ∈ l, Wd x) → msum 18446744073709551615 l = 18446744073709551615
  | [], _ => rfl
  | x :: l, h => by
    have hx := h x (by simp)
    have e : msum 18446744073709551615 (x :: l) = msum (wadd 18446744073709551615 x) l := rfl
    have e2 : wadd 18446744073709551615 x = 18446744073709551615 := by
      unfold wadd Wd at *
      split <;> omega
    rw [e, e2]
    exact msum_top l (fun y hy => h y (by simp [hy]))
/-- the whole sum, or the greatest number -/
theorem msum_is : ∀ (l : List Int) (a : Int), (∀ x ∈ l, Wd x) → msum a l = 18446744073709551615 ∨ msum a l = a + lsum l
  | [], a, _ => .inr (by simp [msum, lsum])
  | x :: l, a, h => by
    have e : msum a (x :: l) = msum (wadd a x) l := rfl
    have hl : ∀ y ∈ l, Wd y := fun y hy => h y (by simp [hy])
    rw [e]
    by_cases q : 18446744073709551615 - x < a
    · rw [show wadd a x = 18446744073709551615 from if_pos q]
      exact .inl (msum_top l hl)
    · rw [show wadd a x = a + x from if_neg q]
      rcases msum_is l (a + x) hl with h1 | h1
      · exact .inl h1
      · exact .inr (by rw [h1, lsum]; omega)

/-! ### from tick to tick -/
/-- ahead of tick k, q packets tried: tokens a, spent c, spent at the window's begin g, the window's rates rl -/
def Inv (n : Int) (f k q : Nat) (a c g : Int) (rl : List Int) : Prop :=
  ((0 ≤ a ∧ a ≤ n * 4294967296) ∧ 0 ≤ c ∧ c ≤ 320 * (q : Int)) ∧ (rl.length ≤ k ∧ ∀ x ∈ rl, Wd x) ∧ (k ≤ f → rl = []) ∧ (f < k → 0 ≤ g ∧ g ≤ c ∧ (c - g) * 4294967296 + a ≤ n * 4294967296 + lsum rl)
/-- within tick k, behind q packets -/
def Mid (n : Int) (f k q : Nat) (a c g : Int) (rl : List Int) : Prop :=
  (0 ≤ a ∧ 0 ≤ c ∧ c ≤ 320 * (q : Int)) ∧ (rl.length ≤ k + 1 ∧ ∀ x ∈ rl, Wd x) ∧ (k < f → rl = []) ∧ (f ≤ k → 0 ≤ g ∧ g ≤ c ∧ (c - g) * 4294967296 + a ≤ n * 4294967296 + lsum rl)
theorem inv_begin {n : Int} (h : 1 ≤ n) (f : Nat) : Inv n f 0 0 0 0 0 [] :=
  ⟨⟨⟨by omega, by omega⟩, by omega, by omega⟩, ⟨by simp, fun x hx => by simp at hx⟩, fun _ => rfl, fun h => by omega⟩
theorem wadd_low {a r : Int} (h : 0 ≤ a) (hr : Wd r) : 0 ≤ wadd a r ∧ wadd a r ≤ a + r := by
  unfold wadd Wd at *
  split <;> omega
theorem mid_before {n : Int} {f k q : Nat} {a c g r : Int} {rl : List Int} (h : Inv n f k q a c g rl) (hr : Wd r) (hk : k < f) : Mid n f k q (wadd a r) c g rl := by
  obtain ⟨⟨⟨h1, h2⟩, h3, h4⟩, ⟨h5, h6⟩, h7, -⟩ := h
  have w1 := wadd_low h1 hr
  exact ⟨⟨w1.1, h3, h4⟩, ⟨by omega, h6⟩, fun _ => h7 (by omega), fun _ => by omega⟩
theorem mid_at {n : Int} {f q : Nat} {a c g r : Int} {rl : List Int} (h : Inv n f f q a c g rl) (hr : Wd r) : Mid n f f q (wadd a r) c c (rl ++ [r]) := by
  obtain ⟨⟨⟨h1, h2⟩, h3, h4⟩, ⟨h5, h6⟩, h7, -⟩ := h
  have w1 := wadd_low h1 hr
  have e := h7 (Nat.le_refl _)
  subst e
  exact ⟨⟨w1.1, h3, h4⟩, ⟨by simp, fun x hx => by simp at hx; subst hx; exact hr⟩, fun _ => by omega, fun _ => ⟨h3, Int.le_refl _, by simp only [List.nil_append, lsum]; omega⟩⟩
theorem mid_after {n : Int} {f k q : Nat} {a c g r : Int} {rl : List Int} (h : Inv n f k q a c g rl) (hr : Wd r) (hk : f < k) : Mid n f k q (wadd a r) c g (rl ++ [r]) := by
  obtain ⟨⟨⟨h1, h2⟩, h3, h4⟩, ⟨h5, h6⟩, -, h8⟩ := h
  have w1 := wadd_low h1 hr
  obtain ⟨g1, g2, g3⟩ := h8 hk
  refine ⟨⟨w1.1, h3, h4⟩, ⟨by simp; omega, fun x hx => ?_⟩, fun _ => by omega, fun _ => ⟨g1, g2, by rw [lsum_snoc]; omega⟩⟩
  rcases List.mem_append.1 hx with e | e
  · exact h6 x e
  · simp at e; subst e; exact hr
theorem mid_spend {n : Int} {f k q : Nat} {a c g m : Int} {rl : List Int} (h : Mid n f k q a c g rl) (hn : n ≤ 320) (hq : q ≤ 300) (cn : Can (n, a, c) m) : isum c m = c + m ∧ Mid n f k (q + 1) (a - m * 4294967296) (c + m) g rl := by
  obtain ⟨⟨h1, h3, h4⟩, h6, h7, h8⟩ := h
  obtain ⟨c1, c2, c3⟩ := cn
  simp only at c2 c3
  refine ⟨isum_in (by unfold Nm; omega), ⟨by omega, by omega, by omega⟩, h6, h7, fun hk => ?_⟩
  obtain ⟨g1, g2, g3⟩ := h8 hk
  exact ⟨g1, by omega, by omega⟩
theorem mid_skip {n : Int} {f k q : Nat} {a c g : Int} {rl : List Int} (h : Mid n f k q a c g rl) : Mid n f k (q + 1) a c g rl := by
  obtain ⟨⟨h1, h3, h4⟩, h6, h7, h8⟩ := h
  exact ⟨⟨h1, h3, by omega⟩, h6, h7, h8⟩
theorem mid_end {n : Int} {f k q : Nat} {a c g : Int} {rl : List Int} (h : Mid n f k q a c g rl) (hn : 1 ≤ n) : Inv n f (k + 1) q (cap (n * 4294967296) a) c g rl := by
  obtain ⟨⟨h1, h3, h4⟩, h6, h7, h8⟩ := h
  have w1 : 0 ≤ cap (n * 4294967296) a ∧ cap (n * 4294967296) a ≤ n * 4294967296 ∧ cap (n * 4294967296) a ≤ a := by
    unfold cap
    split <;> omega
  refine ⟨⟨⟨w1.1, w1.2.1⟩, h3, h4⟩, h6, fun hk => h7 (by omega), fun hk => ?_⟩
  obtain ⟨g1, g2, g3⟩ := h8 (by omega)
  exact ⟨g1, g2, by omega⟩
theorem inv_most {n : Int} {f k q : Nat} {a c g : Int} {rl : List Int} (h : Inv n f k q a c g rl) (hk : f < k) (hq : q ≤ 300) (h0 : 0 ≤ n) : (0 ≤ c - g ∧ c - g ≤ 96000) ∧ c - g ≤ msum (n * 4294967296) rl / 4294967296 := by
  obtain ⟨⟨⟨h1, h2⟩, h3, h4⟩, ⟨h5, h6⟩, -, h8⟩ := h
  obtain ⟨g1, g2, g3⟩ := h8 hk
  refine ⟨⟨by omega, by omega⟩, ?_⟩
  rcases msum_is rl (n * 4294967296) h6 with e | e
  · rw [e]; omega
  · rw [e]; omega

/-! ### the rates' row -/
theorem elemsF : Elems 45 30 1 8 (.int .u64 0) := ⟨Try.underlying45, by kernel_rfl, rfl, by decide⟩
abbrev Rts (w wr : World) (v : Value) (l : List Int) : Prop := NewR ru 30 1 w wr v l
/-- the bucket is written: the row stays -/
theorem rts_wrote {w wr w' : World} {b : Nat} {s : BS} {v : Value} {l : List Int} (h : Rts w wr v l) (p : PlS w b wr s) (k : Kept (fun q => q ≠ b) wr w') : Rts w w' v l :=
  ⟨h.1.kept k (fun g hg e => h.1.apart p.1.2 (by decide) (e ▸ hg)), h.2.1, ext_kept h.2.2 k p.2.2⟩
/-- a rate is put behind the row: the bucket stays, the tick's box too -/
theorem rts_put {w wr : World} {b p : Nat} {s : BS} {v : Value} {l : List Int} {u : Array Value} (h : Rts w wr v l) (P : PlS w b wr s) (hp : wr.heap[p]? = some (.cells u 33 (0, 0))) (x : Int) (hl : l.length ≤ 90000) :
    ∃ v' w', (Builtin.append_ #[45, 45] 45 #[v, .slice (some ⟨wr.heap.size, 0, none⟩) 1 1]).run Try.prog (wr.alloc (.cells #[.int .u64 x] 30)) = .ok v' w' ∧ Rts w w' v' (l ++ [x]) ∧ PlS w b w' s ∧ w'.heap[p]? = some (.cells u 33 (0, 0)) := by
  obtain ⟨v', w', r, N', gb⟩ := h.step elemsF encU 45 x hl
  have A := (Ext.refl wr).alloc (.cells (ru x).toArray 30)
  have n1 : v.ownBlock ≠ some b := h.1.apart P.1.2 (by decide)
  have n2 : v.ownBlock ≠ some p := h.1.apart hp (by decide)
  have KK : Kept (fun i => i = b ∨ i = p) wr w' := (Kept.of_ext A).grown gb (fun q e h => by
    rcases h with rfl | rfl
    · exact n1 e
    · exact n2 e)
  exact ⟨v', w', r, N', ⟨P.1.kept KK (.inl rfl), N'.2.2, P.2.2⟩, KK.row (.inr rfl) hp⟩

/-- a window that came in: a size, ticks, from, to -/
def WindowIn (w : World) (v : Value) (z : Int × Value × List TkS × Int × Int) : Prop := v = .agg #[.int .i64 z.1, z.2.1, .int .i64 z.2.2.2.1, .int .i64 z.2.2.2.2] ∧ TicksIn w z.2.1 z.2.2.1
end Go.Proofs.Ytadgkhdjjnkfcaa.Bkt
