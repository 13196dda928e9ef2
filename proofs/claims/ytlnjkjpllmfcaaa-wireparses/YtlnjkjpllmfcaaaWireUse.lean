/-
  What a field's functions do, whatever field it is; packets as Equal sees them.
-/
import Derived.Test.YtlnjkjpllmfcaaaWireEqual
namespace Go.Proofs.Ytlnjkjpllmfcaaa
set_option linter.unusedVariables false
set_option maxRecDepth 100000
open Go.RowKit Go.Lib

/-- a field got off a reader: the packet with it, and what is left -/
def gotc : Nat → Pk → List UInt8 × Bool → Pk × List UInt8 × Bool
  | 70, p, x => (setn p 1 (i64 (took 8 x).1), (took 8 x).2)
  | 76, p, x => (setn p 2 (i64 (took 8 x).1), (took 8 x).2)
  | 66, p, x => (setn p 4 (i64 (took 8 x).1), (took 8 x).2)
  | 84, p, x => (setn p 5 (i64 (took 8 x).1), (took 8 x).2)
  | 69, p, x => (setn p 6 (i64 (took 8 x).1), (took 8 x).2)
  | 86, p, x => (setn p 7 (i64 (took 8 x).1), (took 8 x).2)
  | 78, p, x => (setn p 8 (i64 (took 8 x).1), (took 8 x).2)
  | 83, p, x => (setn p 3 ((took 4 x).1 : Int), (took 4 x).2)
  | 82, p, x => (setn p 9 ((took 8 x).1 : Int), (took 8 x).2)
  | 65, p, x => (setA p (runs oneA (took 1 x).1 (took 1 x).2).1, (runs oneA (took 1 x).1 (took 1 x).2).2)
  | 71, p, x => (setG p (runs pairOf (took 1 x).1 (took 1 x).2).1, (runs pairOf (took 1 x).1 (took 1 x).2).2)
  | 68, p, x => (setD p (runs oneD (took 1 x).1 (took 1 x).2).1, (runs oneD (took 1 x).1 (took 1 x).2).2)
  | _, p, x => (p, x)
theorem num_gotc {c pf i : Nat} {top : Int} (h : IsNum c pf i top) (p : Pk) (x : List UInt8 × Bool) : gotc c p x = (setn p i (i64 (took 8 x).1), (took 8 x).2) := by
  rcases h with ⟨rfl, _, rfl, _⟩ | ⟨rfl, _, rfl, _⟩ | ⟨rfl, _, rfl, _⟩ | ⟨rfl, _, rfl, _⟩ | ⟨rfl, _, rfl, _⟩ | ⟨rfl, _, rfl, _⟩ | ⟨rfl, _, rfl, _⟩ <;> rfl

/-- a function value that answers so, called with these arguments -/
def FV (v : Value) (args : Array Value) (w : World) (Q : Ending → World → Prop) : Prop := ∃ f cap, v = .func (.func f) #[] cap ∧ Entered f ∧ Calls Try.prog f (args ++ cap) w Q

theorem FieldAt.puts {K : Nat → Prop} {w : World} {c : Nat} {vp vg vf vd : Value} (h : FieldAt K w c vp vg vf vd) (gp gw : Nat) (p : Pk) (l : List UInt8) (hp : PAt K w gp p) (hf : fine p) (hd : slim p) (hw : Wr K w gw l) (hl : l.length ≤ 1000) : FV vp #[ptr gp, ptr gw] w fun e w' => e = .returned (.tuple #[]) ∧ Wr K w' gw (l ++ enc c p) ∧ Kept K w w' := by
  rcases h with ⟨pf, i, top, pb, tb, hn, rfl, rfl, rfl, rfl, k1, k2, b1, b2⟩ | ⟨rfl, rfl, rfl, rfl, rfl⟩ | ⟨rfl, rfl, rfl, rfl, rfl⟩ | ⟨rfl, rfl, rfl, rfl, rfl⟩ | ⟨rfl, rfl, rfl, rfl, rfl⟩ | ⟨rfl, rfl, rfl, rfl, rfl⟩
  · exact ⟨_, _, rfl, (entered_of Try.func95 (by kernel_rfl) (by kernel_rfl)), put_num hn K w gp gw pb p l hp b1 hw hl⟩
  · exact ⟨_, _, rfl, (entered_of Try.func53 (by kernel_rfl) (by kernel_rfl)), put_seq K w gp gw p l hp hf hw hl⟩
  · exact ⟨_, _, rfl, (entered_of Try.func68 (by kernel_rfl) (by kernel_rfl)), put_rate K w gp gw p l hp hf hw hl⟩
  · exact ⟨_, _, rfl, (entered_of Try.func74 (by kernel_rfl) (by kernel_rfl)), put_rates K w gp gw p l hp hd.1 hw hl⟩
  · exact ⟨_, _, rfl, (entered_of Try.func84 (by kernel_rfl) (by kernel_rfl)), put_ranges K w gp gw p l hp hd.2.1 hw hl⟩
  · exact ⟨_, _, rfl, (entered_of Try.func61 (by kernel_rfl) (by kernel_rfl)), put_data K w gp gw p l hp hd.2.2 hw hl⟩

theorem FieldAt.gets {K : Nat → Prop} {w : World} {c : Nat} {vp vg vf vd : Value} (h : FieldAt K w c vp vg vf vd) (M : Nat → Prop) (gp gr b : Nat) (p : Pk) (x : List UInt8 × Bool) (hp : PAt M w gp p) (hM : ∀ i, M i → K i) (hk : ¬ K gp) (hne : gr ≠ gp) (hr : Rd K w gr b x.1 x.2) : FV vg #[ptr gp, ptr gr] w fun e w' => e = .returned (.tuple #[]) ∧ Got K M w w' gp gr b (gotc c p x).1 (gotc c p x).2 := by
  rcases h with ⟨pf, i, top, pb, tb, hn, rfl, rfl, rfl, rfl, k1, k2, b1, b2⟩ | ⟨rfl, rfl, rfl, rfl, rfl⟩ | ⟨rfl, rfl, rfl, rfl, rfl⟩ | ⟨rfl, rfl, rfl, rfl, rfl⟩ | ⟨rfl, rfl, rfl, rfl, rfl⟩ | ⟨rfl, rfl, rfl, rfl, rfl⟩
  · exact ⟨_, _, rfl, (entered_of Try.func97 (by kernel_rfl) (by kernel_rfl)), by rw [num_gotc hn]; exact get_num hn K M w gp gr b pb p x.1 x.2 hp hM hk hne b1 hr⟩
  · exact ⟨_, _, rfl, (entered_of Try.func55 (by kernel_rfl) (by kernel_rfl)), get_seq K M w gp gr b p x.1 x.2 hp hM hk hne hr⟩
  · exact ⟨_, _, rfl, (entered_of Try.func70 (by kernel_rfl) (by kernel_rfl)), get_rate K M w gp gr b p x.1 x.2 hp hM hk hne hr⟩
  · exact ⟨_, _, rfl, (entered_of Try.func76 (by kernel_rfl) (by kernel_rfl)), get_rates K M w gp gr b p x.1 x.2 hp hM hk hne hr⟩
  · exact ⟨_, _, rfl, (entered_of Try.func87 (by kernel_rfl) (by kernel_rfl)), get_ranges K M w gp gr b p x.1 x.2 hp hM hk hne hr⟩
  · exact ⟨_, _, rfl, (entered_of Try.func63 (by kernel_rfl) (by kernel_rfl)), get_data K M w gp gr b p x.1 x.2 hp hM hk hne hr⟩

theorem FieldAt.fitted {K : Nat → Prop} {w : World} {c : Nat} {vp vg vf vd : Value} (h : FieldAt K w c vp vg vf vd) (gp : Nat) (p : Pk) (hp : PAt K w gp p) (hd : p.2.2.1.length ≤ 1000) : FV vf #[ptr gp] w fun e w' => e = .returned (.bool (fits c p)) ∧ Ext w w' := by
  rcases h with ⟨pf, i, top, pb, tb, hn, rfl, rfl, rfl, rfl, k1, k2, b1, b2⟩ | ⟨rfl, rfl, rfl, rfl, rfl⟩ | ⟨rfl, rfl, rfl, rfl, rfl⟩ | ⟨rfl, rfl, rfl, rfl, rfl⟩ | ⟨rfl, rfl, rfl, rfl, rfl⟩ | ⟨rfl, rfl, rfl, rfl, rfl⟩
  · exact ⟨_, _, rfl, (entered_of Try.func99 (by kernel_rfl) (by kernel_rfl)), fits_num hn K w gp pb tb p hp b1 b2⟩
  · exact ⟨_, _, rfl, (entered_of Try.func57 (by kernel_rfl) (by kernel_rfl)), fits_seq w gp p⟩
  · exact ⟨_, _, rfl, (entered_of Try.func72 (by kernel_rfl) (by kernel_rfl)), fits_rate w gp p⟩
  · exact ⟨_, _, rfl, (entered_of Try.func78 (by kernel_rfl) (by kernel_rfl)), fits_rates K w gp p hp⟩
  · exact ⟨_, _, rfl, (entered_of Try.func90 (by kernel_rfl) (by kernel_rfl)), fits_ranges K w gp p hp (by omega)⟩
  · exact ⟨_, _, rfl, (entered_of Try.func65 (by kernel_rfl) (by kernel_rfl)), fits_data K w gp p hp⟩

theorem FieldAt.drops {K : Nat → Prop} {w : World} {c : Nat} {vp vg vf vd : Value} (h : FieldAt K w c vp vg vf vd) (gp : Nat) (p : Pk) (hp : PAt K w gp p) (hk : ¬ K gp) : FV vd #[ptr gp] w fun e w' => e = .returned (.tuple #[]) ∧ PAt K w' gp (drop c p) ∧ Kept (fun i => i ≠ gp) w w' := by
  rcases h with ⟨pf, i, top, pb, tb, hn, rfl, rfl, rfl, rfl, k1, k2, b1, b2⟩ | ⟨rfl, rfl, rfl, rfl, rfl⟩ | ⟨rfl, rfl, rfl, rfl, rfl⟩ | ⟨rfl, rfl, rfl, rfl, rfl⟩ | ⟨rfl, rfl, rfl, rfl, rfl⟩ | ⟨rfl, rfl, rfl, rfl, rfl⟩
  · exact ⟨_, _, rfl, (entered_of Try.func100 (by kernel_rfl) (by kernel_rfl)), drop_num hn K w gp pb p hp hk b1⟩
  · exact ⟨_, _, rfl, (entered_of Try.func58 (by kernel_rfl) (by kernel_rfl)), drop_seq K w gp p hp hk⟩
  · exact ⟨_, _, rfl, (entered_of Try.func73 (by kernel_rfl) (by kernel_rfl)), drop_rate K w gp p hp hk⟩
  · exact ⟨_, _, rfl, (entered_of Try.func79 (by kernel_rfl) (by kernel_rfl)), drop_rates K w gp p hp hk⟩
  · exact ⟨_, _, rfl, (entered_of Try.func92 (by kernel_rfl) (by kernel_rfl)), drop_ranges K w gp p hp hk⟩
  · exact ⟨_, _, rfl, (entered_of Try.func67 (by kernel_rfl) (by kernel_rfl)), drop_data K w gp p hp hk⟩

/-- numbers that their kinds hold -/
def bnd (p : Pk) : Prop := fine p ∧ (∀ i, i < 9 → -9223372036854775808 ≤ p.1 i ∧ p.1 i < 9223372036854775808)
theorem wrap_inj {x y : Int} (hx : -9223372036854775808 ≤ x ∧ x < 9223372036854775808) (hy : -9223372036854775808 ≤ y ∧ y < 9223372036854775808) : IntKind.u64.wrap x = IntKind.u64.wrap y ↔ x = y := by
  show x % 18446744073709551616 = y % 18446744073709551616 ↔ _
  omega
theorem sameB_iff {p q : Pk} (hp : bnd p) (hq : bnd q) : sameB p q = true ↔ same p q := by
  have w := fun i (h : i < 9) => wrap_inj (hp.2 i h) (hq.2 i h)
  simp only [sameB, nlist, same, Bool.and_eq_true, beq_iff_eq, List.cons.injEq, and_true, w 0 (by decide), w 1 (by decide), w 2 (by decide), w 3 (by decide), w 4 (by decide), w 5 (by decide), w 6 (by decide), w 7 (by decide), w 8 (by decide)]
theorem bnd_none : bnd pnone := ⟨⟨by simp [pnone], by simp [pnone], by simp [pnone], by simp [pnone]⟩, fun i _ => by simp [pnone]⟩
theorem bnd_setn {p : Pk} (h : bnd p) (i : Nat) : bnd (setn p i 0) := by
  obtain ⟨⟨a, b, c, d⟩, e⟩ := h
  refine ⟨⟨?_, ?_, ?_, ?_⟩, fun j hj => ?_⟩
  · simp only [setn]; split <;> omega
  · simp only [setn]; split <;> omega
  · simp only [setn]; split <;> omega
  · simp only [setn]; split <;> omega
  · have := e j hj; simp only [setn]; split <;> omega
theorem bnd_drop {c : Nat} (hc : c ∈ codes) {p : Pk} (h : bnd p) : bnd (drop c p) := by
  rcases codes_cases hc with rfl | rfl | rfl | rfl | rfl | rfl | rfl | rfl | rfl | rfl | rfl | rfl
  case inr.inr.inr.inr.inr.inr.inr.inr.inr.inl | inr.inr.inr.inr.inr.inr.inr.inr.inr.inr.inl | inr.inr.inr.inr.inr.inr.inr.inr.inr.inr.inr => exact h
  all_goals exact bnd_setn h _
theorem slim_drop {c : Nat} (hc : c ∈ codes) {p : Pk} (h : slim p) : slim (drop c p) := by
  obtain ⟨a, b, d⟩ := h
  rcases codes_cases hc with rfl | rfl | rfl | rfl | rfl | rfl | rfl | rfl | rfl | rfl | rfl | rfl <;> simp [drop, setn, setA, setG, setD, slim, a, b, d]
theorem bnd_dropped : ∀ (cs : List Nat), (∀ c ∈ cs, c ∈ codes) → ∀ (p : Pk), bnd p → bnd (dropped cs p)
  | [], _, _, h => h
  | c :: cs, hc, p, h => bnd_dropped cs (fun d hd => hc d (by simp [hd])) (drop c p) (bnd_drop (hc c (by simp)) h)
theorem slim_dropped : ∀ (cs : List Nat), (∀ c ∈ cs, c ∈ codes) → ∀ (p : Pk), slim p → slim (dropped cs p)
  | [], _, _, h => h
  | c :: cs, hc, p, h => slim_dropped cs (fun d hd => hc d (by simp [hd])) (drop c p) (slim_drop (hc c (by simp)) h)
theorem take_snocN (l : List Nat) (k : Nat) (h : k < l.length) : l.take (k + 1) = l.take k ++ [l.getD k 0] := by
  rw [List.take_succ_eq_append_getElem h, List.getD_eq_getElem?_getD, List.getElem?_eq_getElem h]
  rfl
theorem getD_memN (l : List Nat) (k : Nat) (h : k < l.length) : l.getD k 0 ∈ l := by
  rw [List.getD_eq_getElem?_getD, List.getElem?_eq_getElem h]; exact List.getElem_mem h
theorem drop_getN (l : List Nat) (k : Nat) (h : k < l.length) : l.drop k = l.getD k 0 :: l.drop (k + 1) := by
  rw [List.getD_eq_getElem?_getD, List.getElem?_eq_getElem h, List.drop_eq_getElem_cons h]
  rfl

/-- reading so many things of m bytes each: all of them, or short -/
theorem runs_ok {α : Type} (f : List UInt8 × Bool → α × List UInt8 × Bool) (g : List UInt8 → α) (m : Nat) (hok : ∀ l, m ≤ l.length → f (l, false) = (g l, l.drop m, false)) (l : List UInt8) :
    ∀ n, m * n ≤ l.length → runs f n (l, false) = ((List.range n).map (fun k => g (l.drop (m * k))), l.drop (m * n), false)
  | 0, _ => by simp [runs]
  | n + 1, h => by
    have hn : m * (n + 1) = m * n + m := Nat.mul_succ m n
    have ih := runs_ok f g m hok l n (by omega)
    have h1 := hok (l.drop (m * n)) (by rw [List.length_drop]; omega)
    simp only [runs, ih, h1, List.range_succ, List.map_append, List.map_cons, List.map_nil, List.drop_drop, hn]
theorem runs_short {α : Type} (f : List UInt8 × Bool → α × List UInt8 × Bool) (g : List UInt8 → α) (m : Nat) (hok : ∀ l, m ≤ l.length → f (l, false) = (g l, l.drop m, false)) (hsh : ∀ l, l.length < m → (f (l, false)).2.2 = true) (hst : ∀ l, (f (l, true)).2.2 = true) (l : List UInt8) :
    ∀ n, l.length < m * n → (runs f n (l, false)).2.2 = true
  | 0, h => by simp at h
  | n + 1, h => by
    have hn : m * (n + 1) = m * n + m := Nat.mul_succ m n
    by_cases t : l.length < m * n
    · have ih := runs_short f g m hok hsh hst l n t
      have e : (runs f n (l, false)).2 = ((runs f n (l, false)).2.1, true) := Prod.ext rfl ih
      show (f (runs f n (l, false)).2).2.2 = true
      rw [e]
      exact hst _
    · have ih := runs_ok f g m hok l n (by omega)
      show (f (runs f n (l, false)).2).2.2 = true
      rw [ih]
      exact hsh _ (by rw [List.length_drop]; omega)
theorem took_ok (n : Nat) (l : List UInt8) (s : Bool) (h : n ≤ l.length) : took n (l, s) = (ofle (l.take n), l.drop n, s) := by unfold took; rw [if_neg (by show ¬ l.length < n; omega)]
theorem took_no (n : Nat) (l : List UInt8) (s : Bool) (h : l.length < n) : took n (l, s) = (0, l, true) := by unfold took; rw [if_pos h]
theorem took_true (n : Nat) (l : List UInt8) : (took n (l, true)).2.2 = true := by unfold took; split <;> rfl

theorem unA_map (n : Nat) : ∀ l : List UInt8, unA n l = (List.range n).map (fun k => UInt64.ofNat (ofle ((l.drop (8 * k)).take 8))) := by
  induction n with
  | zero => intro l; rfl
  | succ n ih =>
    intro l
    rw [unA, ih, List.range_succ_eq_map, List.map_cons, List.map_map, Nat.mul_zero, List.drop_zero]
    congr 1
    apply List.map_congr_left
    intro k _
    simp only [Function.comp, List.drop_drop, Nat.mul_succ, Nat.add_comm]
theorem unG_map (n : Nat) : ∀ l : List UInt8, unG n l = (List.range n).map (fun k => (i64 (ofle ((l.drop (16 * k)).take 8)), i64 (ofle (((l.drop (16 * k)).drop 8).take 8)))) := by
  induction n with
  | zero => intro l; rfl
  | succ n ih =>
    intro l
    rw [unG, ih, List.range_succ_eq_map, List.map_cons, List.map_map, Nat.mul_zero, List.drop_zero]
    congr 1
    apply List.map_congr_left
    intro k _
    simp only [Function.comp, List.drop_drop, Nat.mul_succ, Nat.add_comm]
theorem takeD_map (n : Nat) : ∀ l : List UInt8, n ≤ l.length → l.take n = (List.range n).map (fun k => (l.drop (1 * k)).getD 0 0) := by
  induction n with
  | zero => intro l _; simp
  | succ n ih =>
    intro l h
    rw [List.range_succ, List.map_append, ← ih l (by omega), take_snoc l n (by omega)]
    simp [List.getD_eq_getElem?_getD, List.getElem?_drop]

theorem oneD_ok (l : List UInt8) (h : 1 ≤ l.length) : oneD (l, false) = (l.getD 0 0, l.drop 1, false) := by
  unfold oneD
  rw [took_ok 1 l false h]
  cases l with
  | nil => simp at h
  | cons b t => simp [ofle]
theorem oneA_ok (l : List UInt8) (h : 8 ≤ l.length) : oneA (l, false) = (UInt64.ofNat (ofle (l.take 8)), l.drop 8, false) := by
  unfold oneA
  rw [took_ok 8 l false h]
theorem pairOf_ok (l : List UInt8) (h : 16 ≤ l.length) : pairOf (l, false) = ((i64 (ofle (l.take 8)), i64 (ofle ((l.drop 8).take 8))), l.drop 16, false) := by
  unfold pairOf
  rw [took_ok 8 l false (by omega)]
  simp only
  rw [took_ok 8 (l.drop 8) false (by rw [List.length_drop]; omega), List.drop_drop]
theorem pairOf_short (l : List UInt8) (h : l.length < 16) : (pairOf (l, false)).2.2 = true := by
  unfold pairOf
  by_cases t : l.length < 8
  · rw [took_no 8 l false t]; exact took_true 8 _
  · rw [took_ok 8 l false (by omega), took_no 8 (l.drop 8) false (by rw [List.length_drop]; omega)]
theorem pairOf_true (l : List UInt8) : (pairOf (l, true)).2.2 = true := by
  unfold pairOf
  have h := took_true 8 l
  have e : (took 8 (l, true)).2 = ((took 8 (l, true)).2.1, true) := Prod.ext rfl h
  rw [e]
  exact took_true 8 _

theorem runs_true {α : Type} (f : List UInt8 × Bool → α × List UInt8 × Bool) (hst : ∀ l, (f (l, true)).2.2 = true) (l : List UInt8) : ∀ n, (runs f n (l, true)).2.2 = true
  | 0 => rfl
  | n + 1 => by
    have ih := runs_true f hst l n
    have e : (runs f n (l, true)).2 = ((runs f n (l, true)).2.1, true) := Prod.ext rfl ih
    show (f (runs f n (l, true)).2).2.2 = true
    rw [e]
    exact hst _

theorem head_ofle (l : List UInt8) (h : 1 ≤ l.length) : ofle (l.take 1) = (l.getD 0 0).toNat := by
  cases l with
  | nil => simp at h
  | cons b t => simp [ofle]

/-- a reader that did not fall short got what the bytes say; else they end within the field -/
theorem gotc_get {c : Nat} (hc : c ∈ codes) (p : Pk) (l : List UInt8) : (get c p l = none ∧ (gotc c p (l, false)).2.2 = true) ∨ ∃ q t, get c p l = some (q, t) ∧ gotc c p (l, false) = (q, t, false) := by
  have num : ∀ i, (getn i p l = none ∧ (took 8 (l, false)).2.2 = true) ∨ ∃ q t, getn i p l = some (q, t) ∧ ((setn p i (i64 (took 8 (l, false)).1), (took 8 (l, false)).2) : Pk × List UInt8 × Bool) = (q, t, false) := by
    intro i
    unfold getn
    by_cases t : l.length < 8
    · rw [if_pos t, took_no 8 l false t]; exact .inl ⟨rfl, rfl⟩
    · rw [if_neg t, took_ok 8 l false (by omega)]; exact .inr ⟨_, _, rfl, rfl⟩
  have lists : ∀ {α : Type} (f : List UInt8 × Bool → α × List UInt8 × Bool) (g : List UInt8 → α) (m : Nat) (un : Nat → List UInt8 → List α) (set : Pk → List α → Pk) (hok : ∀ l, m ≤ l.length → f (l, false) = (g l, l.drop m, false)) (hsh : ∀ l, l.length < m → (f (l, false)).2.2 = true) (hst : ∀ l, (f (l, true)).2.2 = true) (hun : ∀ n l, m * n ≤ l.length → un n l = (List.range n).map (fun k => g (l.drop (m * k)))) (G : Option (Pk × List UInt8)) (hG : G = if l.length < 1 then none else if (l.drop 1).length < m * (l.getD 0 0).toNat then none else some (set p (un (l.getD 0 0).toNat (l.drop 1)), (l.drop 1).drop (m * (l.getD 0 0).toNat))),
      (G = none ∧ (runs f (took 1 (l, false)).1 (took 1 (l, false)).2).2.2 = true) ∨ ∃ q t, G = some (q, t) ∧ ((set p (runs f (took 1 (l, false)).1 (took 1 (l, false)).2).1, (runs f (took 1 (l, false)).1 (took 1 (l, false)).2).2) : Pk × List UInt8 × Bool) = (q, t, false) := by
    intro α f g m un set hok hsh hst hun G hG
    subst hG
    by_cases t : l.length < 1
    · rw [if_pos t, took_no 1 l false t]; exact .inl ⟨rfl, runs_true f hst l 0⟩
    · rw [if_neg t, took_ok 1 l false (by omega), head_ofle l (by omega)]
      by_cases t2 : (l.drop 1).length < m * (l.getD 0 0).toNat
      · rw [if_pos t2]; exact .inl ⟨rfl, runs_short f g m hok hsh hst _ _ t2⟩
      · rw [if_neg t2, hun _ _ (by omega)]
        simp only
        rw [runs_ok f g m hok _ _ (by omega)]
        exact .inr ⟨_, _, rfl, rfl⟩
  rcases codes_cases hc with rfl | rfl | rfl | rfl | rfl | rfl | rfl | rfl | rfl | rfl | rfl | rfl
  · exact num 1
  · exact num 2
  · simp only [get, gotc]
    by_cases t : l.length < 4
    · rw [if_pos t, took_no 4 l false t]; exact .inl ⟨rfl, rfl⟩
    · rw [if_neg t, took_ok 4 l false (by omega)]; exact .inr ⟨_, _, rfl, rfl⟩
  · exact num 4
  · exact num 5
  · exact num 6
  · exact num 7
  · exact num 8
  · simp only [get, gotc]
    by_cases t : l.length < 8
    · rw [if_pos t, took_no 8 l false t]; exact .inl ⟨rfl, rfl⟩
    · rw [if_neg t, took_ok 8 l false (by omega)]; exact .inr ⟨_, _, rfl, rfl⟩
  · exact lists oneA (fun l => UInt64.ofNat (ofle (l.take 8))) 8 unA setA oneA_ok (fun l h => by unfold oneA; rw [took_no 8 l false h]) (fun l => took_true 8 l) (fun n l _ => unA_map n l) _ rfl
  · exact lists pairOf (fun l => (i64 (ofle (l.take 8)), i64 (ofle ((l.drop 8).take 8)))) 16 unG setG pairOf_ok pairOf_short pairOf_true (fun n l _ => unG_map n l) _ rfl
  · exact lists oneD (fun l => l.getD 0 0) 1 (fun n l => l.take n) setD oneD_ok (fun l h => by unfold oneD; rw [took_no 1 l false h]) (fun l => took_true 1 l) (fun n l h => takeD_map n l (by omega)) _ (by simp only [get, Nat.one_mul])
end Go.Proofs.Ytlnjkjpllmfcaaa
