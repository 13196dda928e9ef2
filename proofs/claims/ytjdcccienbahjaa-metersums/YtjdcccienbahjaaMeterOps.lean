/-
  A meter and all that came: Add, Sum, Rate, told over the plain list.
-/
import Derived.Test.YtjdcccienbahjaaMeterAdd
namespace Go.Proofs.Ytjdcccienbahjaa
set_option linter.unusedVariables false
open Go.RowKit

theorem count_any (base b : Nat) (win last t n : Int) (v : Value) (l : Ams) (w : World) (hb : Block w b win last v) (hw : Own w base v l) (hl : l.length ≤ 100000) (hbb : base ≤ b) (hbs : base ≤ w.heap.size)
    (hp : ∀ p, p ∈ l → 0 ≤ p.2 ∧ p.2 ≤ 1099511627776) (h7 : 0 ≤ n) (h8 : n ≤ 1099511627776) :
    Calls Try.prog 23 #[.pointer (some ⟨b, 0, none⟩), .int .i64 t, .int .i64 n] w fun e w' => e = .returned (.tuple #[]) ∧ ∃ v' l', Counted l t n l' ∧ Block w' b win last v' ∧ Own w' base v' l' ∧ Below base w w' ∧ Stays w w' := by
  by_cases h : ∃ m q, l = m ++ [(t, q)]
  · obtain ⟨m, q, rfl⟩ := h
    have hq := hp (t, q) (by simp)
    obtain ⟨ao, c, rfl, vw⟩ := hw.view
    obtain ⟨g, rfl, _⟩ := vw m.length (by simp)
    have el : (m ++ [(t, q)]).length = m.length + 1 := by simp
    rw [el] at hb hw
    refine (count_put base b g c m.length win last t q n m w hb hw rfl (by simp at hl; omega) hq.1 hq.2 h7 h8 hbb hbs).mono ?_
    rintro e w' ⟨rfl, v', r⟩
    exact ⟨rfl, v', _, .inl ⟨m, q, rfl, rfl⟩, r⟩
  · refine (count_new base b win last t n v l w hb hw hl hbb hbs (fun m q e => h ⟨m, q, e⟩)).mono ?_
    rintro e w' ⟨rfl, v', r⟩
    exact ⟨rfl, v', _, .inr rfl, r⟩

/-- a meter of a window lies at block b, and x is all that came to it -/
def MeterAt (base : Nat) (w : World) (b : Nat) (win : Int) (x : Ams) : Prop :=
  ∃ v l, Block w b win (lastOf x) v ∧ Own w base v l ∧ base ≤ b ∧ base ≤ w.heap.size ∧ Keeps win (lastOf x) l x ∧ Fine x ∧ 1 ≤ win ∧ win ≤ 64

theorem MeterAt.fine {base b : Nat} {w : World} {win : Int} {x : Ams} (h : MeterAt base w b win x) : Fine x := by
  obtain ⟨v, l, _, _, _, _, _, f, _⟩ := h; exact f
theorem MeterAt.win {base b : Nat} {w : World} {win : Int} {x : Ams} (h : MeterAt base w b win x) : 1 ≤ win ∧ win ≤ 64 := by
  obtain ⟨v, l, _, _, _, _, _, _, f⟩ := h; exact f
theorem MeterAt.size {base b : Nat} {w : World} {win : Int} {x : Ams} (h : MeterAt base w b win x) : base ≤ w.heap.size := by
  obtain ⟨v, l, _, _, _, f, _⟩ := h; exact f

theorem Own.ext {w w' : World} {base : Nat} {v : Value} {l : Ams} (h : Own w base v l) (e : Ext w w') : Own w' base v l := by
  obtain ⟨h1, h2⟩ := h
  refine ⟨h1, ?_⟩
  rcases h2 with h2 | ⟨g, cap, cur, e1, hb, hg, r⟩
  · exact .inl h2
  · exact .inr ⟨g, cap, cur, e1, hb, e.row hg, r⟩

theorem MeterAt.ext {base b : Nat} {w w' : World} {win : Int} {x : Ams} (h : MeterAt base w b win x) (e : Ext w w') : MeterAt base w' b win x := by
  obtain ⟨v, l, hb, hw, h1, h2, r⟩ := h
  exact ⟨v, l, e.row hb, hw.ext e, h1, Nat.le_trans h2 e.size, r⟩
theorem MeterAt.drewN {base b : Nat} {w : World} {win : Int} {x : Ams} (h : MeterAt base w b win x) (n : Nat) : MeterAt base (w.drewN n) b win x := h

/-- a meter, just made -/
theorem MeterAt.made (w : World) (win : Int) (h1 : 1 ≤ win) (h2 : win ≤ 64) : MeterAt w.heap.size (w.alloc (.cells #[.int .i64 win, .int .i64 0, .slice none 0 0] 49 (0, 0))) w.heap.size win [] :=
  ⟨.slice none 0 0, [], heap_alloc_new w _, World.ownsRow_nil _ _ _ _, Nat.le_refl _, by simp, Keeps.nil _ _, Fine.nil, h1, h2⟩

theorem keeps_counted {win last : Int} {l l' x : Ams} {t n : Int} (h : Keeps win last l x) (f : Fit t n) (c : Counted l t n l') : Keeps win last l' (x ++ [(t, n)]) := by
  rcases c with ⟨m, q, rfl, rfl⟩ | rfl
  · exact h.more f
  · exact h.snoc f

set_option maxHeartbeats 1000000 in
theorem add_any' (base b : Nat) (win t n : Int) (x : Ams) (w : World) (h : MeterAt base w b win x) (hx : x.length ≤ 999) :
    Calls Try.prog 15 #[.pointer (some ⟨b, 0, none⟩), .int .i64 t, .int .i64 n] w fun e w' => e = .returned (.int .i64 (toldErr x t n)) ∧ MeterAt base w' b win (played x t n) ∧ Below base w w' ∧ Stays w w' := by
  obtain ⟨E, eE⟩ : ∃ E, E = toldErr x t n := ⟨_, rfl⟩
  obtain ⟨X, eX⟩ : ∃ X, X = played x t n := ⟨_, rfl⟩
  rw [← eE, ← eX]
  have H := hid h
  unfold toldErr at eE
  unfold played at eX
  by_cases hf : Fit t n
  · rw [if_pos hf] at eE eX
    obtain ⟨a1, a2, a3, a4⟩ := id hf
    obtain ⟨v, l, hb, hw, hbb, hbs, hk, fx, w1, w2⟩ := h
    have c1 := hb.c1
    have fr1 := hb.fr 1
    have fl := fx.last
    have F := hid hf
    clear hf
    have d1 : decide (t < 0) = false := by simp; omega
    have d2 : decide (1099511627776 < t) = false := by simp; omega
    have d3 : decide (n < 0) = false := by simp; omega
    have d4 : decide (1048576 < n) = false := by simp; omega
    by_cases hs : t < lastOf x
    · rw [if_pos hs] at eE eX
      subst eE eX
      clear hb hw
      go_enter Try.func15, Try.ntmps15
      go_wp2
      go_ret
      exact ⟨rfl, H, Below.refl _ _, Stays.refl _⟩
    · rw [if_neg hs] at eE eX
      have d5 : decide (t < lastOf x) = false := by simp; omega
      have HS := hid hs
      have EX := hid eX
      subst eE
      have B1 := hid (hb.set1 t)
      have O1 := hid (hw.other hb 1 (.int .i64 t))
      have S1 := hid (Stays.setCell hb 1 (.int .i64 t))
      have L1 : Hid (Below base w (w.setCell ⟨b, 1, none⟩ (.int .i64 t))) := (Below.refl base w).setCell hbb _
      have K := hid hk
      have FX := hid fx
      have hll := hk.2.2.2
      clear hb hw hs eX hk fx
      obtain ⟨y, hy⟩ : ∃ y, y = lastOf x := ⟨_, rfl⟩
      rw [← hy] at c1 d5
      have Y := hid hy
      clear hy
      go_enter Try.func15, Try.ntmps15
      go_wp2_with fail
      refine (forget_any base b win t v l _ B1.out O1.out hbb (by omega) w1 w2 a1 a2 (Nat.le_trans hbs L1.out.size)).mono ?_
      rintro e w2' ⟨rfl, v2, k, hk2, hold, B2, O2, L2, S2⟩
      have K2 := K.out.forget (show lastOf x ≤ t by have := HS.out; omega) hold
      have hl2 := K2.2.2.2
      have bnd := K2.bounds FX.out (by omega)
      have el := elem_le_total K2.nonneg
      have R2 := hid (And.intro B2 (And.intro O2 (And.intro L2 S2)))
      have KK := hid K2
      have HP : Hid (∀ p, p ∈ l.drop k → 0 ≤ p.2 ∧ p.2 ≤ 1099511627776) := fun p hp => ⟨(KK.out.2.1 p hp).2.2, by have := el p hp; omega⟩
      clear B2 O2 L2 S2 hold K2 el
      go_wp2_with fail
      refine (count_any base b win t t n v2 (l.drop k) _ R2.1 R2.2.1 (by omega) hbb (Nat.le_trans (Nat.le_trans hbs L1.out.size) R2.2.2.1.size) HP.out a3 (by omega)).mono ?_
      rintro e w3 ⟨rfl, v3, l3, C3, B3, O3, L3, S3⟩
      have R3 := hid (And.intro B3 (And.intro O3 (And.intro L3 S3)))
      have CC := hid C3
      clear B3 O3 L3 S3 C3
      go_wp2
      go_ret
      have e1 := HS.out
      have e2 := last_played (x := x) (n := n) (t := t) (by omega)
      rw [EX.out]
      refine ⟨rfl, ⟨v3, l3, ?_, R3.2.1, hbb, ?_, ?_, FX.out.snoc F, w1, w2⟩, L1.out.trans (Below.trans R2.2.2.1 R3.2.2.1), S1.out.trans (R2.2.2.2.trans R3.2.2.2)⟩
      · rw [e2]; exact R3.1
      · exact Nat.le_trans (Nat.le_trans (Nat.le_trans hbs L1.out.size) R2.2.2.1.size) R3.2.2.1.size
      · rw [e2]; exact keeps_counted KK.out F CC
  · rw [if_neg hf] at eE eX
    subst eE eX
    unfold Fit at hf
    clear h
    by_cases b1 : t < 0
    · clear hf
      go_enter Try.func15, Try.ntmps15
      go_wp2
      go_ret
      exact ⟨rfl, H, Below.refl _ _, Stays.refl _⟩
    · by_cases b2 : 1099511627776 < t
      · clear hf
        go_enter Try.func15, Try.ntmps15
        go_wp2
        go_ret
        exact ⟨rfl, H, Below.refl _ _, Stays.refl _⟩
      · by_cases b3 : n < 0
        · clear hf
          go_enter Try.func15, Try.ntmps15
          go_wp2
          go_ret
          exact ⟨rfl, H, Below.refl _ _, Stays.refl _⟩
        · have b4 : 1048576 < n := by omega
          clear hf
          go_enter Try.func15, Try.ntmps15
          go_wp2
          go_ret
          exact ⟨rfl, H, Below.refl _ _, Stays.refl _⟩
end Go.Proofs.Ytjdcccienbahjaa
