/-
  A detector and its state's box, side by side.
-/
import Derived.Test.YtlglhggfhlpbjaaDetOps
namespace Go.Proofs.Ytlglhggfhlpbjaa.Det
set_option linter.unusedVariables false
set_option maxRecDepth 100000
open Go.RowKit Go.Lib Go.Proofs.Ytlglhggfhlpbjaa.His

/-- a state's cells -/
def sc (s : DS) (lv : Value) : Array Value := dcs s.1 s.2.1.1 lv s.2.2.1 s.2.2.2.1 s.2.2.2.2
theorem sc_size (s : DS) (lv : Value) : (sc s lv).size = 13 := rfl
theorem size_stv (s : DS) (lv : Value) : (Try.prog.info? 29).map (·.size) = some (sc s lv).size := by rw [sc_size]; exact size_st
/-- a detector at b, h; a state's box at bx -/
def One (w V : World) (b h bx : Nat) (s : DS) (lv : Value) : Prop := DetV V b h s ∧ (V.heap[bx]? = some (.cells (sc s lv) 29 (0, 0)) ∧ ListK (fun q => q ≠ b ∧ q ≠ h ∧ q ≠ bx) V lv s.2.1.2) ∧ Ext w V ∧ (w.heap.size ≤ b ∧ w.heap.size ≤ h ∧ w.heap.size ≤ bx) ∧ bx ≠ b ∧ bx ≠ h
theorem One.ext {w V V' : World} {b h bx : Nat} {s : DS} {lv : Value} (c : One w V b h bx s lv) (x : Ext V V') : One w V' b h bx s lv := ⟨c.1.ext x, ⟨x.row c.2.1.1, c.2.1.2.ext x⟩, c.2.2.1.trans x, c.2.2.2⟩
theorem sc_one {K : Nat → Prop} {w : World} (s : DS) (lv : Value) {l : List Int} (h : ListK K w lv l) : (sc s lv).all (·.oneCell') = true := by
  obtain ⟨ao, c, rfl, _⟩ := h.slice
  exact dcs_one _ _ _ _ _ _ rfl

theorem One.stepK {w V : World} {b h bx : Nat} {s : DS} {lv : Value} (c : One w V b h bx s lv) (o : OpD) (f : FitO o) :
    Calls Try.prog 10 #[.pointer (some ⟨b, 0, none⟩), .agg (sc s lv), .agg (ocs o)] V fun e w' => ∃ lv', e = .returned (.tuple #[.agg (sc (dst s o) lv'), .bool true]) ∧ w'.heap[bx]? = some (.cells (sc s lv) 29 (0, 0)) ∧ (sc (dst s o) lv').all (·.oneCell') = true ∧ One w (w'.setRow bx (sc (dst s o) lv')) b h bx (dst s o) lv' ∧ Kept (fun q => q ≠ b ∧ q ≠ h ∧ q ≠ bx) V (w'.setRow bx (sc (dst s o) lv')) := by
  obtain ⟨d, ⟨hr, hl⟩, x, ⟨l1, l2, l3⟩, n1, n2⟩ := c
  refine (step_any b h s (.agg (sc s lv)) o V d ⟨lv, rfl, hl⟩ (fun q hq => ⟨hq.1, hq.2.1⟩) f.1.1 f.1.2).mono ?_
  rintro e w' ⟨v', rfl, d', ⟨lv', rfl, hl'⟩, k⟩
  have r' := k.row (g := bx) ⟨n1, n2⟩ hr
  have kb : Kept (fun q => q ≠ bx) w' (w'.setRow bx (sc (dst s o) lv')) := (Kept.refl _ w').setRow (fun hne => hne rfl) _
  have hb := d.lt
  have hx := lt_of_row hr
  have hl2 : ListK (fun q => q ≠ b ∧ q ≠ h ∧ q ≠ bx) w' lv' (dst s o).2.1.2 := hl'.mono (fun q _ hq => by
    rcases hq with hq | hq
    · exact hq
    · omega)
  have k3 : Kept (fun q => q ≠ b ∧ q ≠ h ∧ q ≠ bx) V (w'.setRow bx (sc (dst s o) lv')) := (k.mono (fun q hq => ⟨hq.1, hq.2.1⟩)).trans (kb.mono fun q hq => hq.2.2)
  refine ⟨lv', rfl, r', sc_one _ _ hl', ⟨d'.kept kb (fun e => n1 e.symm) (fun e => n2 e.symm), ⟨setRow_heap _ _ _ _ _ _ r', hl2.kept kb (fun q hq => hq.2.2)⟩, ?_, ⟨l1, l2, l3⟩, n1, n2⟩, k3⟩
  exact Below.trans x (k3.below x.size (fun i hi => by omega))

theorem One.step {w V : World} {b h bx : Nat} {s : DS} {lv : Value} (c : One w V b h bx s lv) (o : OpD) (f : FitO o) :
    Calls Try.prog 10 #[.pointer (some ⟨b, 0, none⟩), .agg (sc s lv), .agg (ocs o)] V fun e w' => ∃ lv', e = .returned (.tuple #[.agg (sc (dst s o) lv'), .bool true]) ∧ w'.heap[bx]? = some (.cells (sc s lv) 29 (0, 0)) ∧ (sc (dst s o) lv').all (·.oneCell') = true ∧ One w (w'.setRow bx (sc (dst s o) lv')) b h bx (dst s o) lv' := by
  refine (c.stepK o f).mono ?_
  rintro e w' ⟨lv', rfl, r, o1, S, _⟩
  exact ⟨lv', rfl, r, o1, S⟩

/-- a second one beside it -/
def Two (w V : World) (b h bx : Nat) (s : DS) (lv : Value) (c g cx : Nat) (x : DS) (lx : Value) : Prop :=
  One w V c g cx x lx ∧ DetV V b h s ∧ (V.heap[bx]? = some (.cells (sc s lv) 29 (0, 0)) ∧ ListK (fun q => q ≠ b ∧ q ≠ h ∧ q ≠ bx ∧ q ≠ c ∧ q ≠ g ∧ q ≠ cx) V lv s.2.1.2) ∧ (w.heap.size ≤ b ∧ w.heap.size ≤ h ∧ w.heap.size ≤ bx ∧ bx ≠ b ∧ bx ≠ h) ∧ (b ≠ c ∧ b ≠ g ∧ b ≠ cx) ∧ (h ≠ c ∧ h ≠ g ∧ h ≠ cx) ∧ bx ≠ c ∧ bx ≠ g ∧ bx ≠ cx
theorem Two.ext {w V V' : World} {b h bx : Nat} {s : DS} {lv : Value} {c g cx : Nat} {x : DS} {lx : Value} (t : Two w V b h bx s lv c g cx x lx) (e : Ext V V') : Two w V' b h bx s lv c g cx x lx :=
  ⟨t.1.ext e, t.2.1.ext e, ⟨e.row t.2.2.1.1, t.2.2.1.2.ext e⟩, t.2.2.2⟩
theorem Two.first {w V : World} {b h bx : Nat} {s : DS} {lv : Value} {c g cx : Nat} {x : DS} {lx : Value} (t : Two w V b h bx s lv c g cx x lx) : One w V b h bx s lv :=
  ⟨t.2.1, ⟨t.2.2.1.1, t.2.2.1.2.mono (fun q _ hq => ⟨hq.1, hq.2.1, hq.2.2.1⟩)⟩, t.1.2.2.1, ⟨t.2.2.2.1.1, t.2.2.2.1.2.1, t.2.2.2.1.2.2.1⟩, t.2.2.2.1.2.2.2⟩
theorem Two.new {w V V' : World} {b h bx : Nat} {s : DS} {lv : Value} {c g cx : Nat} (o : One w V b h bx s lv) (e : Ext V V') (d : DetV V' c g s) (hc : V.heap.size ≤ c) (hg : V.heap.size ≤ g) (hr : V'.heap[cx]? = some (.cells (sc s lv) 29 (0, 0))) (hx : V.heap.size ≤ cx) (n1 : cx ≠ c) (n2 : cx ≠ g) : Two w V' b h bx s lv c g cx s lv := by
  have l1 := o.1.lt
  have l2 := lt_of_row o.2.1.1
  have l3 := o.2.2.1.size
  have L : ListK (fun q => q ≠ b ∧ q ≠ h ∧ q ≠ bx ∧ q ≠ c ∧ q ≠ g ∧ q ≠ cx) V lv s.2.1.2 := o.2.1.2.mono (fun q hl hq => ⟨hq.1, hq.2.1, hq.2.2, by omega, by omega, by omega⟩)
  refine ⟨⟨d, ⟨hr, (L.ext e).mono (fun q _ hq => hq.2.2.2)⟩, o.2.2.1.trans e, ⟨by omega, by omega, by omega⟩, n1, n2⟩, o.1.ext e, ⟨e.row o.2.1.1, L.ext e⟩, ⟨o.2.2.2.1.1, o.2.2.2.1.2.1, o.2.2.2.1.2.2, o.2.2.2.2⟩, ⟨by omega, by omega, by omega⟩, ⟨by omega, by omega, by omega⟩, by omega, by omega, by omega⟩
theorem Two.step {w V : World} {b h bx : Nat} {s : DS} {lv : Value} {c g cx : Nat} {x : DS} {lx : Value} (t : Two w V b h bx s lv c g cx x lx) (o : OpD) (f : FitO o) :
    Calls Try.prog 10 #[.pointer (some ⟨c, 0, none⟩), .agg (sc x lx), .agg (ocs o)] V fun e w' => ∃ lv', e = .returned (.tuple #[.agg (sc (dst x o) lv'), .bool true]) ∧ w'.heap[cx]? = some (.cells (sc x lx) 29 (0, 0)) ∧ (sc (dst x o) lv').all (·.oneCell') = true ∧ Two w (w'.setRow cx (sc (dst x o) lv')) b h bx s lv c g cx (dst x o) lv' := by
  refine (t.1.stepK o f).mono ?_
  rintro e w' ⟨lv', rfl, r, o1, S, k⟩
  obtain ⟨u1, u2, ⟨u3, u4⟩, u5, u6, u7, u8⟩ := t
  exact ⟨lv', rfl, r, o1, S, u2.kept k u6 u7, ⟨k.row u8 u3, u4.kept k (fun q hq => hq.2.2.2)⟩, u5, u6, u7, u8⟩

theorem One.same {w V : World} {b h bx : Nat} {s : DS} {lv : Value} (c : One w V b h bx s lv) :
    Calls Try.prog 11 #[.pointer (some ⟨b, 0, none⟩), .agg (sc s lv)] V fun e w' => e = .returned (.bool true) ∧ Ext V w' :=
  same_any b h s (.agg (sc s lv)) V c.1 ⟨lv, rfl, c.2.1.2⟩

/-- a detector just made, an empty state's box -/
theorem One.new {w V : World} {b h : Nat} (d : DetV V b h dnew) (x : Ext w V) (l1 : w.heap.size ≤ b) (l2 : w.heap.size ≤ h) (bx : Nat) (hr : V.heap[bx]? = some (.cells (sc dnew (.slice none 0 0)) 29 (0, 0))) (l3 : w.heap.size ≤ bx) (n1 : bx ≠ b) (n2 : bx ≠ h) : One w V b h bx dnew (.slice none 0 0) :=
  ⟨d, ⟨hr, RowK.nil _ _ _⟩, x, ⟨l1, l2, l3⟩, n1, n2⟩
end Go.Proofs.Ytlglhggfhlpbjaa.Det
