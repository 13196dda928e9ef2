/-
  A net and the model in its box, as one state; a net and its copy, each with its model's box, side by side. What a step, a store of what it tells, new memory leave of them.
-/
import Derived.Test.YtjmgigfaiaemeaaMAny
import Derived.Test.YtjmgigfaiaemeaaSimCopy
namespace Go.Proofs.Ytjmgigfaiaemeaa.Sim
set_option linter.unusedVariables false
open Go.RowKit Go.Lib Go.Shelf Go.Proofs.Ytjmgigfaiaemeaa.Crc Go.Proofs.Ytjmgigfaiaemeaa.Grp
open Go.Proofs.Ytjmgigfaiaemeaa.Pip hiding NewR

theorem side_cells {K E : Nat → Prop} {w : World} {cs : Array Value} {b : Nat} {bs : Nat → Nat} {c : Cfg} {fs : List (Int × Int)} {k : Nat} {now : Int} (h : Side K E w cs b bs c fs k now) : cs.all (·.oneCell') = true ∧ cs.size = 15 ∧ ∃ av lv fv u s, cs = mcs c av lv fv u s := by
  obtain ⟨_, l, x, av, lv, fv, rfl, h1, h2, h3, h4, _⟩ := h
  exact ⟨mcs_one c av lv fv _ _ (by obtain ⟨_, _, _, e⟩ := row_slice h2; rw [e]; rfl) (by obtain ⟨_, _, _, e⟩ := lists_slice h3; rw [e]; rfl) (by obtain ⟨_, _, _, e⟩ := row_slice h4; rw [e]; rfl), rfl, _, _, _, _, _, rfl⟩
theorem text_in {s0 : Nat} {K : Nat → Prop} {w : World} {tv : Value} {t : List UInt8} (h : RowK (fun q => q < s0) w tv 1 (bcells t)) (hK : ∀ q, q < s0 → K q) : RowK K w tv 1 (bcells t) := h.mono (by decide) (fun q _ hq => hK q hq)

/-- a net, and the model in its box m; what came in lies below s0 -/
def One (s0 : Nat) (w : World) (m : Nat) (cs : Array Value) (b : Nat) (bs : Nat → Nat) (c : Cfg) (fs : List (Int × Int)) (k : Nat) (now : Int) : Prop :=
  ∃ K E : Nat → Prop, Side K E w cs b bs c fs k now ∧ (K m ∧ ¬ E m ∧ s0 ≤ m ∧ ∀ q, q < s0 → K q) ∧ w.heap[m]? = some (.cells cs 40 (0, 0))
theorem One.row {s0 m : Nat} {w : World} {cs : Array Value} {b : Nat} {bs : Nat → Nat} {c : Cfg} {fs : List (Int × Int)} {k : Nat} {now : Int} (h : One s0 w m cs b bs c fs k now) : w.heap[m]? = some (.cells cs 40 (0, 0)) := by
  obtain ⟨_, _, _, _, r⟩ := h
  exact r
theorem One.ext {s0 m : Nat} {w : World} {cs : Array Value} {b : Nat} {bs : Nat → Nat} {c : Cfg} {fs : List (Int × Int)} {k : Nat} {now : Int} {w' : World} (h : One s0 w m cs b bs c fs k now) (e : Ext w w') : One s0 w' m cs b bs c fs k now := by
  obtain ⟨K, E, sd, hk, r⟩ := h
  exact ⟨K, E, sd.ext e, hk, e.row r⟩
theorem One.cells {s0 m : Nat} {w : World} {cs : Array Value} {b : Nat} {bs : Nat → Nat} {c : Cfg} {fs : List (Int × Int)} {k : Nat} {now : Int} (h : One s0 w m cs b bs c fs k now) : cs.all (·.oneCell') = true ∧ cs.size = 15 ∧ ∃ av lv fv u s, cs = mcs c av lv fv u s := by
  obtain ⟨_, _, sd, _⟩ := h
  exact side_cells sd
theorem One.same {s0 m : Nat} {w : World} {cs : Array Value} {b : Nat} {bs : Nat → Nat} {c : Cfg} {fs : List (Int × Int)} {k : Nat} {now : Int} (h : One s0 w m cs b bs c fs k now) : Calls Try.prog 11 #[.agg cs, .pointer (some ⟨b, 0, none⟩)] w fun e w' => e = .returned (.bool true) ∧ Ext w w' := by
  obtain ⟨_, _, sd, _⟩ := h
  exact same_side sd

theorem One.step {s0 m : Nat} {w : World} {cs : Array Value} {b : Nat} {bs : Nat → Nat} {c : Cfg} {fs : List (Int × Int)} {k : Nat} {now0 : Int} (h : One s0 w m cs b bs c fs k now0) (hk : k ≤ 900) (hfs : fs.length ≤ 1000) (hfb : ∀ f ∈ fs, -9223372036854775808 ≤ f.2 ∧ f.2 ≤ 9223372036854775807)
    (kind R level later : Int) (tv : Value) (t : List UInt8) (hT : RowK (fun q => q < s0) w tv 1 (bcells t)) (hTP : Plain tv) (now : Int) (n0 : 0 ≤ now) (n1 : now ≤ 1000000) (n2 : now0 ≤ now) :
    Calls Try.prog 10 #[.agg cs, .pointer (some ⟨b, 0, none⟩), .agg #[.int .i64 kind, .int .i64 R, .int .i64 level, .int .i64 later, tv], .int .i64 now] w fun e w' =>
      ∃ cs' : Array Value, e = .returned (.tuple #[.agg cs', .bool true]) ∧ w'.heap[m]? = some (.cells cs 40 (0, 0)) ∧ cs'.all (·.oneCell') = true ∧ cs'.size = 15 ∧ One s0 (w'.setRow m cs') m cs' b bs c fs (k + 1) now ∧ Kept (fun q => q < s0) w (w'.setRow m cs') := by
  obtain ⟨K, E, sd, ⟨km, em, sm, ks⟩, r⟩ := h
  refine (step_side sd hk hfs hfb kind R level later tv t (text_in hT ks) hTP now n0 n1 n2).mono ?_
  rintro e w' ⟨cs', K', rfl, kk, sd', kp⟩
  have r' := kp.row km r
  have lm := lt_of_row r
  have k6 : Kept (fun i => i ≠ m) w' (w'.setRow m cs') := (Kept.refl _ _).setRow (fun hne => hne rfl) _
  have nem : ¬ (K' m ∧ (E m ∨ w.heap.size ≤ m)) := fun h => h.2.elim em (fun h => by omega)
  exact ⟨cs', rfl, r', (side_cells sd').1, (side_cells sd').2.1, ⟨_, _, sd'.keep k6 (fun q _ => if e : q = m then .inl (e ▸ kk _ km) else .inr e) (fun q _ hq e => nem (e ▸ hq)), ⟨.inl (kk _ km), nem, sm, fun q hq => .inl (kk q (ks q hq))⟩, setRow_heap _ _ _ _ _ _ r'⟩,
    (kp.mono (fun q hq => ks q hq)).trans (k6.mono (fun q hq e => by omega))⟩

/-- a net and its copy, ahead of the copy's box -/
def Half (s0 : Nat) (w : World) (m : Nat) (cs : Array Value) (b : Nat) (bs : Nat → Nat) (cb : Nat) (cbs : Nat → Nat) (c : Cfg) (fs : List (Int × Int)) (k : Nat) (now : Int) : Prop :=
  ∃ K1 K2 E : Nat → Prop, Side K1 E w cs b bs c fs k now ∧ Side K2 E w cs cb cbs c fs k now ∧ (∀ q, q < w.heap.size → K1 q ∨ K2 q) ∧ (K1 m ∧ K2 m ∧ ¬ E m ∧ s0 ≤ m ∧ ∀ q, q < s0 → K1 q ∧ K2 q) ∧ w.heap[m]? = some (.cells cs 40 (0, 0))
theorem One.copy {s0 m : Nat} {w : World} {cs : Array Value} {b : Nat} {bs : Nat → Nat} {c : Cfg} {fs : List (Int × Int)} {k : Nat} {now : Int} (h : One s0 w m cs b bs c fs k now) (hfs : fs.length ≤ 1000) :
    Calls Try.prog 12 #[.pointer (some ⟨b, 0, none⟩)] w fun e w' => ∃ cb cbs, e = .returned (.pointer (some ⟨cb, 0, none⟩)) ∧ Half s0 w' m cs b bs cb cbs c fs k now ∧ Ext w w' := by
  obtain ⟨K, E, sd, ⟨km, em, sm, ks⟩, r⟩ := h
  have th := sd.there
  obtain ⟨hE, l, x, av, lv, fv, e1, h1, h2, h3, h4, h5⟩ := id sd
  refine (copy_net h1 hfs).mono ?_
  rintro e w' ⟨cb, cbs, rfl, nk, x'⟩
  have kx : Kept (fun q => E q) w w' := Kept.of_ext x'
  refine ⟨cb, cbs, rfl, ⟨fun q => K q ∨ New w w' q, fun q => q < w.heap.size, E, sd.more x', ⟨fun q hq => th q (hE q hq), l, x, av, lv, fv, e1, nk, h2.kept kx, h3.kept kx, h4.kept kx, h5⟩, fun q hq => ?_, ⟨.inl km, th m km, em, sm, fun q hq => ⟨.inl (ks q hq), th q (ks q hq)⟩⟩, x'.row r⟩, x'⟩
  by_cases q' : q < w.heap.size
  · exact .inr q'
  · exact .inl (.inr ⟨by omega, hq⟩)

/-- both, each with its box -/
def Two (s0 : Nat) (w : World) (m : Nat) (cs1 : Array Value) (b : Nat) (bs : Nat → Nat) (k1 : Nat) (now1 : Int) (x : Nat) (cs2 : Array Value) (cb : Nat) (cbs : Nat → Nat) (k2 : Nat) (now2 : Int) (c : Cfg) (fs : List (Int × Int)) : Prop :=
  ∃ K1 E1 K2 E2 : Nat → Prop, Side K1 E1 w cs1 b bs c fs k1 now1 ∧ Side K2 E2 w cs2 cb cbs c fs k2 now2 ∧ (∀ q, q < w.heap.size → K1 q ∨ K2 q) ∧ (∀ q, E1 q → K2 q) ∧ (K1 m ∧ K2 m ∧ ¬ E1 m ∧ s0 ≤ m) ∧ (K1 x ∧ K2 x ∧ ¬ E1 x ∧ ¬ E2 x ∧ s0 ≤ x) ∧ m ≠ x ∧ (∀ q, q < s0 → K1 q ∧ K2 q) ∧
    w.heap[m]? = some (.cells cs1 40 (0, 0)) ∧ w.heap[x]? = some (.cells cs2 40 (0, 0))
theorem Half.box {s0 m : Nat} {w w' : World} {cs old : Array Value} {b cb x : Nat} {bs cbs : Nat → Nat} {c : Cfg} {fs : List (Int × Int)} {k : Nat} {now : Int} (h : Half s0 w m cs b bs cb cbs c fs k now) (e : Ext w w') (hx : w.heap.size ≤ x) (hr : w'.heap[x]? = some (.cells old 40 (0, 0))) :
    Two s0 (w'.setRow x cs) m cs b bs k now x cs cb cbs k now c fs ∧ Kept (fun q => q < s0) w (w'.setRow x cs) := by
  obtain ⟨K1, K2, E, s1, s2, kk, ⟨m1, m2, m3, m4, m5⟩, r⟩ := h
  have t1 := s1.there
  have t2 := s2.there
  have lx := lt_of_row hr
  have lm := lt_of_row r
  have hE1 := s1.1
  have k6 : Kept (fun i => i ≠ x) w' (w'.setRow x cs) := (Kept.refl _ _).setRow (fun hne => hne rfl) _
  have hs : (w'.setRow x cs).heap.size = w'.heap.size := by simp
  have nw : New w w' x := ⟨hx, lx⟩
  have nE : ¬ E x := fun h => by have := t1 x (hE1 x h); omega
  refine ⟨⟨_, _, _, _, (s1.more e).keep k6 (fun q _ => if e : q = x then .inl (.inr (e ▸ nw)) else .inr e) (fun q _ hq e => nE (e ▸ hq)), (s2.more e).keep k6 (fun q _ => if e : q = x then .inl (.inr (e ▸ nw)) else .inr e) (fun q _ hq e => nE (e ▸ hq)), fun q hq => ?_, fun q hq => .inl (.inl (s2.1 q hq)),
    ⟨.inl (.inl m1), .inl (.inl m2), m3, m4⟩, ⟨.inl (.inr nw), .inl (.inr nw), nE, nE, by omega⟩, by omega, fun q hq => ⟨.inl (.inl (m5 q hq).1), .inl (.inl (m5 q hq).2)⟩, ?_, setRow_heap _ _ _ _ _ _ hr⟩, ?_⟩
  · rw [hs] at hq
    by_cases q' : q < w.heap.size
    · exact (kk q q').imp (fun h => .inl (.inl h)) (fun h => .inl (.inl h))
    · exact .inl (.inl (.inr ⟨by omega, hq⟩))
  · rw [setRow_other _ _ _ _ (show m ≠ x by omega)]
    exact e.row r
  · exact (Kept.of_ext e).trans (k6.mono (fun q hq e => by omega))

theorem Two.one {s0 m x : Nat} {w : World} {cs1 cs2 : Array Value} {b cb : Nat} {bs cbs : Nat → Nat} {c : Cfg} {fs : List (Int × Int)} {k1 k2 : Nat} {now1 now2 : Int} (h : Two s0 w m cs1 b bs k1 now1 x cs2 cb cbs k2 now2 c fs) : One s0 w m cs1 b bs c fs k1 now1 := by
  obtain ⟨K1, E1, K2, E2, s1, s2, kk, ek, ⟨m1, m2, m3, m4⟩, _, _, hs, r1, r2⟩ := h
  exact ⟨K1, E1, s1, ⟨m1, m3, m4, fun q hq => (hs q hq).1⟩, r1⟩
theorem Two.other {s0 m x : Nat} {w : World} {cs1 cs2 : Array Value} {b cb : Nat} {bs cbs : Nat → Nat} {c : Cfg} {fs : List (Int × Int)} {k1 k2 : Nat} {now1 now2 : Int} (h : Two s0 w m cs1 b bs k1 now1 x cs2 cb cbs k2 now2 c fs) : One s0 w x cs2 cb cbs c fs k2 now2 := by
  obtain ⟨K1, E1, K2, E2, s1, s2, kk, ek, _, ⟨x1, x2, x3, x4, x5⟩, _, hs, r1, r2⟩ := h
  exact ⟨K2, E2, s2, ⟨x2, x4, x5, fun q hq => (hs q hq).2⟩, r2⟩
theorem Two.ext {s0 m x : Nat} {w w' : World} {cs1 cs2 : Array Value} {b cb : Nat} {bs cbs : Nat → Nat} {c : Cfg} {fs : List (Int × Int)} {k1 k2 : Nat} {now1 now2 : Int} (h : Two s0 w m cs1 b bs k1 now1 x cs2 cb cbs k2 now2 c fs) (e : Ext w w') : Two s0 w' m cs1 b bs k1 now1 x cs2 cb cbs k2 now2 c fs := by
  obtain ⟨K1, E1, K2, E2, s1, s2, kk, ek, ⟨m1, m2, m3, m4⟩, ⟨x1, x2, x3, x4, x5⟩, ne, hs, r1, r2⟩ := h
  refine ⟨_, _, K2, E2, s1.more e, s2.ext e, fun q hq => ?_, ek, ⟨.inl m1, m2, m3, m4⟩, ⟨.inl x1, x2, x3, x4, x5⟩, ne, fun q hq => ⟨.inl (hs q hq).1, (hs q hq).2⟩, e.row r1, e.row r2⟩
  by_cases q' : q < w.heap.size
  · exact (kk q q').imp .inl id
  · exact .inl (.inr ⟨by omega, hq⟩)

theorem Two.step {s0 m x : Nat} {w : World} {cs1 cs2 : Array Value} {b cb : Nat} {bs cbs : Nat → Nat} {c : Cfg} {fs : List (Int × Int)} {k1 k2 : Nat} {now1 now2 : Int} (h : Two s0 w m cs1 b bs k1 now1 x cs2 cb cbs k2 now2 c fs) (hk : k2 ≤ 900) (hfs : fs.length ≤ 1000) (hfb : ∀ f ∈ fs, -9223372036854775808 ≤ f.2 ∧ f.2 ≤ 9223372036854775807)
    (kind R level later : Int) (tv : Value) (t : List UInt8) (hT : RowK (fun q => q < s0) w tv 1 (bcells t)) (hTP : Plain tv) (now : Int) (n0 : 0 ≤ now) (n1 : now ≤ 1000000) (n2 : now2 ≤ now) :
    Calls Try.prog 10 #[.agg cs2, .pointer (some ⟨cb, 0, none⟩), .agg #[.int .i64 kind, .int .i64 R, .int .i64 level, .int .i64 later, tv], .int .i64 now] w fun e w' =>
      ∃ cs' : Array Value, e = .returned (.tuple #[.agg cs', .bool true]) ∧ w'.heap[x]? = some (.cells cs2 40 (0, 0)) ∧ cs'.all (·.oneCell') = true ∧ cs'.size = 15 ∧ Two s0 (w'.setRow x cs') m cs1 b bs k1 now1 x cs' cb cbs (k2 + 1) now c fs ∧ Kept (fun q => q < s0) w (w'.setRow x cs') := by
  obtain ⟨K1, E1, K2, E2, s1, s2, kk, ek, ⟨m1, m2, m3, m4⟩, ⟨x1, x2, x3, x4, x5⟩, ne, hs, r1, r2⟩ := h
  refine (step_side s2 hk hfs hfb kind R level later tv t (text_in hT (fun q hq => (hs q hq).2)) hTP now n0 n1 n2).mono ?_
  rintro e w' ⟨cs', K', rfl, kk', sd', kp⟩
  have r' := kp.row x2 r2
  have lx := lt_of_row r2
  have k6 : Kept (fun i => i ≠ x) w' (w'.setRow x cs') := (Kept.refl _ _).setRow (fun hne => hne rfl) _
  have hz : (w'.setRow x cs').heap.size = w'.heap.size := by simp
  have nex : ¬ (K' x ∧ (E2 x ∨ w.heap.size ≤ x)) := fun h => h.2.elim x4 (fun h => by omega)
  refine ⟨cs', rfl, r', (side_cells sd').1, (side_cells sd').2.1, ⟨_, _, _, _, (s1.keep kp kk (fun q _ hq => ek q hq)).keep k6 (fun q _ => if e : q = x then .inl (.inl (e ▸ x1)) else .inr e) (fun q _ hq e => x3 (e ▸ hq)),
    sd'.keep k6 (fun q _ => if e : q = x then .inl (e ▸ kk' _ x2) else .inr e) (fun q _ hq e => nex (e ▸ hq)), fun q hq => ?_, fun q hq => .inl (kk' q (ek q hq)), ⟨.inl (.inl m1), .inl (kk' _ m2), m3, m4⟩, ⟨.inl (.inl x1), .inl (kk' _ x2), x3, nex, x5⟩, ne, fun q hq => ⟨.inl (.inl (hs q hq).1), .inl (kk' q (hs q hq).2)⟩, ?_, setRow_heap _ _ _ _ _ _ r'⟩, ?_⟩
  · rw [hz] at hq
    by_cases q' : q < w.heap.size
    · exact (kk q q').imp (fun h => .inl (.inl h)) (fun h => .inl (kk' q h))
    · exact .inl (.inl (.inr ⟨by omega, hq⟩))
  · rw [setRow_other _ _ _ _ ne]
    exact kp.row m2 r1
  · exact (kp.mono (fun q hq => (hs q hq).2)).trans (k6.mono (fun q hq e => by omega))
end Go.Proofs.Ytjmgigfaiaemeaa.Sim
