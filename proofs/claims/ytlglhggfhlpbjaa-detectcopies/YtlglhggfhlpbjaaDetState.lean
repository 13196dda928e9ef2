/-
  The reference of layer 15 as plain numbers: one packet; its state in memory; On, whichever way.
-/
import Derived.Test.YtlglhggfhlpbjaaDetOn2
namespace Go.Proofs.Ytlglhggfhlpbjaa.Det
set_option linter.unusedVariables false
set_option maxRecDepth 100000
open Go.RowKit Go.Lib Go.Proofs.Ytlglhggfhlpbjaa.His

/-- the numbers that are expected (-1: none); open and closed intervals; the begin of the last event; whether there was one; the last tick -/
abbrev DS := List Int × Hs × Int × Bool × Int
def dnew : DS := ([-1, -1, -1, -1, -1, -1, -1, -1], (0, []), 0, false, 0)
/-- one packet that comes: the state then, how many are lost, whether it is an event, whether the first one -/
def don (s : DS) (ly : Nat) (seq tick rtt : Int) : DS × Int × Bool × Bool :=
  if s.1.getD ly (-1) < 0 ∨ s.1.getD ly (-1) = seq ∨ 256 < Ser.fgap (s.1.getD ly (-1)) seq then ((s.1.set ly (aft seq), (cnt s.2.1.1 1, s.2.1.2), s.2.2.1, s.2.2.2.1, tick), 0, false, false)
  else if Ser.fgap (s.1.getD ly (-1)) seq ≤ 0 then ((s.1, s.2.1, s.2.2.1, s.2.2.2.1, tick), 0, false, false)
  else if s.2.2.2.1 = false ∨ rtt < tick - s.2.2.1 then
    ((s.1.set ly (aft seq), (cnt (cnt 0 (Ser.fgap (s.1.getD ly (-1)) seq)) 1, (s.2.1.1 :: s.2.1.2).take 8), tick, true, tick), Ser.fgap (s.1.getD ly (-1)) seq, true, ((s.2.1.2.length : Int) == 0))
  else ((s.1.set ly (aft seq), (cnt (cnt s.2.1.1 (Ser.fgap (s.1.getD ly (-1)) seq)) 1, s.2.1.2), s.2.2.1, s.2.2.2.1, tick), Ser.fgap (s.1.getD ly (-1)) seq, false, false)

def FitD (s : DS) : Prop := s.1.length = 8 ∧ (∀ k, k < 8 → -1 ≤ s.1.getD k (-1) ∧ s.1.getD k (-1) < 4294967296) ∧ Fit s.2.1.1 s.2.1.2 ∧ (0 ≤ s.2.2.1 ∧ s.2.2.1 ≤ 1099511627776) ∧ 0 ≤ s.2.2.2.2 ∧ s.2.2.2.2 ≤ 1099511627776
theorem aft_room (seq : Int) : 0 ≤ aft seq ∧ aft seq < 4294967296 := by unfold aft; omega
theorem getD_set (l : List Int) (i k : Nat) (y : Int) (hi : i < l.length) : (l.set i y).getD k (-1) = if k = i then y else l.getD k (-1) := by
  rw [List.getD_eq_getElem?_getD, List.getD_eq_getElem?_getD, List.getElem?_set]
  by_cases e : i = k
  · subst e
    simp [hi]
  · rw [if_neg e, if_neg (fun q => e q.symm)]
theorem fit_new : FitD dnew := by
  refine ⟨rfl, fun k hk => ?_, ⟨by decide, by decide, fun x hx => by simp [dnew] at hx⟩, by decide, by decide, by decide⟩
  match k, hk with
  | 0, _ | 1, _ | 2, _ | 3, _ | 4, _ | 5, _ | 6, _ | 7, _ => decide
theorem next_fit {s : DS} (h : FitD s) (ly : Nat) (v : Int) (hly : ly < 8) (h0 : -1 ≤ v) (h1 : v < 4294967296) : (s.1.set ly v).length = 8 ∧ ∀ k, k < 8 → -1 ≤ (s.1.set ly v).getD k (-1) ∧ (s.1.set ly v).getD k (-1) < 4294967296 := by
  refine ⟨by rw [List.length_set]; exact h.1, fun k hk => ?_⟩
  rw [getD_set _ _ _ _ (by rw [h.1]; exact hly)]
  split
  · exact ⟨h0, h1⟩
  · exact h.2.1 k hk
theorem cnt_fit {o : Int} {l : List Int} (h : Fit o l) (n : Int) (n0 : 0 ≤ n) : Fit (cnt o n) l := ⟨cnt_room o n h.1.1 h.1.2 n0, h.2⟩
theorem don_fit {s : DS} (h : FitD s) (ly : Nat) (seq tick rtt : Int) (hly : ly < 8) (t0 : 0 ≤ tick) (t1 : tick ≤ 1099511627776) : FitD (don s ly seq tick rtt).1 := by
  have a := aft_room seq
  have nf := next_fit h ly (aft seq) hly (by omega) a.2
  have g := Ser.fgap_room (s.1.getD ly (-1)) seq
  unfold don
  split
  · exact ⟨nf.1, nf.2, cnt_fit h.2.2.1 1 (by decide), h.2.2.2.1, t0, t1⟩
  · split
    · exact ⟨h.1, h.2.1, h.2.2.1, h.2.2.2.1, t0, t1⟩
    · split
      · exact ⟨nf.1, nf.2, cnt_fit (cnt_fit (fit_loss h.2.2.1) _ (by omega)) 1 (by decide), ⟨t0, t1⟩, t0, t1⟩
      · exact ⟨nf.1, nf.2, cnt_fit (cnt_fit h.2.2.1 _ (by omega)) 1 (by decide), h.2.2.2.1, t0, t1⟩

/-- a state as a value; its closed intervals lie in blocks of K -/
def DIn (K : Nat → Prop) (w : World) (v : Value) (s : DS) : Prop := ∃ lv, v = .agg (dcs s.1 s.2.1.1 lv s.2.2.1 s.2.2.2.1 s.2.2.2.2) ∧ ListK K w lv s.2.1.2
theorem DIn.ext {K : Nat → Prop} {w w' : World} {v : Value} {s : DS} (h : DIn K w v s) (e : Ext w w') : DIn K w' v s := by
  obtain ⟨lv, e1, h1⟩ := h
  exact ⟨lv, e1, h1.ext e⟩
theorem DIn.kept {K L : Nat → Prop} {w w' : World} {v : Value} {s : DS} (h : DIn K w v s) (k : Kept L w w') (hL : ∀ q, K q → L q) : DIn K w' v s := by
  obtain ⟨lv, e1, h1⟩ := h
  exact ⟨lv, e1, h1.kept k hL⟩
theorem DIn.mono {K L : Nat → Prop} {w : World} {v : Value} {s : DS} (h : DIn K w v s) (hL : ∀ q, q < w.heap.size → K q → L q) : DIn L w v s := by
  obtain ⟨lv, e1, h1⟩ := h
  exact ⟨lv, e1, h1.mono hL⟩

theorem on_ref {K : Nat → Prop} (s : DS) (v : Value) (ly : Nat) (seq tick rtt : Int) (w : World) (h : DIn K w v s) (F : FitD s) (hly : ly < 8) (s0 : 0 ≤ seq) (s1 : seq < 4294967296) (t0 : 0 ≤ tick) (t1 : tick ≤ 1099511627776) :
    Calls Try.prog 20 #[v, .int .i64 (ly : Int), .int .u32 seq, .int .i64 tick, .int .i64 rtt] w fun e w' => ∃ v', e = .returned (.tuple #[v', .int .i64 (don s ly seq tick rtt).2.1, .bool (don s ly seq tick rtt).2.2.1, .bool (don s ly seq tick rtt).2.2.2]) ∧ DIn (fun q => K q ∨ w.heap.size ≤ q) w' v' (don s ly seq tick rtt).1 ∧ Ext w w' := by
  obtain ⟨nx, ⟨op, lst⟩, bg, sm, ls⟩ := s
  obtain ⟨lv, rfl, hv⟩ := h
  obtain ⟨hn, hx, ⟨⟨o0, o1⟩, l8, sml⟩, ⟨b0, b1⟩, _⟩ := F
  simp only at hn hx o0 o1 l8 b0 b1 hv
  have hl : lv.oneCell' = true := by
    obtain ⟨ao, c, rfl, _⟩ := hv.slice
    rfl
  obtain ⟨x0, x1⟩ := hx ly hly
  have mem : ∀ w', Ext w w' → ListK (fun q => K q ∨ w.heap.size ≤ q) w' lv lst := fun w' x => (hv.ext x).mono (fun q _ hq => .inl hq)
  by_cases c1 : nx.getD ly (-1) < 0 ∨ nx.getD ly (-1) = seq ∨ 256 < Ser.fgap (nx.getD ly (-1)) seq
  · have ed : don (nx, (op, lst), bg, sm, ls) ly seq tick rtt = ((nx.set ly (aft seq), (cnt op 1, lst), bg, sm, tick), 0, false, false) := by unfold don; rw [if_pos c1]
    rw [ed]
    have go : Calls Try.prog 20 #[.agg (dcs nx op lv bg sm ls), .int .i64 (ly : Int), .int .u32 seq, .int .i64 tick, .int .i64 rtt] w fun e w' => e = .returned (.tuple #[.agg (dcs (nx.set ly (aft seq)) (cnt op 1) lv bg sm tick), .int .i64 0, .bool false, .bool false]) ∧ Ext w w' := by
      by_cases n1 : nx.getD ly (-1) < 0
      · exact on_none nx op lv bg sm ls ly seq tick rtt w hly hn hl o0 o1 s0 s1 n1
      · by_cases n2 : nx.getD ly (-1) = seq
        · exact on_expected nx op lv bg sm ls ly seq tick rtt w hly hn hl o0 o1 s0 s1 n2
        · exact on_far nx op lv bg sm ls ly seq tick rtt w hly hn hl o0 o1 s0 s1 (by omega) x1 n2 (by omega)
    refine go.mono ?_
    rintro e w' ⟨rfl, x⟩
    exact ⟨_, rfl, ⟨lv, rfl, mem w' x⟩, x⟩
  · have n1 : 0 ≤ nx.getD ly (-1) := by omega
    have n2 : nx.getD ly (-1) ≠ seq := fun e => c1 (.inr (.inl e))
    have n3 : Ser.fgap (nx.getD ly (-1)) seq ≤ 256 := by omega
    by_cases c2 : Ser.fgap (nx.getD ly (-1)) seq ≤ 0
    · have ed : don (nx, (op, lst), bg, sm, ls) ly seq tick rtt = ((nx, (op, lst), bg, sm, tick), 0, false, false) := by unfold don; rw [if_neg c1, if_pos c2]
      rw [ed]
      refine (on_old nx op lv bg sm ls ly seq tick rtt w hly hn hl o0 o1 s0 s1 n1 x1 n2 c2).mono ?_
      rintro e w' ⟨rfl, x⟩
      exact ⟨_, rfl, ⟨lv, rfl, mem w' x⟩, x⟩
    · by_cases c3 : sm = false ∨ rtt < tick - bg
      · have ed : don (nx, (op, lst), bg, sm, ls) ly seq tick rtt = ((nx.set ly (aft seq), (cnt (cnt 0 (Ser.fgap (nx.getD ly (-1)) seq)) 1, (op :: lst).take 8), tick, true, tick), Ser.fgap (nx.getD ly (-1)) seq, true, ((lst.length : Int) == 0)) := by unfold don; rw [if_neg c1, if_neg c2, if_pos c3]
        rw [ed]
        refine (on_event lst nx op lv bg sm ls ly seq tick rtt w hly hn hl o0 o1 s0 s1 n1 x1 n2 hv l8 (by omega) n3 t0 (by omega) b0 (by omega) c3).mono ?_
        rintro e w' ⟨lv', rfl, hv', x⟩
        exact ⟨_, rfl, ⟨lv', rfl, hv'.mono (fun q _ hq => .inr hq)⟩, x⟩
      · have sm1 : sm = true := by cases sm <;> simp_all
        have ed : don (nx, (op, lst), bg, sm, ls) ly seq tick rtt = ((nx.set ly (aft seq), (cnt (cnt op (Ser.fgap (nx.getD ly (-1)) seq)) 1, lst), bg, sm, tick), Ser.fgap (nx.getD ly (-1)) seq, false, false) := by unfold don; rw [if_neg c1, if_neg c2, if_neg c3]
        rw [ed]
        refine (on_within nx op lv bg sm ls ly seq tick rtt w hly hn hl o0 o1 s0 s1 n1 x1 n2 (by omega) n3 sm1 t0 (by omega) b0 (by omega) (by have : ¬ rtt < tick - bg := fun q => c3 (.inr q); omega)).mono ?_
        rintro e w' ⟨rfl, x⟩
        exact ⟨_, rfl, ⟨lv, rfl, mem w' x⟩, x⟩
end Go.Proofs.Ytlglhggfhlpbjaa.Det
