/-
  Timers as a plain list, in its order: what is put in, what is taken out, what lies in which spoke. No program.
-/
import Derived.Lib.Hide
namespace Go.Proofs.Ythokjkkhkcdceaa
set_option linter.unusedVariables false

abbrev Sts := List (Int × Int)

/-- told ahead: (number, tick) -/
abbrev blt (p q : Int × Int) : Prop := p.2 < q.2 ∨ (p.2 = q.2 ∧ p.1 < q.1)
theorem blt.trans {p q r : Int × Int} (h : blt p q) (k : blt q r) : blt p r := by unfold blt at *; omega
theorem blt.irr (p : Int × Int) : ¬ blt p p := by unfold blt; omega
theorem blt.asym {p q : Int × Int} (h : blt p q) : ¬ blt q p := by unfold blt at *; omega
theorem blt.tot {p q : Int × Int} (h : p.1 ≠ q.1) : blt p q ∨ blt q p := by unfold blt; omega
theorem blt.of_not {p q : Int × Int} (hn : p ≠ q) (h : ¬ blt p q) : blt q p := by
  unfold blt at *
  rcases Int.lt_trichotomy p.1 q.1 with e | e | e <;> rcases Int.lt_trichotomy p.2 q.2 with f | f | f <;> first | omega | (exact absurd (Prod.ext e f) hn)

def Srt (l : Sts) : Prop := l.Pairwise blt
def Uq (l : Sts) : Prop := l.Pairwise fun p q => p.1 ≠ q.1
def sp (l : Sts) (k : Nat) : Sts := l.filter fun p => decide (p.2 % 64 = (k : Int))
def wo (id : Int) (l : Sts) : Sts := l.filter fun p => decide (p.1 ≠ id)
def ins (p : Int × Int) : Sts → Sts
  | [] => [p]
  | q :: r => if blt p q then p :: q :: r else q :: ins p r

theorem ins_cons (p q : Int × Int) (r : Sts) : ins p (q :: r) = if blt p q then p :: q :: r else q :: ins p r := rfl
theorem sp_srt {l : Sts} (h : Srt l) (k : Nat) : Srt (sp l k) := List.Pairwise.filter _ h
theorem wo_srt {l : Sts} (h : Srt l) (id : Int) : Srt (wo id l) := List.Pairwise.filter _ h
theorem sp_uq {l : Sts} (h : Uq l) (k : Nat) : Uq (sp l k) := List.Pairwise.filter _ h
theorem wo_uq {l : Sts} (h : Uq l) (id : Int) : Uq (wo id l) := List.Pairwise.filter _ h
theorem mem_sp {l : Sts} {k : Nat} {p : Int × Int} : p ∈ sp l k ↔ p ∈ l ∧ p.2 % 64 = (k : Int) := by simp [sp]
theorem mem_wo {l : Sts} {id : Int} {p : Int × Int} : p ∈ wo id l ↔ p ∈ l ∧ p.1 ≠ id := by simp [wo]
theorem sp_wo (l : Sts) (id : Int) (k : Nat) : sp (wo id l) k = wo id (sp l k) := by
  simp only [sp, wo, List.filter_filter]
  congr 1; funext p
  exact Bool.and_comm _ _
theorem mem_ins {p q : Int × Int} {l : Sts} : q ∈ ins p l ↔ q = p ∨ q ∈ l := by
  induction l with
  | nil => simp [ins]
  | cons x r ih =>
    rw [ins_cons]
    split
    · simp
    · simp only [List.mem_cons, ih]
      constructor
      · rintro (h | h | h) <;> simp [h]
      · rintro (h | h | h) <;> simp [h]
theorem ins_length (p : Int × Int) (l : Sts) : (ins p l).length = l.length + 1 := by
  induction l with
  | nil => rfl
  | cons x r ih => rw [ins_cons]; split <;> simp [ih]
theorem ins_srt {p : Int × Int} {l : Sts} (h : Srt l) (hn : ∀ q ∈ l, q.1 ≠ p.1) : Srt (ins p l) := by
  induction l with
  | nil => exact List.pairwise_singleton _ _
  | cons x r ih =>
    have h1 := List.pairwise_cons.1 h
    rw [ins_cons]
    split
    · rename_i hlt
      refine List.pairwise_cons.2 ⟨fun q hq => ?_, h⟩
      rcases List.mem_cons.1 hq with rfl | hq
      · exact hlt
      · exact hlt.trans (h1.1 q hq)
    · rename_i hlt
      refine List.pairwise_cons.2 ⟨fun q hq => ?_, ih h1.2 (fun q hq => hn q (List.mem_cons_of_mem _ hq))⟩
      rcases mem_ins.1 hq with rfl | hq
      · rcases blt.tot (hn x (List.mem_cons_self)) with e | e
        · exact e
        · exact absurd e hlt
      · exact h1.1 q hq
theorem ins_uq {p : Int × Int} {l : Sts} (h : Uq l) (hn : ∀ q ∈ l, q.1 ≠ p.1) : Uq (ins p l) := by
  induction l with
  | nil => exact List.pairwise_singleton _ _
  | cons x r ih =>
    have h1 := List.pairwise_cons.1 h
    rw [ins_cons]
    split
    · refine List.pairwise_cons.2 ⟨fun q hq => ?_, h⟩
      exact fun e => hn q hq e.symm
    · refine List.pairwise_cons.2 ⟨fun q hq => ?_, ih h1.2 (fun q hq => hn q (List.mem_cons_of_mem _ hq))⟩
      rcases mem_ins.1 hq with rfl | hq
      · exact hn x (List.mem_cons_self)
      · exact h1.1 q hq
theorem ins_head {p : Int × Int} {l : Sts} (h : ∀ q ∈ l, blt p q) : ins p l = p :: l := by
  cases l with
  | nil => rfl
  | cons x r => rw [ins_cons, if_pos (h x (List.mem_cons_self))]
theorem sp_ins {p : Int × Int} {l : Sts} (h : Srt l) (k : Nat) : sp (ins p l) k = if p.2 % 64 = (k : Int) then ins p (sp l k) else sp l k := by
  induction l with
  | nil =>
    by_cases e : p.2 % 64 = (k : Int)
    · simp [sp, ins, e]
    · simp [sp, ins, e]
  | cons x r ih =>
    have h1 := List.pairwise_cons.1 h
    have i2 := ih h1.2
    rw [ins_cons]
    by_cases hlt : blt p x
    · rw [if_pos hlt]
      have a : ∀ q ∈ sp (x :: r) k, blt p q := by
        intro q hq
        rcases List.mem_cons.1 (mem_sp.1 hq).1 with rfl | hq
        · exact hlt
        · exact hlt.trans (h1.1 q hq)
      by_cases e : p.2 % 64 = (k : Int)
      · rw [if_pos e, ins_head a]
        conv => lhs; unfold sp
        rw [List.filter_cons_of_pos (by simpa using e)]; rfl
      · rw [if_neg e]
        conv => lhs; unfold sp
        rw [List.filter_cons_of_neg (by simpa using e)]; rfl
    · rw [if_neg hlt]
      by_cases ex : x.2 % 64 = (k : Int)
      · have e1 : ∀ z, sp (x :: z) k = x :: sp z k := fun z => by unfold sp; rw [List.filter_cons_of_pos (by simpa using ex)]
        rw [e1 (ins p r), e1 r, i2]
        by_cases e : p.2 % 64 = (k : Int)
        · rw [if_pos e, if_pos e]
          rw [ins_cons, if_neg hlt]
        · rw [if_neg e, if_neg e]
      · have e1 : ∀ z, sp (x :: z) k = sp z k := fun z => by unfold sp; rw [List.filter_cons_of_neg (by simpa using ex)]
        rw [e1 (ins p r), e1 r, i2]
theorem ins_at {p : Int × Int} : ∀ (s : Sts) (k : Nat), k ≤ s.length → (∀ i, i < k → ¬ blt p (s.getD i (0, 0))) → (∀ i, k ≤ i → i < s.length → blt p (s.getD i (0, 0))) → ins p s = s.take k ++ [p] ++ s.drop k := by
  intro s
  induction s with
  | nil => intro k h1 _ _; simp at h1; subst h1; rfl
  | cons x r ih =>
    intro k h1 h2 h3
    cases k with
    | zero =>
      have := h3 0 (Nat.le_refl _) (by simp)
      rw [ins_cons, if_pos (by simpa using this)]
      simp
    | succ k =>
      have := h2 0 (by omega)
      rw [ins_cons, if_neg (by simpa using this), ih k (by simpa using h1) (fun i hi => by simpa using h2 (i + 1) (by omega)) (fun i hi hl => by simpa using h3 (i + 1) (by omega) (by simpa using hl))]
      simp
theorem wo_none {id : Int} {l : Sts} (h : ∀ p ∈ l, p.1 ≠ id) : wo id l = l := by
  unfold wo
  exact List.filter_eq_self.2 fun p hp => by simpa using h p hp
theorem wo_at {id : Int} : ∀ (s : Sts) (k : Nat), Uq s → k < s.length → (s.getD k (0, 0)).1 = id → wo id s = s.take k ++ s.drop (k + 1) := by
  intro s
  induction s with
  | nil => intro k _ h; simp at h
  | cons x r ih =>
    intro k hu h e
    have hu1 := List.pairwise_cons.1 hu
    cases k with
    | zero =>
      simp at e
      have : wo id (x :: r) = wo id r := by unfold wo; rw [List.filter_cons_of_neg (by simpa using e)]
      rw [this, wo_none (fun p hp => fun e2 => hu1.1 p hp (by rw [e, e2]))]
      simp
    | succ k =>
      have hk : k < r.length := by simpa using h
      have e2 : (r.getD k (0, 0)).1 = id := by simpa using e
      have hm : r.getD k (0, 0) ∈ r := by rw [List.getD_eq_getElem?_getD, List.getElem?_eq_getElem hk]; exact List.getElem_mem hk
      have hx : x.1 ≠ id := by rw [← e2]; exact hu1.1 _ hm
      have : wo id (x :: r) = x :: wo id r := by unfold wo; rw [List.filter_cons_of_pos (by simpa using hx)]
      rw [this, ih k hu1.2 hk e2]
      simp
theorem wo_length_le (id : Int) (l : Sts) : (wo id l).length ≤ l.length := List.length_filter_le _ _
theorem wo_lt {id : Int} {l : Sts} {p : Int × Int} (hp : p ∈ l) (e : p.1 = id) : (wo id l).length < l.length := by
  unfold wo
  rcases Nat.lt_or_eq_of_le (List.length_filter_le (fun p : Int × Int => decide (p.1 ≠ id)) l) with h | h
  · exact h
  · have := (List.length_filter_eq_length_iff).1 h p hp
    simp [e] at this

/-- how many lie in the first k spokes -/
def cnt (l : Sts) (k : Nat) : Nat := (l.filter fun p => decide (p.2 % 64 < (k : Int))).length
theorem cnt_zero (l : Sts) : cnt l 0 = 0 := by
  unfold cnt
  rw [List.length_eq_zero_iff, List.filter_eq_nil_iff]
  intro p _
  have := Int.emod_nonneg p.2 (show (64 : Int) ≠ 0 by decide)
  simp; omega
theorem cnt_succ (l : Sts) (k : Nat) : cnt l (k + 1) = cnt l k + (sp l k).length := by
  unfold cnt sp
  induction l with
  | nil => rfl
  | cons p r ih =>
    rcases Int.lt_trichotomy (p.2 % 64) (k : Int) with e | e | e
    · rw [List.filter_cons_of_pos (by simp; omega), List.filter_cons_of_pos (by simp; omega), List.filter_cons_of_neg (by simp; omega)]
      simp only [List.length_cons]; omega
    · rw [List.filter_cons_of_pos (by simp; omega), List.filter_cons_of_neg (by simp; omega), List.filter_cons_of_pos (by simp; omega)]
      simp only [List.length_cons]; omega
    · rw [List.filter_cons_of_neg (by simp; omega), List.filter_cons_of_neg (by simp; omega), List.filter_cons_of_neg (by simp; omega)]
      exact ih
theorem cnt_all (l : Sts) : cnt l 64 = l.length := by
  unfold cnt
  rw [List.filter_eq_self.2]
  intro p _
  have := Int.emod_lt_of_pos p.2 (show (0 : Int) < 64 by decide)
  simp; omega
theorem sp_le (l : Sts) (k : Nat) : (sp l k).length ≤ l.length := List.length_filter_le _ _
theorem cnt_le (l : Sts) (k : Nat) : cnt l k ≤ l.length := List.length_filter_le _ _

/-- which spoke a timer lies in -/
theorem spoke_of (p : Int × Int) : ∃ k : Nat, k < 64 ∧ p.2 % 64 = (k : Int) := by
  have h1 := Int.emod_nonneg p.2 (show (64 : Int) ≠ 0 by decide)
  have h2 := Int.emod_lt_of_pos p.2 (show (0 : Int) < 64 by decide)
  exact ⟨(p.2 % 64).toNat, by omega, by omega⟩

/-- the first of the first k spokes begins spoke f -/
def Least (l : Sts) (k f : Nat) (p : Int × Int) : Prop := f < 64 ∧ (∃ r, sp l f = p :: r) ∧ ∀ q ∈ l, q.2 % 64 < (k : Int) → q = p ∨ blt p q
def NoneIn (l : Sts) (k : Nat) : Prop := ∀ q ∈ l, ¬ q.2 % 64 < (k : Int)
theorem NoneIn.zero (l : Sts) : NoneIn l 0 := fun q _ h => by
  have := Int.emod_nonneg q.2 (show (64 : Int) ≠ 0 by decide)
  omega
theorem NoneIn.step {l : Sts} {k : Nat} (h : NoneIn l k) (e : sp l k = []) : NoneIn l (k + 1) := by
  intro q hq hlt
  have := h q hq
  have h2 : q ∉ sp l k := by rw [e]; simp
  rw [mem_sp] at h2
  exact h2 ⟨hq, by omega⟩
theorem NoneIn.all {l : Sts} (h : NoneIn l 64) : l = [] := by
  cases l with
  | nil => rfl
  | cons p r =>
    have := h p (List.mem_cons_self)
    have := Int.emod_lt_of_pos p.2 (show (0 : Int) < 64 by decide)
    omega
theorem sp_least {l : Sts} (h : Srt l) {k : Nat} {p : Int × Int} {r : Sts} (e : sp l k = p :: r) : ∀ q ∈ l, q.2 % 64 = (k : Int) → q = p ∨ blt p q := by
  intro q hq hk
  have h1 : q ∈ sp l k := mem_sp.2 ⟨hq, hk⟩
  have h2 := sp_srt h k
  rw [e] at h1 h2
  rcases List.mem_cons.1 h1 with rfl | h3
  · exact .inl rfl
  · exact .inr ((List.pairwise_cons.1 h2).1 q h3)
theorem Least.first {l : Sts} (h : Srt l) {k : Nat} (hk : k < 64) {p : Int × Int} {r : Sts} (e : sp l k = p :: r) (hn : NoneIn l k) : Least l (k + 1) k p := by
  refine ⟨hk, ⟨r, e⟩, fun q hq hlt => ?_⟩
  have := hn q hq
  exact sp_least h e q hq (by omega)
theorem Least.stay {l : Sts} {k f : Nat} {p : Int × Int} (h : Least l k f p) (e : sp l k = []) : Least l (k + 1) f p := by
  refine ⟨h.1, h.2.1, fun q hq hlt => h.2.2 q hq ?_⟩
  have h2 : q ∉ sp l k := by rw [e]; simp
  rw [mem_sp] at h2
  rcases Int.lt_or_eq_of_le (show q.2 % 64 ≤ (k : Int) by omega) with e | e
  · exact e
  · exact absurd ⟨hq, e⟩ h2
theorem Least.over {l : Sts} (hs : Srt l) {k f : Nat} (hk : k < 64) {p q : Int × Int} {r : Sts} (h : Least l k f p) (e : sp l k = q :: r) (hb : blt q p) : Least l (k + 1) k q := by
  refine ⟨hk, ⟨r, e⟩, fun x hx hlt => ?_⟩
  by_cases ex : x.2 % 64 = (k : Int)
  · exact sp_least hs e x hx ex
  · rcases h.2.2 x hx (by omega) with rfl | h2
    · exact .inr hb
    · exact .inr (hb.trans h2)
theorem Least.keep {l : Sts} (hs : Srt l) {k f : Nat} {p q : Int × Int} {r : Sts} (h : Least l k f p) (e : sp l k = q :: r) (hb : blt p q) : Least l (k + 1) f p := by
  refine ⟨h.1, h.2.1, fun x hx hlt => ?_⟩
  by_cases ex : x.2 % 64 = (k : Int)
  · rcases sp_least hs e x hx ex with rfl | h2
    · exact .inr hb
    · exact .inr (hb.trans h2)
  · exact h.2.2 x hx (by omega)
theorem Least.all {l : Sts} (hs : Srt l) {f : Nat} {p : Int × Int} (h : Least l 64 f p) : ∃ r, l = p :: r ∧ p.2 % 64 = (f : Int) := by
  obtain ⟨r, e⟩ := h.2.1
  have hp : p ∈ sp l f := by rw [e]; exact List.mem_cons_self
  have hp2 := mem_sp.1 hp
  cases l with
  | nil => simp at hp2
  | cons x z =>
    have hx := h.2.2 x (List.mem_cons_self) (Int.emod_lt_of_pos x.2 (show (0 : Int) < 64 by decide))
    rcases hx with rfl | hx
    · exact ⟨z, rfl, hp2.2⟩
    · rcases List.mem_cons.1 hp2.1 with e2 | e2
      · subst e2; exact absurd hx (blt.irr _)
      · exact absurd hx ((List.pairwise_cons.1 hs).1 p e2).asym

/-- a list such as a wheel's -/
def Wl (l : Sts) : Prop := Srt l ∧ Uq l ∧ (∀ p ∈ l, 0 ≤ p.2 ∧ p.2 ≤ 2199023255552) ∧ l.length ≤ 1024
theorem Wl.nil : Wl [] := ⟨List.Pairwise.nil, List.Pairwise.nil, fun _ h => by simp at h, Nat.zero_le _⟩
theorem Wl.wo {l : Sts} (h : Wl l) (id : Int) : Wl (wo id l) := ⟨wo_srt h.1 id, wo_uq h.2.1 id, fun p hp => h.2.2.1 p (mem_wo.1 hp).1, Nat.le_trans (wo_length_le id l) h.2.2.2⟩
theorem Wl.ins {l : Sts} (h : Wl l) {id tick : Int} (hn : ∀ q ∈ l, q.1 ≠ id) (ht : 0 ≤ tick ∧ tick ≤ 2199023255552) (hl : l.length < 1024) : Wl (ins (id, tick) l) :=
  ⟨ins_srt h.1 hn, ins_uq h.2.1 hn, fun p hp => by rcases mem_ins.1 hp with rfl | h2; exact ht; exact h.2.2.1 p h2, by rw [ins_length]; omega⟩
theorem Wl.tail {p : Int × Int} {l : Sts} (h : Wl (p :: l)) : Wl l :=
  ⟨(List.pairwise_cons.1 h.1).2, (List.pairwise_cons.1 h.2.1).2, fun q hq => h.2.2.1 q (List.mem_cons_of_mem _ hq), by have := h.2.2.2; simp at this; omega⟩
theorem wo_head {p : Int × Int} {l : Sts} (h : Uq (p :: l)) : wo p.1 (p :: l) = l := by
  have := wo_at (id := p.1) (p :: l) 0 h (by simp) rfl
  simpa using this
theorem head_least {p : Int × Int} {l : Sts} (h : Srt (p :: l)) : ∀ q ∈ l, blt p q := (List.pairwise_cons.1 h).1

/-- is the number there? -/
def has (l : Sts) (id : Int) : Bool := l.any fun p => p.1 == id
theorem has_no {l : Sts} {id : Int} (h : has l id = false) : ∀ p ∈ l, p.1 ≠ id := by
  intro p hp e
  have : has l id = true := List.any_eq_true.2 ⟨p, hp, by simpa using e⟩
  rw [h] at this; cases this
theorem has_yes {l : Sts} {id : Int} (h : has l id = true) : ∃ p ∈ l, p.1 = id := by
  obtain ⟨p, hp, e⟩ := List.any_eq_true.1 h
  exact ⟨p, hp, by simpa using e⟩
theorem has_of {l : Sts} {id : Int} {p : Int × Int} (hp : p ∈ l) (e : p.1 = id) : has l id = true := List.any_eq_true.2 ⟨p, hp, by simpa using e⟩
theorem has_not {l : Sts} {id : Int} (h : ∀ p ∈ l, p.1 ≠ id) : has l id = false := by
  cases e : has l id with
  | false => rfl
  | true => obtain ⟨p, hp, e2⟩ := has_yes e; exact absurd e2 (h p hp)

/-- what a call makes of a list, and which error it tells -/
def callv (l : Sts) (kind id tick : Int) : Sts × Int :=
  if kind ≠ 3 ∧ (tick < 0 ∨ 2199023255552 < tick) then (l, 11)
  else if kind = 1 then (if has l id = true then (l, 13) else if 1024 ≤ l.length then (l, 15) else (ins (id, tick) l, 0))
  else if has l id = false then (l, 14)
  else if kind = 3 then (wo id l, 0) else (ins (id, tick) (wo id l), 0)
theorem wo_has_no (l : Sts) (id : Int) : ∀ q ∈ wo id l, q.1 ≠ id := fun q hq => (mem_wo.1 hq).2
theorem Wl.call {l : Sts} (h : Wl l) (kind id tick : Int) : Wl (callv l kind id tick).1 := by
  unfold callv
  split
  · exact h
  · rename_i h1
    split
    · rename_i h2
      split
      · exact h
      · rename_i h3
        split
        · exact h
        · refine h.ins (has_no (by simpa using h3)) ?_ (by omega)
          omega
    · split
      · exact h
      · rename_i h2 h3
        obtain ⟨p, hp, e⟩ := has_yes (by simpa using h3)
        split
        · exact h.wo id
        · refine (h.wo id).ins (wo_has_no l id) (by omega) ?_
          have := wo_lt hp e
          have := h.2.2.2
          omega
end Go.Proofs.Ythokjkkhkcdceaa
