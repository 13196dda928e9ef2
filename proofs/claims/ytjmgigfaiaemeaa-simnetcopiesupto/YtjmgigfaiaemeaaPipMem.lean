/-
  A pipe in memory: its block, the row of its messages, each message's bytes. Walks of New, Len, Room, Due, Peek.
-/
import Derived.Test.YtjmgigfaiaemeaaPipByte
namespace Go.Proofs.Ytjmgigfaiaemeaa.Pip
set_option linter.unusedVariables false
set_option maxRecDepth 100000
open Go.RowKit Go.Lib

/-- a message: when it is due, the slice of its bytes, they -/
abbrev Msg := Int × Sl × List UInt8
def mval (p : Msg) : Int × Sl := (p.1, p.2.1)
def told (p : Msg) : Int × List UInt8 := (p.1, p.2.2)
def Apart (p q : Msg) : Prop := ∀ g, (sval p.2.1).ownBlock = some g → (sval q.2.1).ownBlock ≠ some g
theorem Apart.symm {p q : Msg} (h : Apart p q) : Apart q p := fun g h1 h2 => h g h2 h1

/-- a pipe lies at block b: its room, its row, its messages -/
def PipV (w : World) (b : Nat) (room : Int) (v : Value) (ml : List Msg) : Prop :=
  w.heap[b]? = some (.cells #[.int .i64 room, v] 96 (0, 0)) ∧ OwnM w v (ml.map mval) ∧ ∀ p ∈ ml, p.2.2.length ≤ 320 ∧ OwnB w (sval p.2.1) p.2.2
theorem PipV.cells {w : World} {b : Nat} {room : Int} {v : Value} {ml : List Msg} (h : PipV w b room v ml) : w.cell? ⟨b, 0, none⟩ = some (.int .i64 room) ∧ w.cell? ⟨b, 1, none⟩ = some v :=
  ⟨by rw [cell_of_row w b 0 _ _ _ h.1]; rfl, by rw [cell_of_row w b 1 _ _ _ h.1]; rfl⟩
theorem PipV.lt {w : World} {b : Nat} {room : Int} {v : Value} {ml : List Msg} (h : PipV w b room v ml) : b < w.heap.size := lt_of_row h.1
theorem PipV.kept {L : Nat → Prop} {w w' : World} {b : Nat} {room : Int} {v : Value} {ml : List Msg} (h : PipV w b room v ml) (k : Kept L w w') (hb : L b) (hv : ∀ g, v.ownBlock = some g → L g) (hm : ∀ p ∈ ml, ∀ g, (sval p.2.1).ownBlock = some g → L g) : PipV w' b room v ml :=
  ⟨k.row hb h.1, h.2.1.kept k hv, fun p hp => ⟨(h.2.2 p hp).1, (h.2.2 p hp).2.kept k (hm p hp)⟩⟩
theorem PipV.ext {w w' : World} {b : Nat} {room : Int} {v : Value} {ml : List Msg} (h : PipV w b room v ml) (e : Ext w w') : PipV w' b room v ml :=
  h.kept (L := fun _ => True) (Kept.of_ext e) trivial (fun _ _ => trivial) (fun _ _ _ _ => trivial)

theorem ownM_type {w : World} {v : Value} {m : Mv} (h : OwnM w v m) {g : Nat} (hg : v.ownBlock = some g) : ∃ cur, w.heap[g]? = some (.cells cur 99 (0, 0)) := by
  rcases h.2 with ⟨rfl, _⟩ | ⟨g', cap, cur, rfl, _, hgg, _⟩
  · simp [Value.ownBlock] at hg
  · simp only [Value.ownBlock, Option.some.injEq] at hg
    subst hg
    exact ⟨cur, hgg⟩
theorem ownB_type {w : World} {v : Value} {l : List UInt8} (h : OwnB w v l) {g : Nat} (hg : v.ownBlock = some g) : ∃ cur, w.heap[g]? = some (.cells cur 5 (0, 0)) := by
  rcases h.2 with ⟨rfl, _⟩ | ⟨g', cap, cur, rfl, _, hgg, _⟩
  · simp [Value.ownBlock] at hg
  · simp only [Value.ownBlock, Option.some.injEq] at hg
    subst hg
    exact ⟨cur, hgg⟩
/-- a row's block is not the pipe's, nor bytes' -/
theorem PipV.row_ne {w : World} {b : Nat} {room : Int} {v : Value} {ml : List Msg} (h : PipV w b room v ml) {g : Nat} (hg : v.ownBlock = some g) : g ≠ b := by
  obtain ⟨cur, e⟩ := ownM_type h.2.1 hg
  rintro rfl
  rw [h.1] at e
  simp at e
theorem PipV.byte_ne {w : World} {b : Nat} {room : Int} {v : Value} {ml : List Msg} (h : PipV w b room v ml) {p : Msg} (hp : p ∈ ml) {g : Nat} (hg : (sval p.2.1).ownBlock = some g) : g ≠ b ∧ v.ownBlock ≠ some g := by
  obtain ⟨cur, e⟩ := ownB_type (h.2.2 p hp).2 hg
  refine ⟨?_, fun h2 => ?_⟩
  · rintro rfl
    rw [h.1] at e
    simp at e
  · obtain ⟨cur2, e2⟩ := ownM_type h.2.1 h2
    rw [e] at e2
    simp at e2

/-- .. and none of it lies in the blocks of K, which are all there; each message has bytes of its own -/
def PipU (K : Nat → Prop) (w : World) (b : Nat) (room : Int) (v : Value) (ml : List Msg) : Prop :=
  PipV w b room v ml ∧ ¬ K b ∧ (∀ g, v.ownBlock = some g → ¬ K g) ∧ (∀ p ∈ ml, ∀ g, (sval p.2.1).ownBlock = some g → ¬ K g) ∧ ml.Pairwise Apart ∧ ∀ i, K i → i < w.heap.size
theorem PipU.ext {K : Nat → Prop} {w w' : World} {b : Nat} {room : Int} {v : Value} {ml : List Msg} (h : PipU K w b room v ml) (e : Ext w w') : PipU K w' b room v ml :=
  ⟨h.1.ext e, h.2.1, h.2.2.1, h.2.2.2.1, h.2.2.2.2.1, fun i hi => Nat.lt_of_lt_of_le (h.2.2.2.2.2 i hi) e.size⟩
theorem PipU.less {K L : Nat → Prop} {w : World} {b : Nat} {room : Int} {v : Value} {ml : List Msg} (h : PipU K w b room v ml) (hL : ∀ i, L i → K i) : PipU L w b room v ml :=
  ⟨h.1, fun q => h.2.1 (hL _ q), fun g hg q => h.2.2.1 g hg (hL _ q), fun p hp g hg q => h.2.2.2.1 p hp g hg (hL _ q), h.2.2.2.2.1, fun i hi => h.2.2.2.2.2 i (hL i hi)⟩
/-- what does not lie in the pipe may join K -/
theorem PipU.join {K L : Nat → Prop} {w : World} {b : Nat} {room : Int} {v : Value} {ml : List Msg} (h : PipU K w b room v ml) (hb : ¬ L b) (hv : ∀ g, v.ownBlock = some g → ¬ L g) (hm : ∀ p ∈ ml, ∀ g, (sval p.2.1).ownBlock = some g → ¬ L g) (hL : ∀ i, L i → i < w.heap.size) : PipU (fun i => K i ∨ L i) w b room v ml :=
  ⟨h.1, fun q => q.elim h.2.1 hb, fun g hg q => q.elim (h.2.2.1 g hg) (hv g hg), fun p hp g hg q => q.elim (h.2.2.2.1 p hp g hg) (hm p hp g hg), h.2.2.2.2.1, fun i hi => hi.elim (h.2.2.2.2.2 i) (hL i)⟩
theorem PipU.more {K : Nat → Prop} {w w' : World} {b : Nat} {room : Int} {v : Value} {ml : List Msg} (h : PipU K w b room v ml) (e : Ext w w') : PipU (fun i => K i ∨ (w.heap.size ≤ i ∧ i < w'.heap.size)) w' b room v ml := by
  refine (h.ext e).join (fun q => ?_) (fun g hg q => ?_) (fun p hp g hg q => ?_) (fun i hi => hi.2)
  · have := h.1.lt; omega
  · have := (World.ownsRow.lt h.1.2.1 g hg).2; omega
  · have := (h.1.2.2 p hp).2.lt hg; omega
/-- a block that is none of its own, written -/
theorem PipU.row {K : Nat → Prop} {w : World} {b : Nat} {room : Int} {v : Value} {ml : List Msg} (h : PipU K w b room v ml) {g : Nat} (hg : K g) (cs : Array Value) : PipU K (w.setRow g cs) b room v ml := by
  have KX : Kept (fun j => j ≠ g) w (w.setRow g cs) := (Kept.refl _ w).setRow (fun hne => hne rfl) _
  exact ⟨h.1.kept KX (fun e => h.2.1 (e ▸ hg)) (fun g' e e2 => h.2.2.1 g' e (e2 ▸ hg)) (fun p hp g' e e2 => h.2.2.2.1 p hp g' e (e2 ▸ hg)), h.2.1, h.2.2.1, h.2.2.2.1, h.2.2.2.2.1, fun i hi => by simpa using h.2.2.2.2.2 i hi⟩
theorem PipU.cell {K : Nat → Prop} {w : World} {b : Nat} {room : Int} {v : Value} {ml : List Msg} (h : PipU K w b room v ml) {g : Nat} (hg : K g) (i : Nat) (x : Value) : PipU K (w.setCell ⟨g, i, none⟩ x) b room v ml := by
  have KX : Kept (fun j => j ≠ g) w (w.setCell ⟨g, i, none⟩ x) := (Kept.refl _ w).setCell (fun hne => hne rfl) _
  exact ⟨h.1.kept KX (fun e => h.2.1 (e ▸ hg)) (fun g' e e2 => h.2.2.1 g' e (e2 ▸ hg)) (fun p hp g' e e2 => h.2.2.2.1 p hp g' e (e2 ▸ hg)), h.2.1, h.2.2.1, h.2.2.2.1, h.2.2.2.2.1, fun i hi => by simpa using h.2.2.2.2.2 i hi⟩

/-- a pipe that tells l -/
def PipK (K : Nat → Prop) (w : World) (b : Nat) (room : Int) (l : Ms) : Prop := (1 ≤ room ∧ room ≤ 256 ∧ Srt l ∧ (l.length : Int) ≤ room) ∧ ∃ v ml, PipU K w b room v ml ∧ ml.map told = l
theorem PipK.un {K : Nat → Prop} {w : World} {b : Nat} {room : Int} {l : Ms} (h : PipK K w b room l) : ∃ v ml, PipU K w b room v ml ∧ ml.map told = l := h.2
theorem PipK.ext {K : Nat → Prop} {w w' : World} {b : Nat} {room : Int} {l : Ms} (h : PipK K w b room l) (e : Ext w w') : PipK K w' b room l := ⟨h.1, h.2.elim fun v h => h.elim fun ml h => ⟨v, ml, h.1.ext e, h.2⟩⟩
theorem PipK.less {K L : Nat → Prop} {w : World} {b : Nat} {room : Int} {l : Ms} (h : PipK K w b room l) (hL : ∀ i, L i → K i) : PipK L w b room l := ⟨h.1, h.2.elim fun v h => h.elim fun ml h => ⟨v, ml, h.1.less hL, h.2⟩⟩
theorem PipK.more {K : Nat → Prop} {w w' : World} {b : Nat} {room : Int} {l : Ms} (h : PipK K w b room l) (e : Ext w w') : PipK (fun i => K i ∨ (w.heap.size ≤ i ∧ i < w'.heap.size)) w' b room l := ⟨h.1, h.2.elim fun v h => h.elim fun ml h => ⟨v, ml, h.1.more e, h.2⟩⟩
theorem PipK.there {K : Nat → Prop} {w : World} {b : Nat} {room : Int} {l : Ms} (h : PipK K w b room l) : ∀ i, K i → i < w.heap.size := h.2.elim fun v h => h.elim fun ml h => h.1.2.2.2.2.2
theorem PipK.cell {K : Nat → Prop} {w : World} {b : Nat} {room : Int} {l : Ms} (h : PipK K w b room l) {g : Nat} (hg : K g) (i : Nat) (x : Value) : PipK K (w.setCell ⟨g, i, none⟩ x) b room l := ⟨h.1, h.2.elim fun v h => h.elim fun ml h => ⟨v, ml, h.1.cell hg i x, h.2⟩⟩
theorem PipK.off {K : Nat → Prop} {w : World} {b : Nat} {room : Int} {l : Ms} (h : PipK K w b room l) : ¬ K b := h.2.elim fun v h => h.elim fun ml h => h.1.2.1

/-- New -/
theorem new_bad (room : Int) (w : World) (h : room < 1 ∨ 256 < room) :
    Calls Try.prog 18 #[.int .i64 room] w fun e w' => e = .returned (.tuple #[.pointer none, .int .i64 11]) ∧ w' = w := by
  by_cases h1 : room < 1
  · go_enter Try.func18, Try.ntmps18
    go_wp2
    go_ret2
    exact ⟨rfl, rfl⟩
  · have h2 : 256 < room := by omega
    clear h
    go_enter Try.func18, Try.ntmps18
    go_wp2
    go_ret2
    exact ⟨rfl, rfl⟩
theorem new_any (room : Int) (w : World) (h1 : ¬ room < 1) (h2 : ¬ 256 < room) :
    Calls Try.prog 18 #[.int .i64 room] w fun e w' => e = .returned (.tuple #[.pointer (some ⟨w.heap.size, 0, none⟩), .int .i64 0]) ∧ w' = w.alloc (.cells #[.int .i64 room, .slice none 0 0] 96 (0, 0)) := by
  go_enter Try.func18, Try.ntmps18
  go_wp2
  go_ret2
  exact ⟨rfl, rfl⟩
theorem new_pipe (room : Int) (w : World) (h1 : ¬ room < 1) (h2 : ¬ 256 < room) : PipK (fun i => i < w.heap.size) (w.alloc (.cells #[.int .i64 room, .slice none 0 0] 96 (0, 0))) w.heap.size room [] := by
  refine ⟨⟨by omega, by omega, List.Pairwise.nil, by simp; omega⟩, .slice none 0 0, [], ⟨⟨heap_alloc_new w _, World.ownsRow_nil _ _ _ _, fun p hp => by simp at hp⟩, by omega, fun g hg => by simp [Value.ownBlock] at hg, fun p hp => by simp at hp, List.Pairwise.nil, fun i hi => by simp; omega⟩, rfl⟩

theorem PipV.slice {w : World} {b : Nat} {room : Int} {v : Value} {ml : List Msg} (h : PipV w b room v ml) : ∃ ao c, v = .slice ao ml.length c ∧ ml.length ≤ c ∧ c ≤ maxLen := by
  obtain ⟨ao, c, e, h1, h2, _⟩ := h.2.1.view
  rw [List.length_map] at e h1
  exact ⟨ao, c, e, h1, h2⟩

theorem len_any (b : Nat) (room : Int) (v : Value) (ml : List Msg) (w : World) (hw : PipV w b room v ml) :
    Calls Try.prog 42 #[.pointer (some ⟨b, 0, none⟩)] w fun e w' => e = .returned (.int .i64 (ml.length : Int)) ∧ w' = w := by
  obtain ⟨ao, c, rfl, k1, k2⟩ := hw.slice
  obtain ⟨c0, c1⟩ := hw.cells
  unfold maxLen at k2
  clear hw
  generalize ml.length = n at *
  go_enter Try.func42, Try.ntmps42
  go_wp2
  go_ret
  exact ⟨rfl, rfl⟩

theorem room_any (b : Nat) (room : Int) (v : Value) (ml : List Msg) (w : World) (hw : PipV w b room v ml) (hr : 1 ≤ room ∧ room ≤ 256) (hl : (ml.length : Int) ≤ room) :
    Calls Try.prog 61 #[.pointer (some ⟨b, 0, none⟩)] w fun e w' => e = .returned (.int .i64 (room - (ml.length : Int))) ∧ ∃ m, w' = w.drewN m := by
  obtain ⟨ao, c, rfl, k1, k2⟩ := hw.slice
  obtain ⟨c0, c1⟩ := hw.cells
  unfold maxLen at k2
  clear hw
  generalize ml.length = n at *
  have e1 : IntKind.i64.wrap (room - (n : Int)) = room - (n : Int) := IntWalk.i64_in _ (by omega)
  go_enter Try.func61, Try.ntmps61
  go_wp2
  go_quiet (fail)
  go_wp2
  go_ret
  exact ⟨rfl, _, rfl⟩

/-- is the i-th message due behind n? -/
theorem dueOf_any (b g1 g2 i : Nat) (n room : Int) (v : Value) (ml : List Msg) (w : World) (hs : PipV w b room v ml) (h1 : w.cell? ⟨g1, 0, none⟩ = some (.pointer (some ⟨b, 0, none⟩))) (h2 : w.cell? ⟨g2, 0, none⟩ = some (.int .i64 n)) (hi : i < ml.length) :
    Calls Try.prog 59 #[.int .i64 i, .pointer (some ⟨g1, 0, none⟩), .pointer (some ⟨g2, 0, none⟩)] w fun e w' => e = .returned (.bool (decide (n < ((ml.map mval).getD i (0, (none, 0, 0))).1))) ∧ ∃ m, w' = w.drewN m := by
  obtain ⟨c0, c⟩ := hs.cells
  obtain ⟨ao, cp, rfl, k1, k2, vw⟩ := hs.2.1.view
  obtain ⟨g, rfl, x1, x2⟩ := vw i (by simpa using hi)
  rw [List.length_map] at c k1
  have i1 : (i : Int) < (ml.length : Int) := by omega
  have i2 : (0 : Int) ≤ (i : Int) := by omega
  clear vw hs x2 c0
  generalize ((ml.map mval).getD i (0, (none, 0, 0))).1 = d at *
  generalize ml.length = q at *
  go_enter Try.func59, Try.ntmps59
  go_wp2
  go_quiet (fail)
  go_wp2
  go_ret
  exact ⟨rfl, _, rfl⟩

set_option maxHeartbeats 1000000 in
/-- sort.Search, over a closure that only reads -/
theorem search_any (g1 g2 n : Nat) (p : Nat → Bool) (w : World) (hn : n ≤ 1000000)
    (hf : ∀ h m, h < n → Calls Try.prog 59 #[.int .i64 (h : Int), .pointer (some ⟨g1, 0, none⟩), .pointer (some ⟨g2, 0, none⟩)] (w.drewN m) fun e w' => e = .returned (.bool (p h)) ∧ ∃ m', w' = w.drewN m')
    (hm : ∀ i j, i < j → j < n → p i = true → p j = true) :
    Calls Try.prog 58 #[.int .i64 (n : Int), .func (.func 59) #[] #[.pointer (some ⟨g1, 0, none⟩), .pointer (some ⟨g2, 0, none⟩)]] w fun e w' =>
      ∃ k : Nat, e = .returned (.int .i64 (k : Int)) ∧ k ≤ n ∧ (∀ i, i < k → p i = false) ∧ (∀ i, k ≤ i → i < n → p i = true) ∧ ∃ m, w' = w.drewN m := by
  have HF := hid hf
  have HM := hid hm
  clear hf hm
  go_enter Try.func58, Try.ntmps58
  go_wp2
  go_loopw [5, 6] (fun i j wr => ∃ a b m : Nat, a ≤ b ∧ b ≤ n ∧ i = .int .i64 (a : Int) ∧ j = .int .i64 (b : Int) ∧ wr = w.drewN m ∧ (∀ q, q < a → p q = false) ∧ (∀ q, b ≤ q → q < n → p q = true)) (fun i j _ => (intOf j - intOf i).toNat)
  case atStart => exact ⟨0, n, 0, by omega, by omega, rfl, rfl, rfl, fun q hq => by omega, fun q h1 h2 => by omega⟩
  case round =>
    obtain ⟨a, b, m, hab, hb, rfl, rfl, rfl, L1, L2⟩ := hrel
    have LL := hid (And.intro L1 L2)
    clear L1 L2
    by_cases t : a < b
    · obtain ⟨h, eh, h1, h2⟩ : ∃ h : Nat, ((a : Int) + (b : Int)) / 2 = (h : Int) ∧ a ≤ h ∧ h < b := ⟨(a + b) / 2, by omega, by omega, by omega⟩
      have C := hid (HF.out h m (by omega))
      have t1 : (a : Int) < (b : Int) := by omega
      have P1 : Hid (p h = false → ∀ q, q < h + 1 → p q = false) := by
        intro e q hq
        cases ep : p q with
        | false => rfl
        | true =>
          rcases Nat.eq_or_lt_of_le (show q ≤ h by omega) with e2 | e2
          · rw [e2, e] at ep; cases ep
          · have := HM.out q h e2 (by omega) ep
            rw [e] at this; cases this
      have P2 : Hid (p h = true → ∀ q, h ≤ q → q < n → p q = true) := by
        intro e q h3 h4
        rcases Nat.eq_or_lt_of_le h3 with e2 | e2
        · rw [← e2]; exact e
        · exact HM.out h q e2 h4 e
      obtain ⟨y, ey⟩ : ∃ y, y = p h := ⟨_, rfl⟩
      rw [← ey] at C P1 P2
      clear ey
      go_wp2_with fail
      refine C.out.mono ?_
      rintro e w1 ⟨rfl, m', rfl⟩
      clear C eh
      cases y with
      | false =>
        have Q1 := hid (P1.out rfl)
        go_wp2_with fail
        go_roundw
        case rel => exact ⟨h + 1, b, m', by omega, hb, by go_num, rfl, rfl, Q1.out, LL.2⟩
        case measure => simp [intOf]; omega
      | true =>
        have Q1 := hid (P2.out rfl)
        go_wp2_with fail
        go_roundw
        case rel => exact ⟨a, h, m', by omega, by omega, rfl, rfl, rfl, LL.1, Q1.out⟩
        case measure => simp [intOf]; omega
    · obtain rfl : a = b := by omega
      go_wp2_with fail
      go_ret
      exact ⟨a, rfl, hb, LL.1, LL.2, m, rfl⟩

theorem told_due (ml : List Msg) (i : Nat) : ((ml.map mval).getD i (0, (none, 0, 0))).1 = ((ml.map told).getD i (0, [])).1 := by
  rw [List.getD_eq_getElem?_getD, List.getD_eq_getElem?_getD, List.getElem?_map, List.getElem?_map]
  cases ml[i]? <;> rfl

set_option maxHeartbeats 1000000 in
theorem due_any (b : Nat) (room now : Int) (v : Value) (ml : List Msg) (l : Ms) (w : World) (hw : PipV w b room v ml) (el : ml.map told = l) (hs : Srt l) (hl : l.length ≤ 256) :
    Calls Try.prog 52 #[.pointer (some ⟨b, 0, none⟩), .int .i64 now] w fun e w' => e = .returned (.int .i64 (du l now : Int)) ∧ Ext w w' := by
  obtain ⟨W, eW⟩ : ∃ W, W = (w.alloc (.cells #[.pointer (some ⟨b, 0, none⟩)] 53)).alloc (.cells #[.int .i64 now] 3) := ⟨_, rfl⟩
  have X : Ext w W := by rw [eW]; exact ((Ext.refl w).alloc _).alloc _
  have c1 : W.cell? ⟨w.heap.size, 0, none⟩ = some (.pointer (some ⟨b, 0, none⟩)) := by rw [eW, cell_of_row _ _ 0 _ _ _ (heap_alloc2_old w _ _)]; rfl
  have c2 : W.cell? ⟨w.heap.size + 1, 0, none⟩ = some (.int .i64 now) := by rw [eW, cell_of_row _ _ 0 _ _ _ (heap_alloc2_new w _ _)]; rfl
  have hl2 : ml.length = l.length := by rw [← el, List.length_map]
  have h2 := hw.ext X
  have S := search_any w.heap.size (w.heap.size + 1) ml.length (fun i => decide (now < ((ml.map mval).getD i (0, (none, 0, 0))).1)) W (by omega)
    (fun h m hh => (dueOf_any b _ _ h now room v ml (W.drewN m) (h2.ext ((Ext.refl W).drewN m)) c1 c2 hh).mono (by rintro e w' ⟨h1, m', rfl⟩; exact ⟨h1, m + m', World.drewN_drewN ..⟩))
    (fun i j hij hj h => by
      simp only [decide_eq_true_eq] at h ⊢
      rw [told_due, el] at h ⊢
      have h3 := List.pairwise_iff_getElem.1 hs i j (by omega) (by omega) hij
      rw [List.getD_eq_getElem?_getD, List.getElem?_eq_getElem (by omega)] at h ⊢
      simp only [Option.getD_some] at h ⊢
      omega)
  have FIN : Hid (∀ k : Nat, k ≤ ml.length → (∀ i, i < k → decide (now < ((ml.map mval).getD i (0, (none, 0, 0))).1) = false) → (∀ i, k ≤ i → i < ml.length → decide (now < ((ml.map mval).getD i (0, (none, 0, 0))).1) = true) → k = du l now) := by
    intro k hk h1 h2
    have hd := du_le l now
    have hx : ∀ i, i < l.length → (l.getD i (0, [])).1 = (l[i]?.getD (0, [])).1 := fun i _ => by rw [List.getD_eq_getElem?_getD]
    rcases Nat.lt_trichotomy k (du l now) with h | h | h
    · have q1 := h2 k (Nat.le_refl _) (by omega)
      have q2 := (srt_due hs now k (by omega)).1 h
      rw [told_due, el, List.getD_eq_getElem?_getD, List.getElem?_eq_getElem (by omega)] at q1
      simp at q1
      omega
    · exact h
    · have q1 := h1 (du l now) h
      have q2 := (srt_due hs now (du l now) (by omega)).2 (Nat.le_refl _)
      rw [told_due, el, List.getD_eq_getElem?_getD, List.getElem?_eq_getElem (by omega)] at q1
      simp at q1
      omega
  have SS := hid S
  have EW := hid eW
  have XX := hid X
  obtain ⟨ao, c, ev, k1, k2⟩ := hw.slice
  obtain ⟨_, cv⟩ := h2.cells
  subst ev
  rw [eW] at cv
  unfold maxLen at k2
  clear S eW X h2 hw el hl2 hs c2
  obtain ⟨N, eN⟩ : ∃ N, N = ml.length := ⟨_, rfl⟩
  rw [← eN] at SS FIN cv k1
  clear eN
  go_enter Try.func52, Try.ntmps52
  go_wp2_with fail
  rw [← EW.out]
  refine SS.out.mono ?_
  rintro e w' ⟨k, rfl, q1, q2, q3, m, rfl⟩
  have ek := FIN.out k q1 q2 q3
  have EK := hid ek
  have R : Hid (Ext w (W.drewN m)) := XX.out.drewN m
  clear SS ek q2 q3 FIN
  go_wp2_with fail
  go_ret
  exact ⟨by rw [← EK.out]; rfl, R.out⟩
end Go.Proofs.Ytjmgigfaiaemeaa.Pip
