/-
  Rows of ints; the walk of the reference's Set.
-/
import Derived.Test.YtbolhkafdgiggaaRngMake
namespace Go.Proofs.Ytbolhkafdgiggaa
set_option linter.unusedVariables false
set_option maxRecDepth 100000
open Go.RowKit Go.Lib

theorem info_int8 : (Try.prog.info? 3).map (fun i => (i.zero, i.size, i.bytes)) = some (some (.int .i64 0), 1, 8) := by kernel_rfl

/-- ints as they lie in cells -/
def icells (l : List Int) : List Value := l.map (Value.int .i64)
theorem icells_length (l : List Int) : (icells l).length = l.length := List.length_map _
theorem icells_append (a b : List Int) : icells (a ++ b) = icells a ++ icells b := List.map_append ..
theorem icells_at (l : List Int) (k : Nat) (h : k < l.length) : (icells l)[k]? = some (.int .i64 (l.getD k 0)) := by
  unfold icells
  rw [List.getElem?_map, List.getD_eq_getElem?_getD, List.getElem?_eq_getElem h]
  rfl

/-- the ints l lie in a row that was made behind w -/
def NewI (w wr : World) (v : Value) (l : List Int) : Prop := wr.ownsRow 0 3 1 v l.length (icells l) ∧ (∀ k, v.ownBlock = some k → w.heap.size ≤ k) ∧ Ext w wr
theorem NewI.nil (w : World) : NewI w w (.slice none 0 0) [] := ⟨World.ownsRow_nil _ _ _ _, fun k hk => by simp [Value.ownBlock] at hk, Ext.refl w⟩
theorem NewI.row {w wr : World} {v : Value} {l : List Int} (h : NewI w wr v l) : RowK (fun i => w.heap.size ≤ i ∧ i < wr.heap.size) wr v 1 (icells l) := by
  obtain ⟨o, h1, h2⟩ := h
  rcases o.2 with ⟨rfl, h0⟩ | ⟨g, cap, cur, rfl, hb, hg, k1, k2, _, ht⟩
  · have : l = [] := List.eq_nil_of_length_eq_zero h0
    subst this
    exact RowK.nil _ wr 1
  · exact ⟨_, _, _, rfl, by rw [icells_length, Nat.mul_one], k1, k2, fun _ => ⟨g, 0, rfl, ⟨h1 g rfl, lt_of_row hg⟩, fun j u hu => by
      have := World.ownsRow.cells o (g := g) rfl j u hu
      rwa [Addr.add_mid] at this⟩⟩
theorem NewI.step {w wr : World} {v : Value} {l : List Int} (h : NewI w wr v l) (x : Int) (hl : l.length ≤ 100000) :
    ∃ v' w', (Builtin.append_ #[26, 26] 26 #[v, .slice (some ⟨wr.heap.size, 0, none⟩) 1 1]).run Try.prog (wr.alloc (.cells #[.int .i64 x] 3)) = .ok v' w' ∧ NewI w w' v' (l ++ [x]) := by
  obtain ⟨i0, hi, hz0, hz1, hz2⟩ := info_parts info_int8
  obtain ⟨o, h1, h2⟩ := h
  have Y := (Ext.refl wr).alloc (.cells #[.int .i64 x] 3)
  have o1 := o.alloc (.cells #[.int .i64 x] 3)
  have n1 : ∀ j u, [Value.int .i64 x][j]? = some u → (wr.alloc (.cells #[.int .i64 x] 3)).cell? ((⟨wr.heap.size, 0, none⟩ : Addr).add j) = some u := by
    intro j u hu
    have hj : j = 0 := by have := (List.getElem?_eq_some_iff.1 hu).1; simp at this; exact this
    subst hj
    rw [Addr.add_mid, cell_of_row _ _ _ _ _ _ (heap_alloc_new wr _)]
    simpa using hu
  obtain ⟨v', w', r, o2, gb, hv⟩ := run_append_own (P := Try.prog) (wr.alloc (.cells #[.int .i64 x] 3)) 0 26 26 3 i0 (.int .i64 0) 1 8 Try.underlying26 hi hz0 hz1 hz2 rfl (by decide) v l.length (icells l) o1 ⟨wr.heap.size, 0, none⟩ 1 1 [.int .i64 x] rfl n1 (by simp [Value.oneCell']) (by unfold maxLen; omega) (by omega) (Nat.zero_le _)
  have X2 : Ext w w' := (h2.trans Y).rowed gb h1
  refine ⟨v', w', r, ?_, ?_, X2⟩
  · rw [List.length_append, icells_append]; exact o2
  · intro k hk
    -- where the row lies now: where it lay, or in new memory
    rcases Nat.lt_or_ge k w.heap.size with q | q
    · exfalso
      rcases o2.2 with ⟨e, _⟩ | ⟨g, cap, cur, e, _, hg, _, _, hs, ht⟩
      · rw [e] at hk; simp [Value.ownBlock] at hk
      · subst e
        simp only [Value.ownBlock, Option.some.injEq] at hk
        subst hk
        rcases o.2 with ⟨rfl, h0⟩ | ⟨b, cap', cur', rfl, _, hgb, hnc, hcm, hcs, htake⟩
        · obtain rfl : l = [] := List.eq_nil_of_length_eq_zero h0
          have hr := run_append_nil (P := Try.prog) (wr.alloc (.cells #[.int .i64 x] 3)) 26 26 3 i0 (.int .i64 0) Try.underlying26 hi hz0 ⟨wr.heap.size, 0, none⟩ 1 1 [.int .i64 x] (by rw [hz1]; rfl) n1 (by omega) (by omega) (by rw [hz2]; omega)
          rw [hr] at r
          cases r
          have := h2.size
          simp at q
          omega
        · have hb := h1 b rfl
          have hgb' : (wr.alloc (.cells #[.int .i64 x] 3)).heap[b]? = some (.cells cur' 3 (0, 0)) := Y.row hgb
          by_cases hroom : l.length + 1 ≤ cap'
          · have hr := run_append_room (P := Try.prog) (wr.alloc (.cells #[.int .i64 x] 3)) 26 26 3 i0 Try.underlying26 hi b l.length cap' cur' hgb' ⟨wr.heap.size, 0, none⟩ 1 1 [.int .i64 x] (by rw [hz1]; rfl) n1 (by simp [Value.oneCell']) hroom (by rw [hz1, hcs]; simp; omega)
            rw [hr] at r
            cases r
            omega
          · have holds : ∀ j u, (icells l)[j]? = some u → (wr.alloc (.cells #[.int .i64 x] 3)).cell? ((⟨b, 0, none⟩ : Addr).add j) = some u := World.ownsRow.cells o1 (g := b) rfl
            have hr := run_append_grow (P := Try.prog) (wr.alloc (.cells #[.int .i64 x] 3)) 26 26 3 i0 (.int .i64 0) Try.underlying26 hi hz0 ⟨b, 0, none⟩ l.length cap' (icells l) (by rw [hz1, icells_length, Nat.mul_one]) holds ⟨wr.heap.size, 0, none⟩ 1 1 [.int .i64 x] (by rw [hz1]; rfl) n1 (by omega) (by omega) (growslice_fits (by omega) (by rw [hz2]; omega))
            rw [hr] at r
            cases r
            have := h2.size
            simp at q
            omega
    · exact q

/-- from a up to b they are so -/
def rset (xs : List Int) (a b to : Int) (i : Nat) : Int := if a ≤ (i : Int) ∧ (i : Int) < b then to else xs.getD i 0
/-- which ones were another way -/
def rwas (xs : List Int) (a b to : Int) (i : Int) : Bool := (decide (a ≤ i) && decide (i < b)) && !(decide (xs.getD i.toNat 0 = to))
def rlist (xs : List Int) (a b to : Int) (k : Nat) : List Int := (List.range k).map (rset xs a b to)
theorem rlist_succ (xs : List Int) (a b to : Int) (k : Nat) : rlist xs a b to (k + 1) = rlist xs a b to k ++ [rset xs a b to k] := by
  unfold rlist
  rw [List.range_succ, List.map_append]
  rfl
theorem rlist_length (xs : List Int) (a b to : Int) (k : Nat) : (rlist xs a b to k).length = k := by simp [rlist]
theorem rlist_at (xs : List Int) (a b to : Int) (k i : Nat) (h : i < k) : (rlist xs a b to k).getD i 0 = rset xs a b to i := by
  unfold rlist
  rw [List.getD_eq_getElem?_getD, List.getElem?_map, List.getElem?_range h]
  rfl

set_option maxHeartbeats 4000000 in
theorem refSet_any (K : Nat → Prop) (w : World) (v : Value) (xs : List Int) (a b to : Int) (hv : RowK K w v 1 (icells xs)) (hl : xs.length ≤ 100000) :
    Calls Try.prog 24 #[v, .int .i64 a, .int .i64 b, .int .i64 to] w fun e w' =>
      ∃ v', e = .returned (.tuple #[v', .int .i64 (num (rwas xs a b to) xs.length)]) ∧ NewI w w' v' (rlist xs a b to xs.length) := by
  obtain ⟨ao, n, c, rfl, h1, h2, h3, h4⟩ := hv
  have e : n = xs.length := by rw [icells_length] at h1; omega
  subst e
  have H4 := hid h4
  have N0 := hid (NewI.nil w)
  unfold maxLen at h3
  clear h1 h4
  obtain ⟨TT, eT⟩ : ∃ TT, num (rwas xs a b to) xs.length = TT := ⟨_, rfl⟩
  rw [eT]
  have ET := hid eT
  clear eT
  go_enter Try.func24, Try.ntmps24
  go_wp2_with fail
  go_loopw [10, 11, 12] (fun o m i wr => ∃ k : Nat, k ≤ xs.length ∧ i = .int .i64 (k : Int) ∧ m = .int .i64 (num (rwas xs a b to) k) ∧ NewI w wr o (rlist xs a b to k)) (fun _ _ i _ => (xs.length - intOf i).toNat)
  case atStart => exact ⟨0, by omega, rfl, rfl, N0.out⟩
  case round =>
    obtain ⟨k, hk, rfl, rfl, N⟩ := hrel
    clear N0
    by_cases q : k < xs.length
    · obtain ⟨g, o, rfl, hg, hc⟩ := H4.out (by omega)
      have x1 := N.2.2.cell (hc k _ (icells_at xs k q))
      have ST := hid (N.step (rset xs a b to k) (by rw [rlist_length]; omega))
      rw [← rlist_succ] at ST
      have NB := num_bound (rwas xs a b to) k
      have NS : Hid (num (rwas xs a b to) (k + 1) = num (rwas xs a b to) k + if rwas xs a b to (k : Int) = true then 1 else 0) := rfl
      obtain ⟨oa, on, oc, eo⟩ := owns_slice N.1
      subst eo
      have er : Hid (rset xs a b to k = if a ≤ (k : Int) ∧ (k : Int) < b then to else xs.getD k 0) := rfl
      have ew : Hid (rwas xs a b to (k : Int) = ((decide (a ≤ (k : Int)) && decide ((k : Int) < b)) && !(decide (xs.getD k 0 = to)))) := by
        show _ = _
        unfold rwas
        rw [Int.toNat_natCast]
      have i1 : (k : Int) < (xs.length : Int) := by omega
      have i2 : (0 : Int) ≤ (k : Int) := by omega
      clear N hc
      obtain ⟨v', w', r, N'⟩ := ST.out
      have N2 := hid N'
      obtain ⟨oa', on', oc', eo'⟩ := owns_slice N'.1
      subst eo'
      clear ST N'
      generalize rset xs a b to k = s at *
      generalize rwas xs a b to (k : Int) = f at *
      generalize num (rwas xs a b to) k = T at *
      generalize xs.getD k 0 = x at *
      by_cases t1 : a ≤ (k : Int)
      · by_cases t2 : (k : Int) < b
        · by_cases t3 : x = to
          · subst t3
            have es : s = x := by rw [er.out]; simp [t1, t2]
            have ef : f = false := by rw [ew.out]; simp
            rw [es] at r
            have R := hid r
            rw [ef] at NS
            clear r er ew
            go_wp2_with (at_builtin; refine wpList_append_run _ rfl (.tmp 38) (.tmp 40) 26 26 rfl _ _ rfl rfl _ _ R.out ?_)
            go_roundw
            case rel => exact ⟨k + 1, by omega, by go_num, by rw [NS.out]; simp, N2.out⟩
            case measure => simp [intOf]; omega
          · have es : s = to := by rw [er.out]; simp [t1, t2]
            have ef : f = true := by rw [ew.out]; simp [t1, t2, t3]
            rw [es] at r
            have R := hid r
            rw [ef] at NS
            have t4 : (x == to) = false := by simpa using t3
            clear r er ew
            go_wp2_with (at_builtin; refine wpList_append_run _ rfl (.tmp 38) (.tmp 40) 26 26 rfl _ _ rfl rfl _ _ R.out ?_)
            go_roundw
            case rel => exact ⟨k + 1, by omega, by go_num, by rw [NS.out]; simp, N2.out⟩
            case measure => simp [intOf]; omega
        · have es : s = x := by rw [er.out]; simp [t2]
          have ef : f = false := by rw [ew.out]; simp [t2]
          rw [es] at r
          have R := hid r
          rw [ef] at NS
          clear r er ew
          go_wp2_with (at_builtin; refine wpList_append_run _ rfl (.tmp 38) (.tmp 40) 26 26 rfl _ _ rfl rfl _ _ R.out ?_)
          go_roundw
          case rel => exact ⟨k + 1, by omega, by go_num, by rw [NS.out]; simp, N2.out⟩
          case measure => simp [intOf]; omega
      · have es : s = x := by rw [er.out]; simp [t1]
        have ef : f = false := by rw [ew.out]; simp [t1]
        rw [es] at r
        have R := hid r
        rw [ef] at NS
        clear r er ew
        go_wp2_with (at_builtin; refine wpList_append_run _ rfl (.tmp 38) (.tmp 40) 26 26 rfl _ _ rfl rfl _ _ R.out ?_)
        go_roundw
        case rel => exact ⟨k + 1, by omega, by go_num, by rw [NS.out]; simp, N2.out⟩
        case measure => simp [intOf]; omega
    · obtain rfl : k = xs.length := by omega
      obtain ⟨oa, on, oc, eo⟩ := owns_slice N.1
      subst eo
      have N2 := hid N
      clear N
      generalize hT : num (rwas xs a b to) xs.length = T at *
      obtain rfl : T = TT := ET.out
      clear hT
      go_wp2_with fail
      go_ret2
      exact ⟨_, rfl, N2.out⟩
end Go.Proofs.Ytbolhkafdgiggaa
