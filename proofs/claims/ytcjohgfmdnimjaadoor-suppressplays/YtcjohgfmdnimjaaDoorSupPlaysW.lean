/-
  The walk of SuppressPlays: a round answers every sequence of calls as the document says.
-/
import Derived.Test.YtcjohgfmdnimjaaDoorSupStep
namespace Go.Proofs.YtcjohgfmdnimjaaDoor.suppressPlays
set_option linter.unusedVariables false
set_option maxRecDepth 100000
open Go.RowKit Go.Lib Go.Proofs.YtcjohgfmdnimjaaDoor.Sup

/-- a round, the reference's box beside it -/
def One (w V : World) (b g : Nat) (s : SS) : Prop := PlS w b V s ∧ V.heap[g]? = some (.cells (fr s) 37 (0, 0)) ∧ w.heap.size ≤ g ∧ g ≠ b
theorem One.ext {w V V' : World} {b g : Nat} {s : SS} (h : One w V b g s) (e : Ext V V') : One w V' b g s := ⟨h.1.ext e, e.row h.2.1, h.2.2⟩
theorem One.step {w V : World} {b g : Nat} {s : SS} (h : One w V b g s) (o : OpS) (f : FitO o) :
    Calls Tryd.prog 12 #[.pointer (some ⟨b, 0, none⟩), .agg (fr s), .agg (ocs o)] V fun e w' => e = .returned (.tuple #[.agg (fr (dst s o)), .bool true]) ∧ w'.heap[g]? = some (.cells (fr s) 37 (0, 0)) ∧ One w (w'.setRow g (fr (dst s o))) b g (dst s o) := by
  refine (step_any b s o V h.1.1 f).mono ?_
  rintro e w' ⟨rfl, r, k⟩
  have rg := k.row h.2.2.2 h.2.1
  have p := h.1.wrote r k
  have kb : Kept (fun q => q ≠ g) w' (w'.setRow g (fr (dst s o))) := (Kept.refl _ w').setRow (fun hne => hne rfl) _
  exact ⟨rfl, rg, ⟨r.kept kb (fun e => h.2.2.2 e.symm), ext_kept p.2.1 kb h.2.2.1, p.2.2⟩, setRow_heap _ _ _ _ _ _ rg, h.2.2⟩

set_option maxHeartbeats 4000000 in
theorem walk (v0 : Value) (l : List OpS) (w : World) (H : Steps w) (hz : OpsIn w v0 l) : Calls Tryd.prog 5 #[v0] w fun e w' => e = .returned (.bool true) ∧ Ext w w' := by
  have AW : Hid (∀ V, Ext w V → Calls Tryd.prog 9 #[] V fun e w' => e = .returned (.bool true) ∧ Ext V w') := fun V x => awake_any V (H.ext x)
  obtain ⟨ao, cp, rfl, k1, k2⟩ := hz.slice
  have OPS := hid hz.seen
  have GET : Hid (∀ k, k < l.length → ∃ q : OpS, l[k]? = some q) := fun k hk => ⟨_, List.getElem?_eq_getElem hk⟩
  obtain ⟨N, eN⟩ : ∃ N, N = l.length := ⟨_, rfl⟩
  rw [← eN] at GET k1 ⊢
  unfold maxLen at k2
  clear hz eN
  by_cases big : 100 < N
  · have b1 : (100 : Int) < (N : Int) := by omega
    clear OPS GET big
    go_enter Tryd.func5, Tryd.ntmps5
    go_wp2_with fail
    refine (new_any _).mono ?_
    rintro e w1 ⟨b, rfl, t1, hb, x1⟩
    have X1 := hid x1
    clear t1 hb x1
    go_wp2_with fail
    refine (AW.out _ X1.out).mono ?_
    rintro e w2 ⟨rfl, x2⟩
    have XF := hid (X1.out.trans x2)
    clear AW X1 x2
    go_wp2_with fail
    go_ret
    exact ⟨rfl, XF.out⟩
  have b1 : ¬ (100 : Int) < (N : Int) := by omega
  go_enter Tryd.func5, Tryd.ntmps5
  go_wp2_with fail
  refine (new_any _).mono ?_
  rintro e w1 ⟨b, rfl, t1, hb, x1⟩
  obtain ⟨W4, W5, g, e4, eg, e5, r4, r5, x5⟩ := newbox w1 snew
  have bl := t1.lt
  have S0 : Hid (One w W5 b g snew) := ⟨⟨t1.ext x5, x1.trans x5, hb⟩, r5, by have := x1.size; omega, by omega⟩
  have E4 := hid e4
  have EG := hid eg
  have E5 := hid e5
  have R4 := hid r4
  have ONE := hid (fr_one snew)
  clear e4 eg e5 r4 r5 x5 t1 hb x1 bl
  go_wp2_with (first
    | rw [← EG.out, ← E4.out]
    | (refine wpList_store_row rfl 37 (.tmp 4) _ rfl g (fr snew) rfl rfl 37 _ R4.out size_f rfl ONE.out ?_; rw [← E5.out]))
  clear R4 ONE E4 E5 EG
  go_loopw [6, 7, 24] (fun _ _ iv wr => ∃ (k : Nat) (s : SS), k ≤ N ∧ iv = .int .i64 (k : Int) ∧ Hid (One w wr b g s)) (fun _ _ iv _ => (N - RowKit.intOf iv).toNat)
  case atStart => exact ⟨0, snew, by omega, rfl, S0⟩
  case round =>
    clear S0
    obtain ⟨k, s, hk, rfl, S⟩ := hrel
    by_cases q : k < N
    · clear AW
      have i1 : (k : Int) < (N : Int) := by omega
      have i2 : (0 : Int) ≤ (k : Int) := by omega
      obtain ⟨o, eo⟩ := GET.out k q
      obtain ⟨fo, g0, q0, rfl, CC⟩ := OPS.out k _ eo
      obtain ⟨y0, y1, y2, y3, y4⟩ := CC _ S.out.1.2.1
      have FO := hid fo
      have S1 := hid (S.out.ext (bx_ext wr o.1 o.2.1 o.2.2.1 o.2.2.2.1 o.2.2.2.2))
      have r1 := hid (bx_row wr o.1 o.2.1 o.2.2.1 o.2.2.2.1 o.2.2.2.2)
      have E1 : Hid (wr.alloc (.cells #[.int .i64 o.1, .int .i64 o.2.1, .int .i64 o.2.2.1, .int .i64 o.2.2.2.1, .int .u64 o.2.2.2.2] 39) = bx wr o.1 o.2.1 o.2.2.1 o.2.2.2.1 o.2.2.2.2) := rfl
      obtain ⟨W1, eW⟩ : ∃ W1, W1 = bx wr o.1 o.2.1 o.2.2.1 o.2.2.2.1 o.2.2.2.2 := ⟨_, rfl⟩
      rw [← eW] at S1 r1 E1
      obtain ⟨p, ep⟩ : ∃ p, p = wr.heap.size := ⟨_, rfl⟩
      have EP := hid ep
      rw [← ep] at r1
      have RB := hid S1.out.2.1
      clear OPS GET S eo CC eW ep fo
      go_wp2_with (first
        | rw [← EP.out, E1.out]
        | refine wpList_load_row rfl 37 _ rfl g rfl 37 _ (0, 0) _ RB.out Tryd.underlying37 rfl size_f ?_
        | refine wpList_load_row rfl 39 _ rfl p rfl 39 _ (0, 0) _ r1.out Tryd.underlying39 rfl size_o ?_)
      refine (S1.out.step o FO.out).mono ?_
      rintro e w5 ⟨rfl, r5, S2⟩
      obtain ⟨W5, e5⟩ : ∃ W5, W5 = w5.setRow g (fr (dst s o)) := ⟨_, rfl⟩
      rw [← e5] at S2
      have S5 := hid S2
      have R5 := hid r5
      have E5 := hid e5
      have RB5 := hid S2.2.1
      have ON5 := hid (fr_one (dst s o))
      clear S2 r5 e5 S1 RB r1 E1 EP FO y0 y1 y2 y3 y4
      go_wp2_with (first
        | (refine wpList_store_row rfl 37 _ _ rfl g (fr (dst s o)) rfl rfl 37 _ R5.out size_f rfl ON5.out ?_; rw [← E5.out])
        | refine wpList_load_row_g (by rfl) 37 _ rfl g rfl 37 _ (0, 0) _ RB5.out Tryd.underlying37 rfl size_f ?_)
      refine (same_any b _ _ S5.out.1.1).mono ?_
      rintro e w6 ⟨rfl, x6⟩
      have S6 := hid (S5.out.ext x6)
      clear x6 S5 RB5 R5 ON5
      go_wp2_with fail
      go_roundw
      case rel => exact ⟨k + 1, _, by omega, by go_num, S6⟩
      case measure => simp [RowKit.intOf]; omega
    · obtain rfl : N = k := by omega
      have ST := hid S.out.1.2.1
      clear OPS GET
      go_wp2_with fail
      refine (AW.out _ ST.out).mono ?_
      rintro e w5 ⟨rfl, x5⟩
      have XF := hid (ST.out.trans x5)
      clear AW S x5 ST
      go_wp2_with fail
      go_ret
      exact ⟨rfl, XF.out⟩
end Go.Proofs.YtcjohgfmdnimjaaDoor.suppressPlays
